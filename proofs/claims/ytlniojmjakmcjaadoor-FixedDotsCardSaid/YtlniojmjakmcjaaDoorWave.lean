/- The contracts of package fixed's wave, rise, Sin, Cos over this program: what the document's nested products yield, for every part of a turn. -/
import Derived.Test.YtlniojmjakmcjaaDoorFix
import Derived.Handy
namespace Go.Proofs.YtlniojmjakmcjaaDoor
open Go.RowKit
set_option linter.unusedVariables false

theorem valOf_in {m lo hi : Int} (h0 : lo ≤ m) (h1 : m ≤ hi) (h2 : -9223372036854775808 ≤ lo) (h3 : hi ≤ 9223372036854775807) : Fix.valOf m = m := by
  unfold Fix.valOf; rw [if_pos (show Fix.fits m from ⟨by omega, by omega⟩)]

/-- A factor from 0 to One does not enlarge. -/
theorem rnd_part {y s : Int} (h0 : 0 ≤ y) (h1 : y ≤ 1073741824) (s0 : 0 ≤ s) : 0 ≤ Fix.rnd (y * s) 1073741824 ∧ Fix.rnd (y * s) 1073741824 ≤ s := by
  have a : 0 ≤ y * s := Int.mul_nonneg h0 s0
  have b : y * s ≤ 1073741824 * s := Int.mul_le_mul_of_nonneg_right h1 s0
  unfold Fix.rnd
  omega
theorem mulV_part {y s : Int} (h0 : 0 ≤ y) (h1 : y ≤ 1073741824) (s0 : 0 ≤ s) (s1 : s ≤ 9223372036854775807) : 0 ≤ mulV y s ∧ mulV y s ≤ s := by
  have h := rnd_part h0 h1 s0
  unfold mulV
  rw [valOf_in h.1 h.2 (by omega) s1]
  exact h
theorem mulV_fits (a b : Int) : Fix.fits (mulV a b) := Fix.valOf_fits _

/-- The twelve coefficients lie where the program's text lays them. -/
structure Ser (w : World) : Prop where
  c0 : w.cell? ⟨2, 0, none⟩ = some (.int .i64 27)
  c1 : w.cell? ⟨2, 1, none⟩ = some (.int .i64 2959)
  c2 : w.cell? ⟨2, 2, none⟩ = some (.int .i64 213044)
  c3 : w.cell? ⟨2, 3, none⟩ = some (.int .i64 8947849)
  c4 : w.cell? ⟨2, 4, none⟩ = some (.int .i64 178956971)
  c5 : w.cell? ⟨2, 5, none⟩ = some (.int .i64 1073741824)
  c6 : w.cell? ⟨2, 6, none⟩ = some (.int .i64 296)
  c7 : w.cell? ⟨2, 7, none⟩ = some (.int .i64 26631)
  c8 : w.cell? ⟨2, 8, none⟩ = some (.int .i64 1491308)
  c9 : w.cell? ⟨2, 9, none⟩ = some (.int .i64 44739243)
  c10 : w.cell? ⟨2, 10, none⟩ = some (.int .i64 536870912)
  c11 : w.cell? ⟨2, 11, none⟩ = some (.int .i64 1073741824)
theorem Ser.drewN {w : World} (h : Ser w) (n : Nat) : Ser (w.drewN n) := ⟨h.c0, h.c1, h.c2, h.c3, h.c4, h.c5, h.c6, h.c7, h.c8, h.c9, h.c10, h.c11⟩

def waveX (r : Int) : Int := Fix.ratioV r 6746518852 4294967296
def waveY (r : Int) : Int := mulV (waveX r) (waveX r)
def nest (y a b c d e f : Int) : Int := f - mulV y (e - mulV y (d - mulV y (c - mulV y (b - mulV y a))))
def waveS (r : Int) : Int := mulV (waveX r) (nest (waveY r) 27 2959 213044 8947849 178956971 1073741824)
def waveC (r : Int) : Int := nest (waveY r) 296 26631 1491308 44739243 536870912 1073741824

theorem waveX_in {r : Int} (h0 : 0 ≤ r) (h1 : r ≤ 536870912) : 0 ≤ waveX r ∧ waveX r ≤ 843314857 := by
  have e : Fix.ratioM r 6746518852 4294967296 = Fix.rnd (r * 6746518852) 4294967296 := rfl
  have b : 0 ≤ Fix.rnd (r * 6746518852) 4294967296 ∧ Fix.rnd (r * 6746518852) 4294967296 ≤ 843314857 := by unfold Fix.rnd; omega
  unfold waveX Fix.ratioV
  rw [if_neg (by omega), e, valOf_in b.1 b.2 (by omega) (by omega)]
  exact b
theorem waveY_in {r : Int} (h0 : 0 ≤ r) (h1 : r ≤ 536870912) : 0 ≤ waveY r ∧ waveY r ≤ 843314857 := by
  have x := waveX_in h0 h1
  have y := mulV_part x.1 (show waveX r ≤ 1073741824 by omega) x.1 (by omega)
  unfold waveY
  omega

theorem times_any (a b : Int) (ha : Fix.fits a) (hb : Fix.fits b) (w : World) :
    Calls Tryd.prog 52 #[.int .i64 a, .int .i64 b] w fun e w' => e = .returned (.int .i64 (mulV a b)) ∧ ∃ n, w' = w.drewN n := by
  go_enter Tryd.func52, Tryd.ntmps52
  go_wp2_with fail
  refine (mul_any a b ha hb _).mono ?_
  rintro e w' ⟨rfl, n, rfl⟩
  go_wp2
  go_ret
  exact ⟨rfl, n, rfl⟩

theorem idx0_0 (w : World) : (Instr.index 67 (.agg #[.int .i64 27, .int .i64 2959, .int .i64 213044, .int .i64 8947849, .int .i64 178956971, .int .i64 1073741824]) (.int .i64 0)).run Tryd.prog w = .ok (.int .i64 27) w := by kernel_rfl
theorem idx0_1 (w : World) : (Instr.index 67 (.agg #[.int .i64 27, .int .i64 2959, .int .i64 213044, .int .i64 8947849, .int .i64 178956971, .int .i64 1073741824]) (.int .i64 1)).run Tryd.prog w = .ok (.int .i64 2959) w := by kernel_rfl
theorem idx0_2 (w : World) : (Instr.index 67 (.agg #[.int .i64 27, .int .i64 2959, .int .i64 213044, .int .i64 8947849, .int .i64 178956971, .int .i64 1073741824]) (.int .i64 2)).run Tryd.prog w = .ok (.int .i64 213044) w := by kernel_rfl
theorem idx0_3 (w : World) : (Instr.index 67 (.agg #[.int .i64 27, .int .i64 2959, .int .i64 213044, .int .i64 8947849, .int .i64 178956971, .int .i64 1073741824]) (.int .i64 3)).run Tryd.prog w = .ok (.int .i64 8947849) w := by kernel_rfl
theorem idx0_4 (w : World) : (Instr.index 67 (.agg #[.int .i64 27, .int .i64 2959, .int .i64 213044, .int .i64 8947849, .int .i64 178956971, .int .i64 1073741824]) (.int .i64 4)).run Tryd.prog w = .ok (.int .i64 178956971) w := by kernel_rfl
theorem idx0_5 (w : World) : (Instr.index 67 (.agg #[.int .i64 27, .int .i64 2959, .int .i64 213044, .int .i64 8947849, .int .i64 178956971, .int .i64 1073741824]) (.int .i64 5)).run Tryd.prog w = .ok (.int .i64 1073741824) w := by kernel_rfl
set_option maxHeartbeats 2000000 in
theorem wave_sin (r : Int) (h0 : 0 ≤ r) (h1 : r ≤ 536870912) (w : World) (hs : Ser w) :
    Calls Tryd.prog 49 #[.int .i64 0, .int .i64 r] w fun e w' => e = .returned (.int .i64 (waveS r)) ∧ ∃ n, w' = w.drewN n := by
  obtain ⟨x0, x1⟩ := waveX_in h0 h1
  obtain ⟨y0, y1⟩ := waveY_in h0 h1
  have R : Hid (∀ w, Calls Tryd.prog 11 #[.int .i64 r, .int .i64 6746518852, .int .i64 4294967296] w fun e w' => e = .returned (.tuple #[.int .i64 (waveX r), .int .i64 (Fix.ratioE r 6746518852 4294967296)]) ∧ ∃ n, w' = w.drewN n) := Lib.hid (fun w => ratio_any r 6746518852 4294967296 ⟨by omega, by omega⟩ ⟨by omega, by omega⟩ ⟨by omega, by omega⟩ w)
  have Y : Hid (∀ w, Calls Tryd.prog 52 #[.int .i64 (waveX r), .int .i64 (waveX r)] w fun e w' => e = .returned (.int .i64 (waveY r)) ∧ ∃ n, w' = w.drewN n) := Lib.hid (fun w => times_any (waveX r) (waveX r) ⟨by omega, by omega⟩ ⟨by omega, by omega⟩ w)
  unfold waveS nest
  generalize waveX r = x at *
  generalize waveY r = y at *
  have m0 : mulV y 0 = 0 := by have := mulV_part y0 (show y ≤ 1073741824 by omega) (show (0 : Int) ≤ 0 by omega) (by omega); omega
  have T0 := Lib.hid (fun w => times_any y 0 ⟨by omega, by omega⟩ ⟨by omega, by omega⟩ w)
  have T1 := Lib.hid (fun w => times_any y (27) ⟨by omega, by omega⟩ ⟨by omega, by omega⟩ w)
  obtain ⟨l1, u1⟩ := mulV_part y0 (show y ≤ 1073741824 by omega) (show (0 : Int) ≤ 27 by omega) (by omega)
  generalize mulV y (27) = z1 at *
  have T2 := Lib.hid (fun w => times_any y (2959 - z1) ⟨by omega, by omega⟩ ⟨by omega, by omega⟩ w)
  obtain ⟨l2, u2⟩ := mulV_part y0 (show y ≤ 1073741824 by omega) (show (0 : Int) ≤ 2959 - z1 by omega) (by omega)
  generalize mulV y (2959 - z1) = z2 at *
  have T3 := Lib.hid (fun w => times_any y (213044 - z2) ⟨by omega, by omega⟩ ⟨by omega, by omega⟩ w)
  obtain ⟨l3, u3⟩ := mulV_part y0 (show y ≤ 1073741824 by omega) (show (0 : Int) ≤ 213044 - z2 by omega) (by omega)
  generalize mulV y (213044 - z2) = z3 at *
  have T4 := Lib.hid (fun w => times_any y (8947849 - z3) ⟨by omega, by omega⟩ ⟨by omega, by omega⟩ w)
  obtain ⟨l4, u4⟩ := mulV_part y0 (show y ≤ 1073741824 by omega) (show (0 : Int) ≤ 8947849 - z3 by omega) (by omega)
  generalize mulV y (8947849 - z3) = z4 at *
  have T5 := Lib.hid (fun w => times_any y (178956971 - z4) ⟨by omega, by omega⟩ ⟨by omega, by omega⟩ w)
  obtain ⟨l5, u5⟩ := mulV_part y0 (show y ≤ 1073741824 by omega) (show (0 : Int) ≤ 178956971 - z4 by omega) (by omega)
  generalize mulV y (178956971 - z4) = z5 at *
  have TL := Lib.hid (fun w => times_any x (1073741824 - z5) ⟨by omega, by omega⟩ ⟨by omega, by omega⟩ w)
  have c0 := hs.c0; have c1 := hs.c1; have c2 := hs.c2; have c3 := hs.c3; have c4 := hs.c4; have c5 := hs.c5
  have N : ∀ a b : Nat, (w.drewN a).drewN b = w.drewN (a + b) := fun a b => World.drewN_drewN w a b
  clear hs
  have i0 := idx0_0
  have i1 := idx0_1
  have i2 := idx0_2
  have i3 := idx0_3
  have i4 := idx0_4
  have i5 := idx0_5
  have N' := Lib.hid N
  clear N
  go_enter Tryd.func49, Tryd.ntmps49
  go_wp2_with fail
  refine (R.out _).mono ?_
  rintro e w' ⟨rfl, n, rfl⟩
  go_wp2_with fail
  refine (Y.out _).mono ?_
  rintro e w' ⟨rfl, n', rfl⟩
  go_wp2_with fail
  refine wp_loop_rounds 7 ?_
  rw [rounds_succ]
  go_wp2_with fail
  refine (T0.out _).mono ?_
  rintro e w' ⟨rfl, n0, rfl⟩
  go_wp2_with fail
  rw [rounds_succ]
  go_wp2_with fail
  refine (T1.out _).mono ?_
  rintro e w' ⟨rfl, n1, rfl⟩
  go_wp2_with fail
  rw [rounds_succ]
  go_wp2_with fail
  refine (T2.out _).mono ?_
  rintro e w' ⟨rfl, n2, rfl⟩
  go_wp2_with fail
  rw [rounds_succ]
  go_wp2_with fail
  refine (T3.out _).mono ?_
  rintro e w' ⟨rfl, n3, rfl⟩
  go_wp2_with fail
  rw [rounds_succ]
  go_wp2_with fail
  refine (T4.out _).mono ?_
  rintro e w' ⟨rfl, n4, rfl⟩
  go_wp2_with fail
  rw [rounds_succ]
  go_wp2_with fail
  refine (T5.out _).mono ?_
  rintro e w' ⟨rfl, n5, rfl⟩
  go_wp2_with fail
  rw [rounds_succ]
  go_wp2_with fail
  refine (TL.out _).mono ?_
  rintro e w' ⟨rfl, nL, rfl⟩
  go_wp2
  go_ret
  exact ⟨rfl, _, rfl⟩

theorem idx1_0 (w : World) : (Instr.index 67 (.agg #[.int .i64 296, .int .i64 26631, .int .i64 1491308, .int .i64 44739243, .int .i64 536870912, .int .i64 1073741824]) (.int .i64 0)).run Tryd.prog w = .ok (.int .i64 296) w := by kernel_rfl
theorem idx1_1 (w : World) : (Instr.index 67 (.agg #[.int .i64 296, .int .i64 26631, .int .i64 1491308, .int .i64 44739243, .int .i64 536870912, .int .i64 1073741824]) (.int .i64 1)).run Tryd.prog w = .ok (.int .i64 26631) w := by kernel_rfl
theorem idx1_2 (w : World) : (Instr.index 67 (.agg #[.int .i64 296, .int .i64 26631, .int .i64 1491308, .int .i64 44739243, .int .i64 536870912, .int .i64 1073741824]) (.int .i64 2)).run Tryd.prog w = .ok (.int .i64 1491308) w := by kernel_rfl
theorem idx1_3 (w : World) : (Instr.index 67 (.agg #[.int .i64 296, .int .i64 26631, .int .i64 1491308, .int .i64 44739243, .int .i64 536870912, .int .i64 1073741824]) (.int .i64 3)).run Tryd.prog w = .ok (.int .i64 44739243) w := by kernel_rfl
theorem idx1_4 (w : World) : (Instr.index 67 (.agg #[.int .i64 296, .int .i64 26631, .int .i64 1491308, .int .i64 44739243, .int .i64 536870912, .int .i64 1073741824]) (.int .i64 4)).run Tryd.prog w = .ok (.int .i64 536870912) w := by kernel_rfl
theorem idx1_5 (w : World) : (Instr.index 67 (.agg #[.int .i64 296, .int .i64 26631, .int .i64 1491308, .int .i64 44739243, .int .i64 536870912, .int .i64 1073741824]) (.int .i64 5)).run Tryd.prog w = .ok (.int .i64 1073741824) w := by kernel_rfl
set_option maxHeartbeats 2000000 in
theorem wave_cos (r : Int) (h0 : 0 ≤ r) (h1 : r ≤ 536870912) (w : World) (hs : Ser w) :
    Calls Tryd.prog 49 #[.int .i64 1, .int .i64 r] w fun e w' => e = .returned (.int .i64 (waveC r)) ∧ ∃ n, w' = w.drewN n := by
  obtain ⟨x0, x1⟩ := waveX_in h0 h1
  obtain ⟨y0, y1⟩ := waveY_in h0 h1
  have R : Hid (∀ w, Calls Tryd.prog 11 #[.int .i64 r, .int .i64 6746518852, .int .i64 4294967296] w fun e w' => e = .returned (.tuple #[.int .i64 (waveX r), .int .i64 (Fix.ratioE r 6746518852 4294967296)]) ∧ ∃ n, w' = w.drewN n) := Lib.hid (fun w => ratio_any r 6746518852 4294967296 ⟨by omega, by omega⟩ ⟨by omega, by omega⟩ ⟨by omega, by omega⟩ w)
  have Y : Hid (∀ w, Calls Tryd.prog 52 #[.int .i64 (waveX r), .int .i64 (waveX r)] w fun e w' => e = .returned (.int .i64 (waveY r)) ∧ ∃ n, w' = w.drewN n) := Lib.hid (fun w => times_any (waveX r) (waveX r) ⟨by omega, by omega⟩ ⟨by omega, by omega⟩ w)
  unfold waveC nest
  generalize waveX r = x at *
  generalize waveY r = y at *
  have m0 : mulV y 0 = 0 := by have := mulV_part y0 (show y ≤ 1073741824 by omega) (show (0 : Int) ≤ 0 by omega) (by omega); omega
  have T0 := Lib.hid (fun w => times_any y 0 ⟨by omega, by omega⟩ ⟨by omega, by omega⟩ w)
  have T1 := Lib.hid (fun w => times_any y (296) ⟨by omega, by omega⟩ ⟨by omega, by omega⟩ w)
  obtain ⟨l1, u1⟩ := mulV_part y0 (show y ≤ 1073741824 by omega) (show (0 : Int) ≤ 296 by omega) (by omega)
  generalize mulV y (296) = z1 at *
  have T2 := Lib.hid (fun w => times_any y (26631 - z1) ⟨by omega, by omega⟩ ⟨by omega, by omega⟩ w)
  obtain ⟨l2, u2⟩ := mulV_part y0 (show y ≤ 1073741824 by omega) (show (0 : Int) ≤ 26631 - z1 by omega) (by omega)
  generalize mulV y (26631 - z1) = z2 at *
  have T3 := Lib.hid (fun w => times_any y (1491308 - z2) ⟨by omega, by omega⟩ ⟨by omega, by omega⟩ w)
  obtain ⟨l3, u3⟩ := mulV_part y0 (show y ≤ 1073741824 by omega) (show (0 : Int) ≤ 1491308 - z2 by omega) (by omega)
  generalize mulV y (1491308 - z2) = z3 at *
  have T4 := Lib.hid (fun w => times_any y (44739243 - z3) ⟨by omega, by omega⟩ ⟨by omega, by omega⟩ w)
  obtain ⟨l4, u4⟩ := mulV_part y0 (show y ≤ 1073741824 by omega) (show (0 : Int) ≤ 44739243 - z3 by omega) (by omega)
  generalize mulV y (44739243 - z3) = z4 at *
  have T5 := Lib.hid (fun w => times_any y (536870912 - z4) ⟨by omega, by omega⟩ ⟨by omega, by omega⟩ w)
  obtain ⟨l5, u5⟩ := mulV_part y0 (show y ≤ 1073741824 by omega) (show (0 : Int) ≤ 536870912 - z4 by omega) (by omega)
  generalize mulV y (536870912 - z4) = z5 at *
  have c6 := hs.c6; have c7 := hs.c7; have c8 := hs.c8; have c9 := hs.c9; have c10 := hs.c10; have c11 := hs.c11
  have N : ∀ a b : Nat, (w.drewN a).drewN b = w.drewN (a + b) := fun a b => World.drewN_drewN w a b
  clear hs
  have i0 := idx1_0
  have i1 := idx1_1
  have i2 := idx1_2
  have i3 := idx1_3
  have i4 := idx1_4
  have i5 := idx1_5
  have N' := Lib.hid N
  clear N
  go_enter Tryd.func49, Tryd.ntmps49
  go_wp2_with fail
  refine (R.out _).mono ?_
  rintro e w' ⟨rfl, n, rfl⟩
  go_wp2_with fail
  refine (Y.out _).mono ?_
  rintro e w' ⟨rfl, n', rfl⟩
  go_wp2_with fail
  refine wp_loop_rounds 7 ?_
  rw [rounds_succ]
  go_wp2_with fail
  refine (T0.out _).mono ?_
  rintro e w' ⟨rfl, n0, rfl⟩
  go_wp2_with fail
  rw [rounds_succ]
  go_wp2_with fail
  refine (T1.out _).mono ?_
  rintro e w' ⟨rfl, n1, rfl⟩
  go_wp2_with fail
  rw [rounds_succ]
  go_wp2_with fail
  refine (T2.out _).mono ?_
  rintro e w' ⟨rfl, n2, rfl⟩
  go_wp2_with fail
  rw [rounds_succ]
  go_wp2_with fail
  refine (T3.out _).mono ?_
  rintro e w' ⟨rfl, n3, rfl⟩
  go_wp2_with fail
  rw [rounds_succ]
  go_wp2_with fail
  refine (T4.out _).mono ?_
  rintro e w' ⟨rfl, n4, rfl⟩
  go_wp2_with fail
  rw [rounds_succ]
  go_wp2_with fail
  refine (T5.out _).mono ?_
  rintro e w' ⟨rfl, n5, rfl⟩
  go_wp2_with fail
  rw [rounds_succ]
  go_wp2_with fail
  go_ret
  exact ⟨rfl, _, rfl⟩

end Go.Proofs.YtlniojmjakmcjaaDoor
