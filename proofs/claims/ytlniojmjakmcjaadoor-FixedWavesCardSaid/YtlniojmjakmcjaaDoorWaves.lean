/- FixedWaves: for every angle of 32 bits the program's Sin and Cos return the document's own answers. The condition: the package's table of coefficients starts as the program's text lays it (tied by the card). -/
import Derived.Test.YtlniojmjakmcjaaDoorRatio
import Derived.Test.YtlniojmjakmcjaaDoorLaid
import Derived.Test.YtlniojmjakmcjaaDoorCards
import Derived.Test.YtlniojmjakmcjaaDoorTie
namespace Go.Proofs.YtlniojmjakmcjaaDoor
open Go.ChangeShapes Go.WideShapes Go.ChangeAt Go.RowKit
set_option linter.unusedVariables false

theorem btt {w a b : World} (h : Below w.heap.size w a) (k : Below a.heap.size a b) : Below w.heap.size w b := h.trans (k.mono h.size)
theorem bigmul_any (a b : Int) (ha : Fix.fits a) (hb : Fix.fits b) (w : World) :
    Calls Tryd.prog 50 #[.int .i64 a, .int .i64 b] w fun e w' => e = .returned (.int .i64 (mulV a b)) ∧ Below w.heap.size w w' := by
  have R := Lib.hid (fun w => bigMul_any a b ha hb w)
  go_enter Tryd.func50, Tryd.ntmps50
  go_wp2_with fail
  refine (R.out _).mono ?_
  rintro e w' ⟨rfl, B⟩
  go_wp2
  go_ret
  exact ⟨rfl, B⟩

set_option maxHeartbeats 2000000 in
theorem bigwave_sin (r : Int) (h0 : 0 ≤ r) (h1 : r ≤ 536870912) (w : World) :
    Calls Tryd.prog 44 #[.int .i64 r] w fun e w' => e = .returned (.int .i64 (waveS r)) ∧ Below w.heap.size w w' := by
  obtain ⟨x0, x1⟩ := waveX_in h0 h1
  obtain ⟨y0, y1⟩ := waveY_in h0 h1
  have R : Hid (∀ w, Calls Tryd.prog 12 #[.int .i64 r, .int .i64 6746518852, .int .i64 4294967296] w fun e w' => e = .returned (.tuple #[.int .i64 (waveX r), .int .i64 (Fix.ratioE r 6746518852 4294967296)]) ∧ Below w.heap.size w w') := Lib.hid (fun w => bigRatio_any r 6746518852 4294967296 ⟨by omega, by omega⟩ ⟨by omega, by omega⟩ ⟨by omega, by omega⟩ w)
  have Y : Hid (∀ w, Calls Tryd.prog 50 #[.int .i64 (waveX r), .int .i64 (waveX r)] w fun e w' => e = .returned (.int .i64 (waveY r)) ∧ Below w.heap.size w w') := Lib.hid (fun w => bigmul_any (waveX r) (waveX r) ⟨by omega, by omega⟩ ⟨by omega, by omega⟩ w)
  unfold waveS nest
  generalize Fix.ratioE r 6746518852 4294967296 = re at *
  generalize waveX r = x at *
  generalize waveY r = y at *
  have T1 := Lib.hid (fun w => bigmul_any y (27) ⟨by omega, by omega⟩ ⟨by omega, by omega⟩ w)
  obtain ⟨l1, u1⟩ := mulV_part y0 (show y ≤ 1073741824 by omega) (show (0 : Int) ≤ 27 by omega) (by omega)
  generalize mulV y (27) = z1 at *
  have T2 := Lib.hid (fun w => bigmul_any y (2959 - z1) ⟨by omega, by omega⟩ ⟨by omega, by omega⟩ w)
  obtain ⟨l2, u2⟩ := mulV_part y0 (show y ≤ 1073741824 by omega) (show (0 : Int) ≤ 2959 - z1 by omega) (by omega)
  generalize mulV y (2959 - z1) = z2 at *
  have T3 := Lib.hid (fun w => bigmul_any y (213044 - z2) ⟨by omega, by omega⟩ ⟨by omega, by omega⟩ w)
  obtain ⟨l3, u3⟩ := mulV_part y0 (show y ≤ 1073741824 by omega) (show (0 : Int) ≤ 213044 - z2 by omega) (by omega)
  generalize mulV y (213044 - z2) = z3 at *
  have T4 := Lib.hid (fun w => bigmul_any y (8947849 - z3) ⟨by omega, by omega⟩ ⟨by omega, by omega⟩ w)
  obtain ⟨l4, u4⟩ := mulV_part y0 (show y ≤ 1073741824 by omega) (show (0 : Int) ≤ 8947849 - z3 by omega) (by omega)
  generalize mulV y (8947849 - z3) = z4 at *
  have T5 := Lib.hid (fun w => bigmul_any y (178956971 - z4) ⟨by omega, by omega⟩ ⟨by omega, by omega⟩ w)
  obtain ⟨l5, u5⟩ := mulV_part y0 (show y ≤ 1073741824 by omega) (show (0 : Int) ≤ 178956971 - z4 by omega) (by omega)
  generalize mulV y (178956971 - z4) = z5 at *
  have TL := Lib.hid (fun w => bigmul_any x (1073741824 - z5) ⟨by omega, by omega⟩ ⟨by omega, by omega⟩ w)
  obtain ⟨V, hV⟩ : ∃ V, mulV x (1073741824 - z5) = V := ⟨_, rfl⟩
  rw [hV] at TL ⊢
  clear hV
  go_enter Tryd.func44, Tryd.ntmps44
  go_wp2_with fail
  refine (R.out _).mono ?_
  rintro e w1 ⟨rfl, b1⟩
  have S1 := Lib.hid (b1)
  clear b1
  go_wp2_with fail
  refine (Y.out _).mono ?_
  rintro e w2 ⟨rfl, b2⟩
  have S2 := Lib.hid (btt S1.out b2)
  clear b2
  go_wp2_with fail
  refine (T1.out _).mono ?_
  rintro e w3 ⟨rfl, b3⟩
  have S3 := Lib.hid (btt S2.out b3)
  clear b3
  go_wp2_with fail
  refine (T2.out _).mono ?_
  rintro e w4 ⟨rfl, b4⟩
  have S4 := Lib.hid (btt S3.out b4)
  clear b4
  go_wp2_with fail
  refine (T3.out _).mono ?_
  rintro e w5 ⟨rfl, b5⟩
  have S5 := Lib.hid (btt S4.out b5)
  clear b5
  go_wp2_with fail
  refine (T4.out _).mono ?_
  rintro e w6 ⟨rfl, b6⟩
  have S6 := Lib.hid (btt S5.out b6)
  clear b6
  go_wp2_with fail
  refine (T5.out _).mono ?_
  rintro e w7 ⟨rfl, b7⟩
  have S7 := Lib.hid (btt S6.out b7)
  clear b7
  go_wp2_with fail
  refine (TL.out _).mono ?_
  rintro e w8 ⟨rfl, b8⟩
  have S8 := Lib.hid (btt S7.out b8)
  clear b8
  go_wp2_with fail
  go_ret
  exact ⟨rfl, S8.out⟩

set_option maxHeartbeats 2000000 in
theorem bigwave_cos (r0 : Int) (g0 : 536870912 < r0) (g1 : r0 ≤ 1073741824) (w : World) :
    Calls Tryd.prog 44 #[.int .i64 r0] w fun e w' => e = .returned (.int .i64 (waveC (1073741824 - r0))) ∧ Below w.heap.size w w' := by
  obtain ⟨r, hr⟩ : ∃ r, 1073741824 - r0 = r := ⟨_, rfl⟩
  have h0 : 0 ≤ r := by omega
  have h1 : r ≤ 536870912 := by omega
  have gd : decide (r0 ≤ 536870912) = false := by simp; omega
  rw [hr]
  obtain ⟨x0, x1⟩ := waveX_in h0 h1
  obtain ⟨y0, y1⟩ := waveY_in h0 h1
  have R : Hid (∀ w, Calls Tryd.prog 12 #[.int .i64 r, .int .i64 6746518852, .int .i64 4294967296] w fun e w' => e = .returned (.tuple #[.int .i64 (waveX r), .int .i64 (Fix.ratioE r 6746518852 4294967296)]) ∧ Below w.heap.size w w') := Lib.hid (fun w => bigRatio_any r 6746518852 4294967296 ⟨by omega, by omega⟩ ⟨by omega, by omega⟩ ⟨by omega, by omega⟩ w)
  have Y : Hid (∀ w, Calls Tryd.prog 50 #[.int .i64 (waveX r), .int .i64 (waveX r)] w fun e w' => e = .returned (.int .i64 (waveY r)) ∧ Below w.heap.size w w') := Lib.hid (fun w => bigmul_any (waveX r) (waveX r) ⟨by omega, by omega⟩ ⟨by omega, by omega⟩ w)
  unfold waveC nest
  generalize Fix.ratioE r 6746518852 4294967296 = re at *
  generalize waveX r = x at *
  generalize waveY r = y at *
  have T1 := Lib.hid (fun w => bigmul_any y (296) ⟨by omega, by omega⟩ ⟨by omega, by omega⟩ w)
  obtain ⟨l1, u1⟩ := mulV_part y0 (show y ≤ 1073741824 by omega) (show (0 : Int) ≤ 296 by omega) (by omega)
  generalize mulV y (296) = z1 at *
  have T2 := Lib.hid (fun w => bigmul_any y (26631 - z1) ⟨by omega, by omega⟩ ⟨by omega, by omega⟩ w)
  obtain ⟨l2, u2⟩ := mulV_part y0 (show y ≤ 1073741824 by omega) (show (0 : Int) ≤ 26631 - z1 by omega) (by omega)
  generalize mulV y (26631 - z1) = z2 at *
  have T3 := Lib.hid (fun w => bigmul_any y (1491308 - z2) ⟨by omega, by omega⟩ ⟨by omega, by omega⟩ w)
  obtain ⟨l3, u3⟩ := mulV_part y0 (show y ≤ 1073741824 by omega) (show (0 : Int) ≤ 1491308 - z2 by omega) (by omega)
  generalize mulV y (1491308 - z2) = z3 at *
  have T4 := Lib.hid (fun w => bigmul_any y (44739243 - z3) ⟨by omega, by omega⟩ ⟨by omega, by omega⟩ w)
  obtain ⟨l4, u4⟩ := mulV_part y0 (show y ≤ 1073741824 by omega) (show (0 : Int) ≤ 44739243 - z3 by omega) (by omega)
  generalize mulV y (44739243 - z3) = z4 at *
  have T5 := Lib.hid (fun w => bigmul_any y (536870912 - z4) ⟨by omega, by omega⟩ ⟨by omega, by omega⟩ w)
  obtain ⟨l5, u5⟩ := mulV_part y0 (show y ≤ 1073741824 by omega) (show (0 : Int) ≤ 536870912 - z4 by omega) (by omega)
  generalize mulV y (536870912 - z4) = z5 at *
  go_enter Tryd.func44, Tryd.ntmps44
  go_wp2_with fail
  refine (R.out _).mono ?_
  rintro e w1 ⟨rfl, b1⟩
  have S1 := Lib.hid (b1)
  clear b1
  go_wp2_with fail
  refine (Y.out _).mono ?_
  rintro e w2 ⟨rfl, b2⟩
  have S2 := Lib.hid (btt S1.out b2)
  clear b2
  go_wp2_with fail
  refine (T1.out _).mono ?_
  rintro e w3 ⟨rfl, b3⟩
  have S3 := Lib.hid (btt S2.out b3)
  clear b3
  go_wp2_with fail
  refine (T2.out _).mono ?_
  rintro e w4 ⟨rfl, b4⟩
  have S4 := Lib.hid (btt S3.out b4)
  clear b4
  go_wp2_with fail
  refine (T3.out _).mono ?_
  rintro e w5 ⟨rfl, b5⟩
  have S5 := Lib.hid (btt S4.out b5)
  clear b5
  go_wp2_with fail
  refine (T4.out _).mono ?_
  rintro e w6 ⟨rfl, b6⟩
  have S6 := Lib.hid (btt S5.out b6)
  clear b6
  go_wp2_with fail
  refine (T5.out _).mono ?_
  rintro e w7 ⟨rfl, b7⟩
  have S7 := Lib.hid (btt S6.out b7)
  clear b7
  go_wp2_with fail
  go_ret
  exact ⟨rfl, S7.out⟩

theorem bigwave_any (r : Int) (h0 : 0 ≤ r) (h1 : r ≤ 1073741824) (w : World) :
    Calls Tryd.prog 44 #[.int .i64 r] w fun e w' => e = .returned (.int .i64 (riseV r)) ∧ Below w.heap.size w w' := by
  unfold riseV
  by_cases h : r ≤ 536870912
  · rw [if_pos h]; exact bigwave_sin r h0 h w
  · rw [if_neg h]; exact bigwave_cos r (by omega) h1 w

theorem bigSin_any (t : Nat) (ht : t < 4294967296) (w : World) :
    Calls Tryd.prog 23 #[.int .u32 t] w fun e w' => e = .returned (.int .i64 (sinV t)) ∧ Below w.heap.size w w' := by
  have p := place_in t
  have rin := riseV_in p.1 p.2
  have R := Lib.hid (fun w => bigwave_any (place t) p.1 p.2 w)
  have r0 : 0 ≤ (t : Int) % 1073741824 := by omega
  have r1 : (t : Int) % 1073741824 < 1073741824 := by omega
  have cases4 : t / 1073741824 = 0 ∨ t / 1073741824 = 1 ∨ t / 1073741824 = 2 ∨ t / 1073741824 = 3 := by omega
  rcases cases4 with h | h | h | h
  · have q : (t : Int) / 1073741824 = 0 := by omega
    have pl : (t : Int) % 1073741824 = place t := by unfold place; rw [if_neg (by omega)]; omega
    have v : sinV t = riseV (place t) := if_neg (by omega)
    rw [v]
    clear v h
    generalize place t = P at *
    go_enter Tryd.func23, Tryd.ntmps23
    go_wp2_with fail
    refine (R.out _).mono ?_
    rintro e w' ⟨rfl, B⟩
    go_wp2
    go_ret
    exact ⟨rfl, B⟩
  · have q : (t : Int) / 1073741824 = 1 := by omega
    have pl : 1073741824 - (t : Int) % 1073741824 = place t := by unfold place; rw [if_pos (by omega)]; omega
    have v : sinV t = riseV (place t) := if_neg (by omega)
    rw [v]
    clear v h
    generalize place t = P at *
    go_enter Tryd.func23, Tryd.ntmps23
    go_wp2_with fail
    refine (R.out _).mono ?_
    rintro e w' ⟨rfl, B⟩
    go_wp2
    go_ret
    exact ⟨rfl, B⟩
  · have q : (t : Int) / 1073741824 = 2 := by omega
    have pl : (t : Int) % 1073741824 = place t := by unfold place; rw [if_neg (by omega)]; omega
    have v : sinV t = -riseV (place t) := if_pos (by omega)
    rw [v]
    clear v h
    generalize place t = P at *
    go_enter Tryd.func23, Tryd.ntmps23
    go_wp2_with fail
    refine (R.out _).mono ?_
    rintro e w' ⟨rfl, B⟩
    go_wp2
    go_ret
    exact ⟨rfl, B⟩
  · have q : (t : Int) / 1073741824 = 3 := by omega
    have pl : 1073741824 - (t : Int) % 1073741824 = place t := by unfold place; rw [if_pos (by omega)]; omega
    have v : sinV t = -riseV (place t) := if_pos (by omega)
    rw [v]
    clear v h
    generalize place t = P at *
    go_enter Tryd.func23, Tryd.ntmps23
    go_wp2_with fail
    refine (R.out _).mono ?_
    rintro e w' ⟨rfl, B⟩
    go_wp2
    go_ret
    exact ⟨rfl, B⟩

theorem bigCos_any (t : Nat) (ht : t < 4294967296) (w : World) :
    Calls Tryd.prog 25 #[.int .u32 t] w fun e w' => e = .returned (.int .i64 (cosV t)) ∧ Below w.heap.size w w' := by
  obtain ⟨u, hu⟩ : ∃ u, (t + 1073741824) % 4294967296 = u := ⟨_, rfl⟩
  have u1 : u < 4294967296 := by omega
  have e1 : IntKind.u32.wrap ((t : Int) + 1073741824) = (u : Int) := by rw [IntKind.wrap_u32]; omega
  have S := Lib.hid (fun w => bigSin_any u u1 w)
  have v : cosV t = sinV u := by unfold cosV; rw [hu]
  rw [v]
  clear v hu
  go_enter Tryd.func25, Tryd.ntmps25
  go_wp2_with fail
  refine (S.out _).mono ?_
  rintro e w' ⟨rfl, B⟩
  go_wp2
  go_ret
  exact ⟨rfl, B⟩

theorem waves_any (t : Nat) (ht : t < 4294967296) (w : World) (hs : Ser w) :
    Calls Tryd.prog 6 #[.int .u32 t] w fun e w' => e = .returned (.bool true) ∧ Below w.heap.size w w' := by
  have A1 := Lib.hid (fun w hs => sin_any t ht w hs)
  have A2 := Lib.hid (fun w => bigSin_any t ht w)
  have A3 := Lib.hid (fun w hs => cos_any t ht w hs)
  have A4 := Lib.hid (fun w => bigCos_any t ht w)
  have AW := Lib.hid (fun w hs => awake_any w hs)
  have HS := Lib.hid hs
  clear hs
  generalize sinV t = s at *
  generalize cosV t = c at *
  have x1 : (s == s) = true := by simp
  have x2 : (c == c) = true := by simp
  go_enter Tryd.func6, Tryd.ntmps6
  go_wp2_with fail
  refine (A1.out _ HS.out).mono ?_
  rintro e w1 ⟨rfl, n1, rfl⟩
  go_wp2_with fail
  refine (A2.out _).mono ?_
  rintro e w2 ⟨rfl, b2⟩
  have B2 := Lib.hid (show Below w.heap.size w w2 from (below_drewN (Below.refl _ _) _).trans b2)
  clear b2
  go_wp2_with fail
  refine (A3.out _ (HS.out.below B2.out)).mono ?_
  rintro e w3 ⟨rfl, n3, rfl⟩
  go_wp2_with fail
  refine (A4.out _).mono ?_
  rintro e w4 ⟨rfl, b4⟩
  have B4 := Lib.hid (show Below w.heap.size w w4 from (below_drewN B2.out n3).trans (b4.mono (below_drewN B2.out n3).size))
  clear b4
  go_wp2_with fail
  refine (AW.out _ (HS.out.below B4.out)).mono ?_
  rintro e w5 ⟨rfl, b5⟩
  go_wp2_with fail
  go_ret
  exact ⟨rfl, B4.out.trans (b5.mono B4.out.size)⟩

theorem waves_walk (a : Int) (ha : (Lit.int .u32 a).wf = true) (w : World) (hs : Ser w) :
    Calls Tryd.prog 6 #[.int .u32 a] w fun e w' => e = .returned (.bool true) ∧ Below w.heap.size w w' := by
  have h1 := bounds_u32 ha
  obtain ⟨m, rfl⟩ := Int.eq_ofNat_of_zero_le h1.1
  exact waves_any m (by omega) w hs

namespace fixedWaves
set_option maxRecDepth 100000 in
theorem lifted (os : Os) (started : os.Started) (H : Type) (enc : TypeId × Value → H) :
    ReturnsInHanded {} Tryd.checked os 6 .any (fun w args => (Rows.fixedWavesSpec.pre enc Tryd.prog Tryd.f6 [] false w args ∧ laidMetH Tryd.prog [("perigee/fixed.series", Rows.laid_perigee_fixed_series)] w) ∧ sizedMet enc Tryd.prog Tryd.f6 (OpenSpec.ofChange Rows.fixedWavesSpec) false w args)
      (Rows.fixedWavesSpec.post enc Tryd.prog Tryd.f6 false true false false) := by
  refine returnsInHanded_of_change_and (C := Tryd.checked) (X := fun w _ => laidMetH Tryd.prog [("perigee/fixed.series", Rows.laid_perigee_fixed_series)] w) (fun _ _ _ hh h => h.of_heap hh) own started (by kernel_rfl) Tryd.func6
    (ChangeSpec.witness_shaped (enc := enc) (C := Tryd.checked) (os := os) (X := fun w _ => laidMetH Tryd.prog [("perigee/fixed.series", Rows.laid_perigee_fixed_series)] w) false (World.doorLaid Tryd.prog 400 os) #[.int .u32 0] 8 rfl (World.shaped_of_RefB (by kernel_rfl) (by kernel_rfl)) (by kernel_rfl) (by kernel_rfl) (by kernel_rfl) (door_met os _)) ?_
  intro W base args ds gs before hval0 hW _ _ hL _
  have hval : ∀ (j : Nat) t v, Tryd.f6.params[j]? = some t → args[j]? = some v → Value.okWide Tryd.prog W .any base t v := hval0
  have hW' := hW
  obtain ⟨p, q, hA0, hV, rfl, hfz, hnd⟩ := hW
  have hA : DataW.TrodAll enc Tryd.prog W 0 (fun _ => true) true Tryd.f6.params.toList args.toList ds p := hA0
  rw [Tryd.params6] at hA hval
  obtain ⟨v0, vs0, d0, ds0, p0, q0, hargs, rfl, rfl, h0, r0⟩ := trodAll_cons hA
  obtain ⟨rfl, rfl, rfl⟩ := trodAll_nil r0
  obtain rfl : args = #[v0] := by cases args; simp_all
  obtain ⟨rfl, rfl⟩ := trodVars_none hV
  obtain ⟨a0, rfl, rfl, rfl, w0⟩ := open_int Tryd.underlying36 (hval 0 36 v0 rfl rfl) h0
  clear hA0 hval0
  simp only [List.append_nil] at hW'
  refine (waves_walk a0 w0 W (ser_of hL)).mono fun e W' ⟨he, hg⟩ => ?_
  subst he
  exact ⟨_, rfl, post_of_below (pa := []) (pv := []) hW' (fun _ _ _ => trodAll_cons_mk (shut_bool Tryd.underlying4 _) trodAll_mk0) (fun sp _ => (trodAll_cons_mk (shut_int Tryd.underlying36 w0) trodAll_mk0)) (fun _ _ => rfl) rfl
    hg (ok_one (by kernel_rfl) rfl (okWide_bool_mk Tryd.underlying4 _))⟩

theorem over : Rows.FixedWavesSaid :=
  OpenClaim.holds_of_wide 6 Tryd.f6 rfl rfl rfl rfl rfl rfl rfl ⟨rfl, rfl, rfl, rfl, rfl⟩ rfl rfl rfl rfl rfl (by kernel_rfl) Tryd.func6 (by kernel_rfl)
    (of_decide_eq_true (by kernel_rfl)) (by unfold Func.isWrapper; first | (rw [if_pos (by decide +kernel)]; kernel_rfl) | (rw [if_neg (by decide +kernel)]; exact ⟨rfl, rfl⟩))
    (fun os started H enc _ => lifted os started H enc)

theorem proved : Rows.FixedWavesCardSaid :=
  Claim7.holds_tied_plain_at .later [] [.data] true Rows.fixedWavesCard.stood.harness false
    over (fun _ h => by cases h) (by kernel_rfl) (fun _ h => by cases h) fixedWaves_row_tie rfl ⟨rfl, rfl⟩ (by kernel_rfl) rfl
    (fun f fn hf hfn => by
      obtain rfl : f = 6 := Option.some.inj ((show Tryd.prog.funcNamed "perigee/perigeelaw01.FixedWaves" = some 6 by kernel_rfl).symm.trans hf) |>.symm
      obtain rfl : fn = Tryd.f6 := (Option.some.inj (Tryd.func6.symm.trans hfn)).symm
      exact ⟨by kernel_rfl, fun j t ht => by
        have hall : (Tryd.f6.params.toList.all fun u => !Tryd.prog.wantsStandIn u) = true := by kernel_rfl
        have hm : t ∈ Tryd.f6.params.toList := by simpa using Array.mem_of_getElem? ht
        exact (show Tryd.prog.wantsStandIn t = false by simpa using List.all_eq_true.1 hall t hm)⟩)
    (by kernel_rfl)
#print axioms proved
end fixedWaves
end Go.Proofs.YtlniojmjakmcjaaDoor
