/- perigeelaw01.awake over this program returns true: some results are as the document says. -/
import Derived.Test.YtlniojmjakmcjaaDoorSin
import Derived.Test.YtlniojmjakmcjaaDoorDot
namespace Go.Proofs.YtlniojmjakmcjaaDoor
open Go.RowKit
set_option linter.unusedVariables false

theorem Ser.below {w w' : World} (h : Ser w) (hb : Below w.heap.size w w') : Ser w' := by
  have l : 2 < w.heap.size := World.block_lt_of_cell? w _ h.c0
  obtain ⟨hc, _⟩ := bcell hb
  exact ⟨(hc _ _ l).trans h.c0, (hc _ _ l).trans h.c1, (hc _ _ l).trans h.c2, (hc _ _ l).trans h.c3, (hc _ _ l).trans h.c4, (hc _ _ l).trans h.c5, (hc _ _ l).trans h.c6, (hc _ _ l).trans h.c7, (hc _ _ l).trans h.c8, (hc _ _ l).trans h.c9, (hc _ _ l).trans h.c10, (hc _ _ l).trans h.c11⟩
theorem Ser.alloc {w : World} (h : Ser w) (c : Array Value) (t : TypeId) : Ser (w.alloc (.cells c t)) := h.below (Below.alloc (Below.refl _ _) (Nat.le_refl _) _)
theorem below_drewN {B : Nat} {a w : World} (h : Below B a w) (n : Nat) : Below B a (w.drewN n) := ⟨h.os, h.tape, h.output, h.size, h.block⟩

theorem cellAt (w : World) (c : Array Value) (t : TypeId) (k : Nat) (v : Value) (h : c[k]? = some v) : (w.alloc (.cells c t)).cell? ⟨w.heap.size, k, none⟩ = some v := by
  have := World.cell?_alloc_new w c t k
  simp_all
theorem mulK (a b v : Int) (ha : Fix.fits a) (hb : Fix.fits b) (hv : mulV a b = v) (w : World) :
    Calls Tryd.prog 7 #[.int .i64 a, .int .i64 b] w fun e w' => e = .returned (.tuple #[.int .i64 v, .int .i64 (mulE a b)]) ∧ ∃ n, w' = w.drewN n := by rw [← hv]; exact mul_any a b ha hb w
theorem ratioK (a b c v x : Int) (ha : Fix.fits a) (hb : Fix.fits b) (hc : Fix.fits c) (hv : Fix.ratioV a b c = v) (hx : Fix.ratioE a b c = x) (w : World) :
    Calls Tryd.prog 11 #[.int .i64 a, .int .i64 b, .int .i64 c] w fun e w' => e = .returned (.tuple #[.int .i64 v, .int .i64 x]) ∧ ∃ n, w' = w.drewN n := by rw [← hv, ← hx]; exact ratio_any a b c ha hb hc w
theorem divK (a b v x : Int) (ha : Fix.fits a) (hb : Fix.fits b) (hv : Fix.ratioV a 1073741824 b = v) (hx : Fix.ratioE a 1073741824 b = x) (w : World) :
    Calls Tryd.prog 9 #[.int .i64 a, .int .i64 b] w fun e w' => e = .returned (.tuple #[.int .i64 v, .int .i64 x]) ∧ ∃ n, w' = w.drewN n := by rw [← hv, ← hx]; exact div_any a b ha hb w
theorem sinK (t : Nat) (v : Int) (ht : t < 4294967296) (hv : sinV t = v) (w : World) (hs : Ser w) :
    Calls Tryd.prog 22 #[.int .u32 t] w fun e w' => e = .returned (.int .i64 v) ∧ ∃ n, w' = w.drewN n := by rw [← hv]; exact sin_any t ht w hs

theorem mulE0 : mulE 3 536870912 = 0 := by decide
theorem hyp34 : Fix.hypV [3, 4] = 5 ∧ Fix.hypE [3, 4] = 0 := by
  have s : Fix.sq 25 = 5 := Fix.sq_of (by decide) (by decide)
  have e : Fix.sumsq [3, 4] = 25 := rfl
  unfold Fix.hypV Fix.hypE
  rw [e, s]
  unfold Fix.big
  simp
theorem sin_quarter : sinV 1073741824 = 1073741824 := by decide +kernel

/-- perigeelaw01.awake -/
theorem awake_any (w : World) (hs : Ser w) : Calls Tryd.prog 15 #[] w fun e w' => e = .returned (.bool true) ∧ Below w.heap.size w w' := by
  have A := Lib.hid (fun w => mulK 3 536870912 2 ⟨by omega, by omega⟩ ⟨by omega, by omega⟩ (by decide) w)
  rw [mulE0] at A
  have B := Lib.hid (fun w => divK 1 3 357913941 0 ⟨by omega, by omega⟩ ⟨by omega, by omega⟩ (by decide) (by decide) w)
  have C := Lib.hid (fun b w h => hypot_any (some ⟨b, 0, none⟩) 2 2 [3, 4] w h (fun k hk => by
    match k, hk with
    | 0, _ => exact ⟨by simp, by simp⟩
    | 1, _ => exact ⟨by simp, by simp⟩))
  rw [hyp34.1, hyp34.2] at C
  have D : Hid (∀ w, Ser w → Calls Tryd.prog 22 #[.int .u32 1073741824] w fun e w' => e = .returned (.int .i64 1073741824) ∧ ∃ n, w' = w.drewN n) := Lib.hid (fun w hs => sinK 1073741824 1073741824 (by decide) sin_quarter w hs)
  have HS := Lib.hid hs
  clear hs
  go_enter Tryd.func15, Tryd.ntmps15
  go_wp2_with fail
  refine (A.out _).mono ?_
  rintro e w' ⟨rfl, n1, rfl⟩
  go_wp2_with fail
  refine (B.out _).mono ?_
  rintro e w' ⟨rfl, n2, rfl⟩
  go_wp2_with fail
  refine (C.out w.heap.size _ ?_).mono ?_
  · exact ⟨rfl, by omega, Or.inr ⟨_, 0, rfl, fun k hk => by
      match k, hk with
      | 0, _ => exact cellAt (w.drewN _) _ _ _ _ rfl
      | 1, _ => exact cellAt (w.drewN _) _ _ _ _ rfl⟩⟩
  rintro e w' ⟨rfl, rfl⟩
  go_wp2_with fail
  refine (D.out _ ?_).mono ?_
  · exact ((HS.out.drewN _).alloc _ _)
  rintro e w' ⟨rfl, n3, rfl⟩
  go_wp2_with fail
  go_ret
  exact ⟨rfl, below_drewN (Below.alloc (below_drewN (Below.refl _ _) _) (Nat.le_refl _) _) _⟩
end Go.Proofs.YtlniojmjakmcjaaDoor
