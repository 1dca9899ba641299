/- perigeelaw07.awake over this program returns true. -/
import Derived.Test.YtgfihljledmaaaaVitProg
namespace Go.Proofs.Ytgfihljledmaaaa
open Go.RowKit
set_option linter.unusedVariables false

/-- A slice of numbers written out. -/
theorem ints_new (w : World) (zs : List Int) (t : TypeId) : Ints (w.alloc (.cells (zs.map (Value.int .i64)).toArray t)) (some ⟨w.heap.size, 0, none⟩) zs :=
  .inr ⟨w.heap.size, 0, rfl, by rw [World.size_alloc]; omega, fun j hj => by
    rw [Nat.zero_add, World.cell?_alloc_new]
    rw [List.getElem?_toArray, List.getElem?_map, List.getElem?_eq_getElem hj, getD_at zs hj]
    rfl⟩
def z12 : List Int := [-7, 7, -7, 7, -7, 7, -7, 7, -7, 7, -7, 7]
theorem size_zero {D : ByteArray} (h : D.size = 0) : D = ⟨#[]⟩ := by
  apply ByteArray.ext
  have : D.data.size = 0 := h
  exact Array.eq_empty_of_size_eq_zero this
theorem wdecA (w : World) : Calls Try.prog 11 #[.slice (some ⟨w.heap.size, 0, none⟩) 12 12, .int .i64 0] (w.alloc (.cells #[.int .i64 (-7), .int .i64 7, .int .i64 (-7), .int .i64 7, .int .i64 (-7), .int .i64 7, .int .i64 (-7), .int .i64 7, .int .i64 (-7), .int .i64 7, .int .i64 (-7), .int .i64 7] 3)) fun e w' =>
    e = .returned (.tuple #[.string ⟨#[]⟩, .int .i64 42, .int .i64 0]) ∧ Below (w.alloc (.cells #[.int .i64 (-7), .int .i64 7, .int .i64 (-7), .int .i64 7, .int .i64 (-7), .int .i64 7, .int .i64 (-7), .int .i64 7, .int .i64 (-7), .int .i64 7, .int .i64 (-7), .int .i64 7] 3)).heap.size (w.alloc (.cells #[.int .i64 (-7), .int .i64 7, .int .i64 (-7), .int .i64 7, .int .i64 (-7), .int .i64 7, .int .i64 (-7), .int .i64 7, .int .i64 (-7), .int .i64 7, .int .i64 (-7), .int .i64 7] 3)) w' := by
  refine (decode_any (some ⟨w.heap.size, 0, none⟩) 12 z12 12 rfl (by omega) 0 _ (ints_new w z12 3) (by omega)).mono ?_
  rintro e w' ⟨hd, hb⟩
  rcases decA_cases hd with ⟨hk, D, g1, g2, rfl⟩ | ⟨hk, _⟩
  · obtain rfl := size_zero g1
    exact ⟨by rw [show Vit.msum (fz z12) (0 : Int).toNat (Gal.co (ByteArray.mk #[]).data.toList) = 42 by decide +kernel], hb⟩
  · exact absurd (by decide +kernel) hk
theorem wscore (w : World) : Calls Try.prog 14 #[.slice (some ⟨w.heap.size, 0, none⟩) 12 12, .string ⟨#[]⟩] (w.alloc (.cells #[.int .i64 (-7), .int .i64 7, .int .i64 (-7), .int .i64 7, .int .i64 (-7), .int .i64 7, .int .i64 (-7), .int .i64 7, .int .i64 (-7), .int .i64 7, .int .i64 (-7), .int .i64 7] 3)) fun e w' =>
    e = .returned (.tuple #[.int .i64 42, .int .i64 0]) ∧ Below (w.alloc (.cells #[.int .i64 (-7), .int .i64 7, .int .i64 (-7), .int .i64 7, .int .i64 (-7), .int .i64 7, .int .i64 (-7), .int .i64 7, .int .i64 (-7), .int .i64 7, .int .i64 (-7), .int .i64 7] 3)).heap.size (w.alloc (.cells #[.int .i64 (-7), .int .i64 7, .int .i64 (-7), .int .i64 7, .int .i64 (-7), .int .i64 7, .int .i64 (-7), .int .i64 7, .int .i64 (-7), .int .i64 7, .int .i64 (-7), .int .i64 7] 3)) w' := by
  refine (score_any (some ⟨w.heap.size, 0, none⟩) 12 z12 12 rfl (by omega) ⟨#[]⟩ _ (ints_new w z12 3)).mono ?_
  rintro e w' ⟨rfl, hb⟩
  refine ⟨?_, hb⟩
  unfold scV
  rw [if_pos (by decide +kernel), show Vit.msum (fz z12) (ByteArray.mk #[]).size (Gal.co (ByteArray.mk #[]).data.toList) = 42 by decide +kernel]
/-- Sums of values 0. -/
theorem tot_zero {f : Nat → Int} (h : ∀ i, f i = 0) (g : Nat → Nat) : ∀ k, Vit.tot f g k = 0
  | 0 => rfl
  | k + 1 => by
    show Vit.tot f g k + Vit.cst f k _ _ = 0
    rw [tot_zero h g k]
    unfold Vit.cst
    rw [h, h]
    simp
theorem wdecB (a : Option Addr) (w : World) (R : Ints w a (zof (fun _ => 0) 28)) : Calls Try.prog 11 #[.slice a 28 28, .int .i64 1] w fun e w' => e = .returned (.tuple #[.string ⟨#[0]⟩, .int .i64 0, .int .i64 0]) ∧ Below w.heap.size w w' := by
  refine (decode_any a 28 (zof (fun _ => 0) 28) 28 (zof_len _ _) (by omega) 1 w R (by omega)).mono ?_
  rintro e w' ⟨hd, hb⟩
  rcases decA_cases hd with ⟨hk, D, g1, g2, rfl⟩ | ⟨hk, _⟩
  · have z : ∀ i, fz (zof (fun _ => 0) 28) i = 0 := fun i => by
      unfold fz
      by_cases hi : i < 28
      · rw [zof_get _ _ _ hi]
      · rw [List.getD_eq_getElem?_getD, List.getElem?_eq_none (by rw [zof_len]; omega)]
        rfl
    have ms : ∀ d, Vit.msum (fz (zof (fun _ => 0) 28)) 1 d = 0 := fun d => tot_zero z _ _
    have t := g2 (fun _ => 0#8)
    rw [show (1 : Int).toNat = 1 from rfl] at t g1
    rw [ms, ms] at t
    have n0 : Vit.num (fun _ => 0#8) 1 = 0 := rfl
    have nd : Vit.num (Gal.co D.data.toList) 1 = 256 * 0 + (Gal.co D.data.toList 0).toNat := rfl
    have hz : Gal.co D.data.toList 0 = 0#8 := BitVec.eq_of_toNat_eq (by rw [show (0#8 : BitVec 8).toNat = 0 from rfl]; omega)
    have hD : D = ⟨#[0]⟩ := by
      apply ByteArray.ext
      apply Array.toList_inj.1
      refine Gal.ext (by rw [ls, g1]; rfl) (fun i hi => ?_)
      rw [ls, g1] at hi
      obtain rfl : i = 0 := by omega
      rw [hz]
      rfl
    subst hD
    exact ⟨by rw [show (1 : Int).toNat = 1 from rfl, ms], hb⟩
  · exact absurd (by decide +kernel) hk
theorem wsoft (w : World) : Calls Try.prog 16 #[.string ⟨#[0, 1]⟩] w fun e w' => (∃ a cap, e = .returned (.tuple #[.slice a 2 cap, .int .i64 0]) ∧ Ints w' a [-7, 7]) ∧ Below w.heap.size w w' := by
  refine (soften_any ⟨#[0, 1]⟩ 2 rfl (by omega) w).mono ?_
  intro e w' hs
  rcases softA_cases hs with ⟨_, a, cap, rfl, hi, hb⟩ | ⟨hk, _⟩
  · rw [show zof (sft (ByteArray.mk #[0, 1]).data.toList) 2 = [-7, 7] by decide +kernel] at hi
    exact ⟨⟨a, cap, rfl, hi.1⟩, hb⟩
  · exact absurd hk (by decide +kernel)
set_option maxRecDepth 100000 in
set_option maxHeartbeats 2000000 in
/-- perigeelaw07.awake -/
theorem awake_any (w : World) : Calls Try.prog 9 #[] w fun e w' => e = .returned (.bool true) ∧ Below w.heap.size w w' := by
  obtain ⟨i0, hi0, hz0, hz1, hz2⟩ := info_parts info_i64
  have WA := Lib.hid (fun w => wdecA w)
  have WS := Lib.hid (fun w => wscore w)
  have B0 := Lib.hid (ba (Below.refl w.heap.size w) (.cells #[.int .i64 (-7), .int .i64 7, .int .i64 (-7), .int .i64 7, .int .i64 (-7), .int .i64 7, .int .i64 (-7), .int .i64 7, .int .i64 (-7), .int .i64 7, .int .i64 (-7), .int .i64 7] 3))
  go_enter Try.func9, Try.ntmps9
  go_wp2_with fail
  (with_reducible refine (WA.out _).mono ?_)
  rintro e w1 ⟨rfl, h1⟩
  have H1 := Lib.hid (bt B0.out h1)
  clear h1 B0 WA
  go_wp2_with (at_make; refine wpList_make_full _ rfl _ _ 22 rfl w1.heap.size 3 i0 (.int .i64 0) 1 Try.underlying22 hi0 hz0 hz1 .i64 .i64 _ _ 28 rfl rfl rfl rfl (by rw [hz2]; omega) (by unfold maxLen; omega) (Nat.le_refl _) ?_; intro w2 hown hgrow)
  have hb2 := bt H1.out ((Below.refl _ _).grown hgrow (Nat.le_refl _) (fun k e => by cases e))
  have R2 := (IntsW.of_own (f := fun _ => 0) (by
    have := hown
    rw [show (madeCells (Value.int IntKind.i64 0).cells (28 * 1)).toList = zlist (fun _ => 0) 28 from toList_madeCells_one _ _] at this
    exact this)).ints
  have WB := Lib.hid (wdecB _ w2 R2)
  have H2 := Lib.hid hb2
  clear hown hgrow hb2 R2 H1 hi0 hz0 hz1 hz2
  (with_reducible refine WB.out.mono ?_)
  rintro e w3 ⟨rfl, h3⟩
  have H3 := Lib.hid (bt H2.out h3)
  clear h3 H2 WB
  go_wp2_with fail
  (with_reducible refine (wsoft _).mono ?_)
  rintro e w4 ⟨⟨a, cap, rfl, hr⟩, h4⟩
  have H4 := Lib.hid (bt H3.out h4)
  have R4 := Lib.hid hr
  clear h4 H3 hr
  have WS4 := Lib.hid (WS.out w4)
  go_wp2_with fail
  (with_reducible refine WS4.out.mono ?_)
  rintro e w5 ⟨rfl, h5⟩
  have H5 := Lib.hid (bt (ba H4.out _) h5)
  have R5 := R4.out.below (bt (ba (Below.refl w4.heap.size w4) _) h5)
  have SI := Lib.hid (sameInts_any a (some ⟨w5.heap.size, 0, none⟩) cap 2 [-7, 7] 2 rfl (by omega) _ (R5.below (ba (Below.refl w5.heap.size w5) (.cells #[.int .i64 (-7), .int .i64 7] 3))) (ints_new w5 [-7, 7] 3))
  have H6 := Lib.hid (ba H5.out (.cells #[.int .i64 (-7), .int .i64 7] 3))
  clear h5 R5 R4 H4 WS WS4
  go_wp2_with fail
  (with_reducible refine SI.out.mono ?_)
  rintro e w6 ⟨rfl, h6⟩
  have H7 := Lib.hid (bt H6.out h6)
  go_wp2_with fail
  go_ret
  exact ⟨rfl, H7.out⟩
end Go.Proofs.Ytgfihljledmaaaa
