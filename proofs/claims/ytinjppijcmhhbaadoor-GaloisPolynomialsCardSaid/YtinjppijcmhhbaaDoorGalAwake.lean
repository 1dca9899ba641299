/- perigeelaw04.awake over this program returns true: some results are as the document says. -/
import Derived.Test.YtinjppijcmhhbaaDoorGalQuot
namespace Go.Proofs.YtinjppijcmhhbaaDoor
open Go.RowKit
set_option linter.unusedVariables false

theorem wdiv (w : World) : Calls Tryd.prog 9 #[.int .u8 1, .int .u8 2] w fun e w' => e = .returned (.tuple #[.int .u8 142, .int .i64 0]) ∧ Below w.heap.size w w' := by
  have h := div_any 1#8 2#8 w
  rw [show (Gal.divV 1#8 2#8).toNat = 142 by decide +kernel, show Gal.divE 2#8 = 0 by decide +kernel] at h
  exact h
theorem wpow (w : World) : Calls Tryd.prog 11 #[.int .u8 2, .int .i64 (-1)] w fun e w' => e = .returned (.tuple #[.int .u8 142, .int .i64 0]) ∧ Below w.heap.size w w' := by
  have h := pow_any 2#8 (-1) w
  rw [show (Gal.powV 2#8 (-1)).toNat = 142 by decide +kernel, show Gal.powE 2#8 (-1) = 0 by decide +kernel] at h
  exact h
theorem wlog (w : World) : Calls Tryd.prog 13 #[.int .u8 29] w fun e w' => e = .returned (.tuple #[.int .i64 8, .bool true]) ∧ Below w.heap.size w w' := by
  have h := log2_any 29#8 w
  rw [show Gal.lg 29#8 = 8 by decide +kernel, show Gal.logOk 29#8 = true by decide +kernel] at h
  exact h
theorem wprod (w : World) : Calls Tryd.prog 18 #[.string { data := #[1, 1] }, .string { data := #[2, 1] }] w fun e w' => e = .returned (.tuple #[.string { data := #[2, 3, 1] }, .int .i64 0]) ∧ Below w.heap.size w w' := by
  have h := prod_any { data := #[1, 1] } { data := #[2, 1] } (by decide) (by decide) w
  rw [show Gal.prodV (ByteArray.mk #[1, 1]).data.toList (ByteArray.mk #[2, 1]).data.toList = [2, 3, 1] by decide +kernel, show Gal.prodE (ByteArray.mk #[1, 1]).data.toList (ByteArray.mk #[2, 1]).data.toList = 0 by decide +kernel] at h
  exact h
theorem wquot (w : World) : Calls Tryd.prog 20 #[.string { data := #[2, 3, 1] }, .string { data := #[1, 1] }] w fun e w' => e = .returned (.tuple #[.string { data := #[2, 1] }, .string { data := #[] }, .int .i64 0]) ∧ Below w.heap.size w w' := by
  have h := quot_any { data := #[2, 3, 1] } { data := #[1, 1] } (by decide) (by decide) w
  rw [show Gal.quotV (ByteArray.mk #[2, 3, 1]).data.toList (ByteArray.mk #[1, 1]).data.toList = [2, 1] by decide +kernel, show Gal.restV (ByteArray.mk #[2, 3, 1]).data.toList (ByteArray.mk #[1, 1]).data.toList = [] by decide +kernel, show Gal.quotE (ByteArray.mk #[1, 1]).data.toList = 0 by decide +kernel] at h
  exact h
theorem wmul (w : World) : Calls Tryd.prog 15 #[.int .u8 2, .int .u8 128] w fun e w' => e = .returned (.int .u8 29) ∧ Below w.heap.size w w' := by
  have h := mul_any 2#8 128#8 w
  rw [show (Gal.mul 2#8 128#8).toNat = 29 by decide +kernel] at h
  exact h
theorem wsum (w : World) : Calls Tryd.prog 24 #[.string { data := #[1] }, .string { data := #[1] }] w fun e w' => e = .returned (.string { data := #[] }) ∧ Below w.heap.size w w' := by
  have h := sum_any { data := #[1] } { data := #[1] } (by decide) (by decide) w
  rw [show Gal.sumV (ByteArray.mk #[1]).data.toList (ByteArray.mk #[1]).data.toList = [] by decide +kernel] at h
  exact h
theorem wdegree (w : World) : Calls Tryd.prog 22 #[.string { data := #[0, 1, 0] }] w fun e w' => e = .returned (.int .i64 1) ∧ w = w' := by
  have h := degree_any { data := #[0, 1, 0] } (by decide) w
  rw [show (Gal.nn (ByteArray.mk #[0, 1, 0]).data.toList : Int) - 1 = 1 by decide +kernel] at h
  exact h
theorem weval (w : World) : Calls Tryd.prog 28 #[.string { data := #[2, 3, 1] }, .int .u8 1] w fun e w' => e = .returned (.int .u8 0) ∧ Below w.heap.size w w' := by
  have h := eval_any { data := #[2, 3, 1] } 1#8 (by decide) w
  rw [show (Gal.evalV (ByteArray.mk #[2, 3, 1]).data.toList 1#8).toNat = 0 by decide +kernel] at h
  exact h
theorem wder (w : World) : Calls Tryd.prog 26 #[.string { data := #[5, 6, 7, 8] }] w fun e w' => e = .returned (.string { data := #[6, 0, 8] }) ∧ Below w.heap.size w w' := by
  have h := derived_any { data := #[5, 6, 7, 8] } (by decide) w
  rw [show Gal.derV (ByteArray.mk #[5, 6, 7, 8]).data.toList = [6, 0, 8] by decide +kernel] at h
  exact h
set_option maxRecDepth 100000 in
/-- perigeelaw04.awake -/
theorem awake_any (w : World) : Calls Tryd.prog 17 #[] w fun e w' => e = .returned (.bool true) ∧ Below w.heap.size w w' := by
  go_enter Tryd.func17, Tryd.ntmps17
  go_wp2_with fail
  (with_reducible refine (wdiv _).mono ?_)
  rintro e w1 ⟨rfl, h1⟩
  have H1 := Lib.hid (h1)
  clear h1
  go_wp2_with fail
  (with_reducible refine (wpow _).mono ?_)
  rintro e w2 ⟨rfl, h2⟩
  have H2 := Lib.hid (bt H1.out h2)
  clear h2 H1
  go_wp2_with fail
  (with_reducible refine (wlog _).mono ?_)
  rintro e w3 ⟨rfl, h3⟩
  have H3 := Lib.hid (bt H2.out h3)
  clear h3 H2
  go_wp2_with fail
  (with_reducible refine (wprod _).mono ?_)
  rintro e w4 ⟨rfl, h4⟩
  have H4 := Lib.hid (bt H3.out h4)
  clear h4 H3
  go_wp2_with fail
  (with_reducible refine (wquot _).mono ?_)
  rintro e w5 ⟨rfl, h5⟩
  have H5 := Lib.hid (bt H4.out h5)
  clear h5 H4
  go_wp2_with fail
  (with_reducible refine (wmul _).mono ?_)
  rintro e w6 ⟨rfl, h6⟩
  have H6 := Lib.hid (bt H5.out h6)
  clear h6 H5
  go_wp2_with fail
  (with_reducible refine (wsum _).mono ?_)
  rintro e w7 ⟨rfl, h7⟩
  have H7 := Lib.hid (bt H6.out h7)
  clear h7 H6
  go_wp2_with fail
  (with_reducible refine (wdegree _).mono ?_)
  rintro e w8 ⟨rfl, rfl⟩
  go_wp2_with fail
  (with_reducible refine (weval _).mono ?_)
  rintro e w9 ⟨rfl, h9⟩
  have H9 := Lib.hid (bt H7.out h9)
  clear h9 H7
  go_wp2_with fail
  (with_reducible refine (wder _).mono ?_)
  rintro e w10 ⟨rfl, h10⟩
  have H10 := Lib.hid (bt H9.out h10)
  clear h10 H9
  go_wp2_with fail
  go_ret
  exact ⟨rfl, H10.out⟩
end Go.Proofs.YtinjppijcmhhbaaDoor
