/- perigeelaw06.awake over this program returns true. -/
import Derived.Test.YtcigbnhlgboeoaaCvEnc
namespace Go.Proofs.Ytcigbnhlgboeoaa
open Go.RowKit
set_option linter.unusedVariables false

theorem wstepA (w : World) : Calls Try.prog 9 #[.int .i64 0, .int .i64 1] w fun e w' => e = .returned (.tuple #[.int .i64 32, .int .i64 1, .int .i64 0]) ∧ Below w.heap.size w w' := by
  have h := step_in 0 1 (by omega) (by omega) w
  unfold tupV stepV at h
  rw [show Cv.nx 0 1 = 32 by decide, show Cv.s1 0 1 = 1 by decide, show Cv.s2 0 1 = 0 by decide] at h
  exact h
theorem wstepB (w : World) : Calls Try.prog 9 #[.int .i64 32, .int .i64 0] w fun e w' => e = .returned (.tuple #[.int .i64 16, .int .i64 1, .int .i64 1]) ∧ Below w.heap.size w w' := by
  have h := step_in 32 0 (by omega) (by omega) w
  unfold tupV stepV at h
  rw [show Cv.nx 32 0 = 16 by decide, show Cv.s1 32 0 = 1 by decide, show Cv.s2 32 0 = 1 by decide] at h
  exact h
theorem wenc (w : World) : Calls Try.prog 14 #[.string { data := #[] }] w fun e w' => e = .returned (.tuple #[.string { data := #[0, 1, 0, 1, 0, 1, 0, 1, 0, 1, 0, 1] }, .int .i64 0]) ∧ Below w.heap.size w w' := by
  have h := encode_any { data := #[] } 0 rfl (by omega) w
  unfold encS at h
  rw [show Gal.coefs (symB (Cv.mb (Gal.co (ByteArray.mk #[]).data.toList) 0)) (16 * 0 + 12) = [0, 1, 0, 1, 0, 1, 0, 1, 0, 1, 0, 1] by decide +kernel] at h
  exact h
theorem wsym (w : World) : Calls Try.prog 11 #[.int .i64 1] w fun e w' => e = .returned (.int .i64 28) ∧ w = w' := symbols_any 1 w
set_option maxRecDepth 100000 in
/-- perigeelaw06.awake -/
theorem awake_any (w : World) : Calls Try.prog 13 #[] w fun e w' => e = .returned (.bool true) ∧ Below w.heap.size w w' := by
  go_enter Try.func13, Try.ntmps13
  go_wp2_with fail
  (with_reducible refine (wstepA _).mono ?_)
  rintro e w1 ⟨rfl, h1⟩
  have H1 := Lib.hid (h1)
  clear h1
  go_wp2_with fail
  (with_reducible refine (wstepB _).mono ?_)
  rintro e w2 ⟨rfl, h2⟩
  have H2 := Lib.hid (bt H1.out h2)
  clear h2 H1
  go_wp2_with fail
  (with_reducible refine (wenc _).mono ?_)
  rintro e w3 ⟨rfl, h3⟩
  have H3 := Lib.hid (bt H2.out h3)
  clear h3 H2
  go_wp2_with fail
  (with_reducible refine (wsym _).mono ?_)
  rintro e w4 ⟨rfl, rfl⟩
  go_wp2_with fail
  go_ret
  exact ⟨rfl, H3.out⟩
end Go.Proofs.Ytcigbnhlgboeoaa
