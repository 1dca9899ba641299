/- Layer 8: the reference's New. -/
import Derived.Test.YtlfnglinalmpjaaMkExam
namespace Go.Proofs.Ytlfnglinalmpjaa
open Go.RowKit
set_option linter.unusedVariables false

theorem rnew_no (n : Int) (h : n < 1 ∨ 20000 < n) (w : World) :
    Calls Try.prog 18 #[.int .i64 n] w fun e w' => e = .returned (.tuple #[.pointer none, .int .i64 2]) ∧ w = w' := by
  by_cases g : n < 1
  · have t1 : decide (n < 1) = true := by simp; omega
    go_enter Try.func18, Try.ntmps18
    go_wp2_with fail
    go_ret2
    exact ⟨rfl, rfl⟩
  · have t1 : decide (n < 1) = false := by simp; omega
    have t2 : decide (20000 < n) = true := by simp; omega
    go_enter Try.func18, Try.ntmps18
    go_wp2_with fail
    go_ret2
    exact ⟨rfl, rfl⟩
/-- A finder that has taken nothing. -/
theorem fo_new (w : World) (len : Int) (t : TypeId) : FO (w.alloc (.cells #[.int .i64 len, .slice none 0 0, .bool false, .int .i64 0, .bool false, .int .i64 0, .int .i64 0] t)) w.heap.size (fobj len (.slice none 0 0) Mk.Fs.init) :=
  ⟨by rw [World.size_alloc]; omega, fun j hj => by
    constructor
    · rw [World.cell?_alloc_new]
      match j, hj with
      | 0, _ => rfl
      | 1, _ => rfl
      | 2, _ => rfl
      | 3, _ => rfl
      | 4, _ => rfl
      | 5, _ => rfl
      | 6, _ => rfl
    · unfold World.frozen?
      rw [heap_alloc_last]
      simp⟩
theorem rnew_any (n : Int) (h1 : 1 ≤ n) (h2 : n ≤ 20000) (w : World) :
    Calls Try.prog 18 #[.int .i64 n] w fun e w' => ∃ b, e = .returned (.tuple #[.pointer (some ⟨b, 0, none⟩), .int .i64 0]) ∧ w.heap.size ≤ b ∧ FO w' b (fobj n (.slice none 0 0) Mk.Fs.init) ∧ Below w.heap.size w w' := by
  have t1 : decide (n < 1) = false := by simp; omega
  have t2 : decide (20000 < n) = false := by simp; omega
  have F := Lib.hid (fo_new w n 46)
  have B := Lib.hid (ba (Below.refl w.heap.size w) (.cells #[.int .i64 n, .slice none 0 0, .bool false, .int .i64 0, .bool false, .int .i64 0, .int .i64 0] 46))
  go_enter Try.func18, Try.ntmps18
  go_wp2_with fail
  go_ret2
  exact ⟨w.heap.size, rfl, Nat.le_refl _, F.out, B.out⟩
end Go.Proofs.Ytlfnglinalmpjaa
