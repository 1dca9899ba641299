/- The contract of the law's same over this program, at equal lists. -/
import Derived.Test.YtgfjmolihobaeaaSlices
import Derived.Test.YtgfjmolihobaeaaFldUnpack3
import Derived.Test.YtgfjmolihobaeaaFldAwake
namespace Go.Proofs.Ytgfjmolihobaeaa
open Go.RowKit Go.Shelf
set_option linter.unusedVariables false

set_option maxHeartbeats 1000000 in
theorem same_any (a1 a2 : Option Addr) (cap1 cap2 : Nat) (vs : List Nat) (n : Nat) (hn : vs.length = n) (hl : n ≤ 600) (w : World) (R1 : Reads .u64 w a1 (vs.map Int.ofNat)) (R2 : Reads .u64 w a2 (vs.map Int.ofNat)) :
    Calls Try.prog 23 #[.slice a1 n cap1, .slice a2 n cap2] w fun e w' => e = .returned (.bool true) ∧ Below w.heap.size w w' := by
  have e1 : ((n : Int) == (n : Int)) = true := by simp
  have e2 : ((n : Int) != (n : Int)) = false := by simp
  by_cases n0 : n = 0
  · subst n0
    have B := Below.refl w.heap.size w
    clear R1 R2
    go_enter Try.func23, Try.ntmps23
    go_wp2_with fail
    refine wp_loop_rounds 1 ?_
    rw [rounds_succ]
    go_wp2_with fail
    go_ret
    exact ⟨rfl, B⟩
  · obtain ⟨b1, o1, rfl, l1, c1⟩ := R1.cell (by rw [List.length_map]; omega)
    obtain ⟨b2, o2, rfl, l2, c2⟩ := R2.cell (by rw [List.length_map]; omega)
    have C1 := Lib.hid (fun j (h : j < n) => (c1 j (by rw [List.length_map, hn]; exact h)).trans (by rw [getD_ofNat _ _ (by rw [hn]; exact h)] : some (Value.int IntKind.u64 ((vs.map Int.ofNat).getD j 0)) = some (.int .u64 (vs.getD j 0 : Nat))))
    have C2 := Lib.hid (fun j (h : j < n) => (c2 j (by rw [List.length_map, hn]; exact h)).trans (by rw [getD_ofNat _ _ (by rw [hn]; exact h)] : some (Value.int IntKind.u64 ((vs.map Int.ofNat).getD j 0)) = some (.int .u64 (vs.getD j 0 : Nat))))
    have B := Below.refl w.heap.size w
    clear c1 c2 R1 R2 hn
    go_enter Try.func23, Try.ntmps23
    go_wp2_with fail
    go_loopw [5] (fun i wr => ∃ k : Nat, k ≤ n ∧ i = .int .i64 k ∧ Below w.heap.size w wr) (fun i _ => n - (intOf i).toNat)
    case atStart => exact ⟨0, Nat.zero_le _, rfl, B⟩
    case round =>
      obtain ⟨k, hk, rfl, hB⟩ := hrel
      have HB := Lib.hid hB
      by_cases hlt : k < n
      · have q1 := (hB.cell (p := ⟨b1, o1 + k, none⟩) l1).trans (C1.out k hlt)
        have q2 := (hB.cell (p := ⟨b2, o2 + k, none⟩) l2).trans (C2.out k hlt)
        obtain ⟨x, hx⟩ : ∃ x, vs.getD k 0 = x := ⟨_, rfl⟩
        rw [hx] at q1 q2
        have k0 : (0 : Int) ≤ (k : Int) := by omega
        have k1 : (k : Int) < (n : Int) := by omega
        have x1 : ((x : Int) == (x : Int)) = true := by simp
        have x2 : ((x : Int) != (x : Int)) = false := by simp
        clear hB hx
        go_wp2_with fail
        go_quiet (fail)
        go_wp2_with fail
        go_roundw
        case rel => exact ⟨k + 1, by omega, by go_num, below_drewN HB.out _⟩
        case measure => simp [intOf]; omega
      · obtain rfl : n = k := by omega
        clear hB
        go_wp2_with fail
        go_ret
        exact ⟨rfl, HB.out⟩
end Go.Proofs.Ytgfjmolihobaeaa
