/- same: two lists of the same packets. -/
import Derived.Test.YtphkaambodecdaaPkEq
import Derived.BigQuiet
namespace Go.Proofs.Ytphkaambodecdaa
open Go.ChangeShapes Go.WideShapes Go.ChangeAt Go.RowKit
set_option linter.unusedVariables false
set_option maxRecDepth 100000 in
set_option maxHeartbeats 4000000 in
theorem same_any (sa sb : Option Addr) (n ca cb b1 b2 : Nat) (f : Nat → Pkt) (hn : n ≤ 1000000) (w : World) (RA : w.ownsRow b1 23 5 (.slice sa n ca) n (pkL f n)) (RB : w.ownsRow b2 23 5 (.slice sb n cb) n (pkL f n)) :
    Calls Try.prog 23 #[.slice sa n ca, .slice sb n cb] w fun e w' => e = .returned (.bool true) ∧ Below w.heap.size w w' := by
  have e1 : ((n : Int) == (n : Int)) = true := by simp
  have e2 : ((n : Int) != (n : Int)) = false := by simp
  by_cases n0 : n = 0
  · subst n0
    have B := Below.refl w.heap.size w
    clear RA RB
    go_enter Try.func23, Try.ntmps23
    go_wp2_with fail
    refine wp_loop_rounds 1 ?_
    rw [rounds_succ]
    go_wp2_with fail
    go_ret
    exact ⟨rfl, B⟩
  · obtain ⟨g1, rfl, _, T1⟩ := row_some RA (by omega)
    obtain ⟨g2, rfl, _, T2⟩ := row_some RB (by omega)
    have l1 := T1.lt
    have l2 := T2.lt
    have CA := Lib.hid (fun k (hk : k < n) => row_range RA hk)
    have CB := Lib.hid (fun k (hk : k < n) => row_range RB hk)
    have B := Below.refl w.heap.size w
    clear RA RB T1 T2
    go_enter Try.func23, Try.ntmps23
    go_wp2_with fail
    go_loopw [5] (fun i wr => ∃ k : Nat, k ≤ n ∧ i = .int .i64 k ∧ Below w.heap.size w wr) (fun i _ => n - (intOf i).toNat)
    case atStart => exact ⟨0, Nat.zero_le _, rfl, B⟩
    case round =>
      obtain ⟨k, hk, rfl, hB⟩ := hrel
      have HB := Lib.hid hB
      by_cases hlt : k < n
      · obtain ⟨p, hp⟩ : ∃ p, f k = p := ⟨_, rfl⟩
        have qa0 : wr.cell? ⟨g1, k * 5, none⟩ = some (.bool p.cmd) := by rw [← hp]; exact (hB.cell (p := ⟨g1, k * 5, none⟩) l1).trans (CA.out k hlt 0 _ rfl)
        have qa1 : wr.cell? ⟨g1, k * 5 + 1, none⟩ = some (.int .i64 p.ap) := by rw [← hp]; exact (hB.cell (p := ⟨g1, k * 5 + 1, none⟩) l1).trans (CA.out k hlt 1 _ rfl)
        have qa2 : wr.cell? ⟨g1, k * 5 + 2, none⟩ = some (.int .i64 p.fl) := by rw [← hp]; exact (hB.cell (p := ⟨g1, k * 5 + 2, none⟩) l1).trans (CA.out k hlt 2 _ rfl)
        have qa3 : wr.cell? ⟨g1, k * 5 + 3, none⟩ = some (.int .i64 p.ct) := by rw [← hp]; exact (hB.cell (p := ⟨g1, k * 5 + 3, none⟩) l1).trans (CA.out k hlt 3 _ rfl)
        have qa4 : wr.cell? ⟨g1, k * 5 + 4, none⟩ = some (.string p.da) := by rw [← hp]; exact (hB.cell (p := ⟨g1, k * 5 + 4, none⟩) l1).trans (CA.out k hlt 4 _ rfl)
        have qb0 : wr.cell? ⟨g2, k * 5, none⟩ = some (.bool p.cmd) := by rw [← hp]; exact (hB.cell (p := ⟨g2, k * 5, none⟩) l2).trans (CB.out k hlt 0 _ rfl)
        have qb1 : wr.cell? ⟨g2, k * 5 + 1, none⟩ = some (.int .i64 p.ap) := by rw [← hp]; exact (hB.cell (p := ⟨g2, k * 5 + 1, none⟩) l2).trans (CB.out k hlt 1 _ rfl)
        have qb2 : wr.cell? ⟨g2, k * 5 + 2, none⟩ = some (.int .i64 p.fl) := by rw [← hp]; exact (hB.cell (p := ⟨g2, k * 5 + 2, none⟩) l2).trans (CB.out k hlt 2 _ rfl)
        have qb3 : wr.cell? ⟨g2, k * 5 + 3, none⟩ = some (.int .i64 p.ct) := by rw [← hp]; exact (hB.cell (p := ⟨g2, k * 5 + 3, none⟩) l2).trans (CB.out k hlt 3 _ rfl)
        have qb4 : wr.cell? ⟨g2, k * 5 + 4, none⟩ = some (.string p.da) := by rw [← hp]; exact (hB.cell (p := ⟨g2, k * 5 + 4, none⟩) l2).trans (CB.out k hlt 4 _ rfl)
        have k0 : (0 : Int) ≤ (k : Int) := by omega
        have k1 : (k : Int) < (n : Int) := by omega
        have z4 : (p.da.toList == p.da.toList) = true := by simp
        clear hB hp
        go_wp2_with fail
        go_quiet (fail)
        go_wp2_with fail
        go_roundw
        case rel => exact ⟨k + 1, by omega, by go_num, below_drewN HB.out _⟩
        case measure => simp [intOf]; omega
      · obtain rfl : n = k := by omega
        clear hB
        go_wp2_with fail
        go_ret
        exact ⟨rfl, HB.out⟩
end Go.Proofs.Ytphkaambodecdaa
