/- The contracts of perigeeref01's Abs, Less, Half over this program. -/
import Derived.Test.YtlniojmjakmcjaaDoorBig
import Derived.StillTailTactics
namespace Go.Proofs.YtlniojmjakmcjaaDoor
open Go.RowKit
set_option linter.unusedVariables false

namespace BigM
theorem dg_small (x i : Nat) (h : x < 65536 ^ i) : dg x i = 0 := by unfold dg; rw [Nat.div_eq_of_lt h]
theorem dg_four (n i : Nat) (hn : n < 18446744073709551616) (hi : 4 ≤ i) : dg n i = 0 := by
  apply dg_small
  have : 65536 ^ 4 ≤ 65536 ^ i := Nat.pow_le_pow_right (by decide) hi
  rw [show (65536 : Nat) ^ 4 = 18446744073709551616 from by decide] at this
  omega
end BigM

structure AbsAt (B : Nat) (n k : Nat) (w w' : World) : Prop where
  below : Below B w w'
  r1 : Row w' B (fun _ => 0)
  r2 : Row w' (B + 1) (fun j => if j < k then BigM.dg n j else 0)

theorem abs_store {B n k : Nat} {w w' : World} (S : AbsAt B n k w w') (hk : k < 4) : AbsAt B n (k + 1) w (w'.setCell ⟨B + 1, k, none⟩ (.int .u64 (BigM.dg n k : Nat))) := by
  obtain ⟨b, r1, r2⟩ := S
  refine ⟨Below.setCell (p := ⟨B + 1, k, none⟩) b (by simp) _, r1.setOther (by omega) _, (r2.set k (BigM.dg n k)).congr (fun j hj => ?_)⟩
  by_cases h : j = k
  · subst h; simp
  · by_cases g : j < k
    · rw [if_neg h, if_pos g, if_pos (by omega)]
    · rw [if_neg h, if_neg g, if_neg (by omega)]

set_option maxHeartbeats 4000000 in
theorem bigAbs_any (a : Int) (ha : Fix.fits a) (w : World) :
    Calls Tryd.prog 32 #[.int .i64 a] w fun e w' => e = .returned (Big a.natAbs) ∧ Below w.heap.size w w' := by
  obtain ⟨a0, a1⟩ := ha
  obtain ⟨n, hn⟩ : ∃ n, a.natAbs = n := ⟨_, rfl⟩
  have nl : n < 18446744073709551616 := by omega
  have e1 : a < 0 → IntKind.u64.wrap (-(IntKind.u64.wrap a)) = (n : Int) := by intro h; simp only [IntKind.wrap_u64]; omega
  have e2 : ¬ a < 0 → IntKind.u64.wrap a = (n : Int) := by intro h; simp only [IntKind.wrap_u64]; omega
  have e3 : ¬ a < 0 → a = (n : Int) := by intro h; omega
  rw [hn]
  unfold Big
  clear hn
  by_cases neg : a < 0
  all_goals
    first
      | (have q := e1 neg)
      | (have q := e3 neg; subst q)
    clear e1 e2 e3
    go_enter Tryd.func32, Tryd.ntmps32
    go_wp2_with fail
    go_loopw [3, 5] (fun c i wr => ∃ k : Nat, i = .int .i64 k ∧ c = .int .u64 (n / 65536 ^ k : Nat) ∧ k ≤ 4 ∧ AbsAt w.heap.size n k w wr) (fun _ i _ => 4 - (intOf i).toNat)
    case atStart =>
      refine ⟨0, rfl, by simp, by omega, ⟨by go_grown, ?_, ?_⟩⟩
      · exact (row_new w (fun _ => 0)).alloc _
      · have := row_new (w.alloc (.cells (arr (fun _ => 0)) 47)) (fun _ => 0)
        rw [World.size_alloc] at this
        exact this
    case round =>
      obtain ⟨k, rfl, rfl, hk, S⟩ := hrel
      by_cases hlt : k < 4
      · have c1 := S.r2.cell (show k < 17 by omega)
        have f1 := S.r2.frozen k
        simp only [Nat.lt_irrefl, if_false] at c1
        have hd : n / 65536 ^ k % 65536 = BigM.dg n k := rfl
        have hs := BigM.div_succ n k
        have ql : n / 65536 ^ k ≤ n := Nat.div_le_self _ _
        obtain ⟨p, hp⟩ : ∃ q, n / 65536 ^ k = q := ⟨_, rfl⟩
        obtain ⟨d, hd'⟩ : ∃ q, BigM.dg n k = q := ⟨_, rfl⟩
        obtain ⟨p1, hp1⟩ : ∃ q, n / 65536 ^ (k + 1) = q := ⟨_, rfl⟩
        rw [hp] at hd hs ql ⊢
        rw [hd'] at hd
        rw [hp1] at hs
        have z1 : (p : Int) % 65536 = (d : Int) := by omega
        have z2 : (p : Int) / 65536 = (p1 : Int) := by omega
        have Z2 := Lib.hid z2
        have SS := Lib.hid S
        have P1 := Lib.hid hp1
        have D := Lib.hid hd'
        clear S hd hs hp hd' hp1
        go_wp2_with fail
        go_roundw
        case rel => exact ⟨k + 1, by simp, by rw [P1.out], by omega, by rw [← D.out]; exact abs_store SS.out hlt⟩
        case measure => simp [intOf]; omega
      · obtain rfl : k = 4 := by omega
        have r2 : Row wr (w.heap.size + 1) (BigM.dg n) := S.r2.congr (fun j hj => by
          by_cases h : j < 4
          · rw [if_pos h]
          · rw [if_neg h, BigM.dg_four n j nl (by omega)])
        have HB := Lib.hid S.below
        have H1 := Lib.hid r2
        have H3 := Lib.hid S.r1
        clear S r2
        go_wp2_with (first
          | (refine wpList_load_row rfl 47 (.tmp 4) rfl (w.heap.size + 1) rfl _ _ _ _ H1.out uBig rfl (iBig _) ?_)
          | (refine wpList_store_row rfl 47 (.tmp 2) (.tmp 22) rfl w.heap.size (arr (BigM.dg n)) rfl rfl _ _ H3.out (iBig _) (by rw [arr_size, arr_size]) (arr_one _) ?_))
        exact bodyPost_ret (v := .agg (arr (BigM.dg n))) (results_cell_row Tryd.results32 _ _ w.heap.size 47 (arr (BigM.dg n)) (0, 0) _ rfl (setRow_heap _ _ _ _ _ _ H3.out) uBig rfl (iBig _)) rfl ⟨rfl, below_setRow HB.out (by omega) _⟩

namespace BigM
theorem top {x : Nat} (h : x < 65536 ^ 17) : x / 65536 ^ 17 = 0 := Nat.div_eq_of_lt h
theorem div_dg (x k : Nat) : x / 65536 ^ k = x / 65536 ^ (k + 1) * 65536 + dg x k := by rw [div_succ]; unfold dg; omega
theorem lt_of {x y k : Nat} (h : x / 65536 ^ (k + 1) = y / 65536 ^ (k + 1)) (d : dg x k < dg y k) : x < y := by
  apply Nat.lt_of_not_le
  intro g
  have := Nat.div_le_div_right (c := 65536 ^ k) g
  rw [div_dg x k, div_dg y k, h] at this
  omega
theorem eq_of {x y k : Nat} (h : x / 65536 ^ (k + 1) = y / 65536 ^ (k + 1)) (d : dg x k = dg y k) : x / 65536 ^ k = y / 65536 ^ k := by
  rw [div_dg x k, div_dg y k, h, d]
end BigM

set_option maxHeartbeats 4000000 in
theorem bigLess_any (x y : Nat) (hx : x < 65536 ^ 17) (hy : y < 65536 ^ 17) (w : World) :
    Calls Tryd.prog 41 #[Big x, Big y] w fun e w' => e = .returned (.bool (decide (x < y))) ∧ Below w.heap.size w w' := by
  have hx' := Lib.hid (BigM.top hx)
  have hy' := Lib.hid (BigM.top hy)
  clear hx hy
  obtain ⟨R, hR⟩ : ∃ R, decide (x < y) = R := ⟨_, rfl⟩
  rw [hR]
  have HR := Lib.hid hR
  clear hR
  unfold Big
  go_enter Tryd.func41, Tryd.ntmps41
  go_wp2_with fail
  go_loopw [5] (fun i wr => ∃ k : Nat, i = .int .i64 ((k : Int) - 1) ∧ k ≤ 17 ∧ Hid (x / 65536 ^ k = y / 65536 ^ k) ∧ Below w.heap.size w wr ∧ Row wr w.heap.size (BigM.dg x) ∧ Row wr (w.heap.size + 1) (BigM.dg y)) (fun i _ => (intOf i + 1).toNat)
  case atStart =>
    refine ⟨17, rfl, by omega, Lib.hid (by rw [hx'.out, hy'.out]), by go_grown, (row_new w (BigM.dg x)).alloc _, ?_⟩
    have := row_new (w.alloc (.cells (arr (BigM.dg x)) 47)) (BigM.dg y)
    rw [World.size_alloc] at this
    exact this
  case round =>
    obtain ⟨k, rfl, hk, E, B, r1, r2⟩ := hrel
    cases k with
    | zero =>
      have e : x = y := by have := E.out; simpa using this
      have v : R = false := by rw [← HR.out]; simp [e]
      subst v
      clear E e
      go_wp2_with fail
      go_ret
      exact ⟨rfl, B⟩
    | succ k =>
      have kk : (((k + 1 : Nat) : Int) - 1) = (k : Int) := by omega
      rw [kk]
      have c1 := r1.cell (show k < 17 by omega)
      have c2 := r2.cell (show k < 17 by omega)
      have R1 := Lib.hid r1
      have R2 := Lib.hid r2
      have k0 : (0 : Int) ≤ (k : Int) := by omega
      have k1 : (k : Int) < 17 := by omega
      have lo := fun h => BigM.lt_of E.out (k := k) h
      have hi := fun h => BigM.lt_of E.out.symm (k := k) h
      have eq := fun h => BigM.eq_of E.out (k := k) h
      have dx := BigM.dg_lt x k
      have dy := BigM.dg_lt y k
      obtain ⟨d1, hd1⟩ : ∃ q, BigM.dg x k = q := ⟨_, rfl⟩
      obtain ⟨d2, hd2⟩ : ∃ q, BigM.dg y k = q := ⟨_, rfl⟩
      rw [hd1] at c1 lo hi eq dx
      rw [hd2] at c2 lo hi eq dy
      have LO := Lib.hid lo
      have HI := Lib.hid hi
      have EQ := Lib.hid eq
      clear lo hi eq hd1 hd2 E kk r1 r2
      by_cases same : d1 = d2
      · have E2 := Lib.hid (EQ.out same)
        have s1 : ((d1 : Int) != (d2 : Int)) = false := by simp [same]
        have s2 : ((d1 : Int) == (d2 : Int)) = true := by simp [same]
        subst same
        go_wp2_with fail
        go_quiet (fail)
        go_wp2_with fail
        go_roundw
        case rel => exact ⟨k, rfl, by omega, E2, below_drewN B _, R1.out, R2.out⟩
        case measure => first | (simp [intOf]; done) | (simp [intOf]; omega)
      · have s1 : ((d1 : Int) != (d2 : Int)) = true := by simp; omega
        have s2 : ((d1 : Int) == (d2 : Int)) = false := by simp; omega
        have v : R = decide ((d1 : Int) < (d2 : Int)) := by
          rw [← HR.out]
          by_cases l : d1 < d2
          · rw [decide_eq_true (LO.out l), decide_eq_true (by omega)]
          · have := HI.out (by omega)
            rw [decide_eq_false (by omega), decide_eq_false (by omega)]
        have V := Lib.hid v
        clear same v LO HI EQ
        go_wp2_with fail
        go_quiet (fail)
        go_wp2_with fail
        go_quiet (fail)
        go_wp2_with fail
        go_ret
        exact ⟨by rw [V.out]; first | rfl | (congr 2; simp), below_drewN (below_drewN B _) _⟩
end Go.Proofs.YtlniojmjakmcjaaDoor
