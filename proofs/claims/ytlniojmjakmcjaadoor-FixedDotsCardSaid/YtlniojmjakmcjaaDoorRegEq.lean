/- Whether two numbers of 17 digits are the same, as the program asks it. -/
import Derived.Test.YtlniojmjakmcjaaDoorReg
import Derived.ChangeKeysEq
import Derived.Laws.StructEq
namespace Go.Proofs.YtlniojmjakmcjaaDoor
open Go.RowKit
set_option linter.unusedVariables false

theorem run_eqItems_arr (f g : Nat → Nat) (w : World) : ∀ is : List Nat, (∀ i ∈ is, i < 17) →
    (Op.eqItems 9999 39 1 (arr f) (arr g) is).run Tryd.prog w = .ok (is.all fun i => f i == g i) w
  | [], _ => by simp [Op.eqItems]
  | i :: is, h => by
    have hi := h i (by simp)
    have ih := run_eqItems_arr f g w is (fun j hj => h j (by simp [hj]))
    have pa : ∀ f : Nat → Nat, (part 39 (arr f) (i * 1)).run Tryd.prog w = .ok (.int .u64 (f i : Nat)) w := by
      intro f
      have := arr_get f i hi
      rw [Nat.mul_one]
      have ag : (isAgg 39).run Tryd.prog w = .ok false w := by kernel_rfl
      simp [part, ag, this]
    have eq : (Op.equalIn 9999 39 (.int .u64 (f i : Nat)) (.int .u64 (g i : Nat))).run Tryd.prog w = .ok ((f i : Int) == (g i : Int)) w := by
      go_simp
    simp only [Op.eqItems, Sem.run_bind, pa, eq, Result.andThen_ok]
    by_cases e : f i = g i
    · have e1 : ((f i : Int) == (g i : Int)) = true := by simp [e]
      have e2 : (f i == g i) = true := by simp [e]
      simp only [e1, Bool.not_true, Bool.false_eq_true, if_false, ih, List.all_cons, e2, Bool.true_and]
    · have e1 : ((f i : Int) == (g i : Int)) = false := by simp; omega
      have e2 : (f i == g i) = false := by simp [e]
      simp [e1, e2]

namespace BigM
theorem eq_of_digits {x y : Nat} (hx : x < 65536 ^ 17) (hy : y < 65536 ^ 17) (h : ∀ i, i < 17 → dg x i = dg y i) : x = y := by
  have : ∀ n, n ≤ 17 → x / 65536 ^ (17 - n) = y / 65536 ^ (17 - n) := by
    intro n
    induction n with
    | zero => intro _; rw [Nat.sub_zero, Nat.div_eq_of_lt hx, Nat.div_eq_of_lt hy]
    | succ n ih =>
      intro hn
      have e : 17 - n = 17 - (n + 1) + 1 := by omega
      have i1 := ih (by omega)
      rw [e] at i1
      exact eq_of i1 (h _ (by omega))
  have := this 17 (Nat.le_refl _)
  simpa using this
end BigM

theorem run_neq_big {x y : Nat} (hx : x < 65536 ^ 17) (hy : y < 65536 ^ 17) (w : World) : (binOp .neq 47 (Big x) (Big y)).run Tryd.prog w = .ok (.bool (decide (x ≠ y))) w := by
  unfold Big
  obtain ⟨i0, hi⟩ : ∃ i, Tryd.prog.info? 39 = some i := Option.isSome_iff_exists.1 (by kernel_rfl)
  have hc : Tryd.prog.cellsOf 39 = 1 := by kernel_rfl
  rw [run_neq_struct, show (10000 : Nat) = 9999 + 1 from rfl, run_equalIn_array w 9999 _ _ uBig hi, hc, run_eqItems_arr _ _ _ _ (fun i hi => by simpa using hi), Result.andThen_ok]
  congr 2
  by_cases e : x = y
  · subst e; simp
  · have : ((List.range 17).all fun i => BigM.dg x i == BigM.dg y i) = false := by
      cases h : ((List.range 17).all fun i => BigM.dg x i == BigM.dg y i) with
      | false => rfl
      | true =>
        exact absurd (BigM.eq_of_digits hx hy (fun i hi => by
          have := List.all_eq_true.1 h i (by simpa using hi)
          simpa using this)) e
    rw [this, decide_eq_true e]
    rfl
theorem eqGuard_big (x y : Nat) (o p : Operand) (w : World) : (eqGuard .neq 47 o p (Big x) (Big y)).run Tryd.prog w = .ok () w := run_eqGuard_agg _ _ _ _ _ _ _ (by kernel_rfl)
end Go.Proofs.YtlniojmjakmcjaaDoor
