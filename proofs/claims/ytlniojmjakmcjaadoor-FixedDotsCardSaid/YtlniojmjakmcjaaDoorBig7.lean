/- The contract of perigeeref01's Signed over this program. -/
import Derived.Test.YtlniojmjakmcjaaDoorBig6
namespace Go.Proofs.YtlniojmjakmcjaaDoor
open Go.RowKit
set_option linter.unusedVariables false

namespace BigM
theorem low4 (x : Nat) : x % 65536 ^ 4 = dg x 0 + dg x 1 * 65536 + dg x 2 * 65536 * 65536 + dg x 3 * 65536 * 65536 * 65536 := by
  rw [mod_succ, mod_succ, mod_succ, mod_succ, Nat.pow_zero, Nat.mod_one]
  simp only [Nat.reducePow]
  omega
theorem ge_of {x k : Nat} (hk : 4 ≤ k) (h : dg x k ≠ 0) : 18446744073709551616 ≤ x := by
  apply Nat.le_of_not_lt
  intro l
  exact h (dg_four x k l hk)
end BigM

set_option maxHeartbeats 8000000 in
theorem bigSigned_any (neg : Bool) (x : Nat) (hx : x < 65536 ^ 17) (w : World) :
    Calls Tryd.prog 34 #[.bool neg, Big x] w fun e w' => e = .returned (.tuple #[.int .i64 (Fix.sgnV x neg), .int .i64 (Fix.sgnE x neg)]) ∧ Below w.heap.size w w' := by
  have HX := Lib.hid hx
  clear hx
  have far : 18446744073709551616 ≤ x → Fix.sgnV x neg = 0 ∧ Fix.sgnE x neg = 7 := by
    intro h
    unfold Fix.sgnV Fix.sgnE Fix.valOf Fix.errOf
    have n : ¬ Fix.fits (if neg = true then -(x : Int) else (x : Int)) := by unfold Fix.fits; cases neg <;> simp <;> omega
    rw [if_neg n, if_neg n]; exact ⟨rfl, rfl⟩
  have none : x < 18446744073709551616 → (9223372036854775808 < x ∨ (x = 9223372036854775808 ∧ neg = false)) → Fix.sgnV x neg = 0 ∧ Fix.sgnE x neg = 7 := by
    intro h g
    unfold Fix.sgnV Fix.sgnE Fix.valOf Fix.errOf
    have n : ¬ Fix.fits (if neg = true then -(x : Int) else (x : Int)) := by unfold Fix.fits; cases neg <;> simp at g ⊢ <;> omega
    rw [if_neg n, if_neg n]; exact ⟨rfl, rfl⟩
  have yes : ¬ (9223372036854775808 < x ∨ (x = 9223372036854775808 ∧ neg = false)) → Fix.sgnV x neg = (if neg = true then -(x : Int) else (x : Int)) ∧ Fix.sgnE x neg = 0 := by
    intro g
    unfold Fix.sgnV Fix.sgnE Fix.valOf Fix.errOf
    have n : Fix.fits (if neg = true then -(x : Int) else (x : Int)) := by unfold Fix.fits; cases neg <;> simp at g ⊢ <;> omega
    rw [if_pos n, if_pos n]; exact ⟨rfl, rfl⟩
  obtain ⟨V, hV⟩ : ∃ V, Fix.sgnV x neg = V := ⟨_, rfl⟩
  obtain ⟨E, hE⟩ : ∃ V, Fix.sgnE x neg = V := ⟨_, rfl⟩
  rw [hV, hE] at far none yes ⊢
  have FAR := Lib.hid far
  have NONE := Lib.hid none
  have YES := Lib.hid yes
  have l4 := BigM.low4 x
  have b0 := BigM.dg_lt x 0
  have b1 := BigM.dg_lt x 1
  have b2 := BigM.dg_lt x 2
  have b3 := BigM.dg_lt x 3
  obtain ⟨n, hn⟩ : ∃ n, x % 65536 ^ 4 = n := ⟨_, rfl⟩
  obtain ⟨d0, hd0⟩ : ∃ d, BigM.dg x 0 = d := ⟨_, rfl⟩
  obtain ⟨d1, hd1⟩ : ∃ d, BigM.dg x 1 = d := ⟨_, rfl⟩
  obtain ⟨d2, hd2⟩ : ∃ d, BigM.dg x 2 = d := ⟨_, rfl⟩
  obtain ⟨d3, hd3⟩ : ∃ d, BigM.dg x 3 = d := ⟨_, rfl⟩
  rw [hn, hd0, hd1, hd2, hd3] at l4
  rw [hd0] at b0
  rw [hd1] at b1
  rw [hd2] at b2
  rw [hd3] at b3
  have r : ∀ w : World, Row (w.alloc (.cells (arr (BigM.dg x)) 47)) w.heap.size (BigM.dg x) := fun w => row_new w _
  have q0 := (r w).cell (show 0 < 17 by omega)
  have q1 := (r w).cell (show 1 < 17 by omega)
  have q2 := (r w).cell (show 2 < 17 by omega)
  have q3 := (r w).cell (show 3 < 17 by omega)
  rw [hd0] at q0
  rw [hd1] at q1
  rw [hd2] at q2
  rw [hd3] at q3
  have e0 : (d0 : Int) + (d1 : Int) * 65536 + (d2 : Int) * 65536 * 65536 + (d3 : Int) * 65536 * 65536 * 65536 = (n : Int) := by omega
  have nl : n < 18446744073709551616 := by rw [l4]; omega
  have HN := Lib.hid hn
  have R := Lib.hid r
  clear far none yes hV hE l4 hn hd0 hd1 hd2 hd3 r
  unfold Big
  have B : Below w.heap.size w (w.alloc (.cells (arr (BigM.dg x)) 47)) := Below.alloc (Below.refl _ _) (Nat.le_refl _) _
  go_enter Tryd.func34, Tryd.ntmps34
  go_wp2_with fail
  go_loop [7] (fun a => ∃ k : Nat, a = .int .i64 k ∧ 4 ≤ k ∧ k ≤ 17 ∧ Hid (∀ j, 4 ≤ j → j < k → BigM.dg x j = 0)) (fun a => 17 - (intOf a).toNat)
  case atStart => exact ⟨4, rfl, by omega, by omega, Lib.hid (fun j a b => by omega)⟩
  case round =>
    obtain ⟨k, rfl, hk4, hk, Z⟩ := hrel
    by_cases hlt : k < 17
    · have c := (R.out w).cell hlt
      have k0 : (0 : Int) ≤ (k : Int) := by omega
      have k1 : (k : Int) < 17 := by omega
      by_cases z : BigM.dg x k = 0
      · rw [z] at c
        have Z2 : Hid (∀ j, 4 ≤ j → j < k + 1 → BigM.dg x j = 0) := Lib.hid (fun j a b => by
          by_cases h : j = k
          · rw [h]; exact z
          · exact Z.out j a (by omega))
        clear z
        go_wp2_with fail
        go_round
        case rel => exact ⟨k + 1, by simp, by omega, by omega, Z2⟩
        case measure => first | (simp [intOf]; done) | (simp [intOf]; omega)
      · obtain ⟨v0, e7⟩ := FAR.out (BigM.ge_of hk4 z)
        obtain ⟨d, hd⟩ : ∃ d, BigM.dg x k = d := ⟨_, rfl⟩
        rw [hd] at c z
        have z1 : ((d : Int) == 0) = false := by simp; omega
        have z2 : ((d : Int) != 0) = true := by simp; omega
        subst v0 e7
        clear hd z
        go_wp2_with fail
        go_ret2
        exact ⟨rfl, B⟩
    · obtain rfl : k = 17 := by omega
      have u := BigM.none_above HX.out 13 4 (by omega) (fun j a b => Z.out j a b)
      have xn : x = n := by
        have := Nat.div_add_mod x (65536 ^ 4)
        rw [u, HN.out] at this
        omega
      have XN := Lib.hid xn
      clear u xn q0 q1 q2 q3
      by_cases g : 9223372036854775808 < n
      · obtain ⟨v0, e7⟩ := NONE.out (by rw [XN.out]; exact nl) (Or.inl (by rw [XN.out]; exact g))
        subst v0 e7
        have g' : (9223372036854775808 : Int) < (n : Int) := by omega
        clear g
        go_wp2_with fail
        go_ret2
        exact ⟨rfl, B⟩
      · have g' : decide ((9223372036854775808 : Int) < (n : Int)) = false := by simp; omega
        have g'' : ¬ (9223372036854775808 : Int) < (n : Int) := by omega
        by_cases h : n = 9223372036854775808
        · have h' : ((n : Int) == 9223372036854775808) = true := by simp; omega
          have h'' : (n : Int) = 9223372036854775808 := by omega
          cases neg
          · obtain ⟨v0, e7⟩ := NONE.out (by rw [XN.out]; exact nl) (Or.inr ⟨by rw [XN.out]; exact h, rfl⟩)
            subst v0 e7
            clear g h h''
            go_wp2_with fail
            go_ret2
            exact ⟨rfl, B⟩
          · obtain ⟨v0, e0'⟩ := YES.out (by rw [XN.out]; simp; omega)
            have ve : V = -9223372036854775808 := by rw [v0]; simp; rw [XN.out]; omega
            subst ve e0'
            have m : wrap64 (IntKind.u64.wrap (-(n : Int))) = -9223372036854775808 := by simp only [wrap64, IntKind.wrap_u64]; omega
            clear g h h'' v0
            go_wp2_with fail
            go_ret2
            exact ⟨rfl, B⟩
        · have h' : ((n : Int) == 9223372036854775808) = false := by simp; omega
          have h'' : decide ((n : Int) = 9223372036854775808) = false := by simp; omega
          obtain ⟨v0, e0'⟩ := YES.out (by rw [XN.out]; simp; omega)
          have n1 : (n : Int) < 9223372036854775808 := by omega
          cases neg
          · have ve : V = (n : Int) := by rw [v0]; simp; rw [XN.out]
            subst ve e0'
            clear g h v0
            go_wp2_with fail
            go_ret2
            exact ⟨rfl, B⟩
          · have ve : V = -(n : Int) := by rw [v0]; simp; rw [XN.out]
            subst ve e0'
            have m : wrap64 (IntKind.u64.wrap (-(n : Int))) = -(n : Int) := by simp only [wrap64, IntKind.wrap_u64]; omega
            clear g h v0
            go_wp2_with fail
            go_ret2
            exact ⟨rfl, B⟩
end Go.Proofs.YtlniojmjakmcjaaDoor
