/- The contract of math/bits.OnesCount32 over this program, and the number of places in which two numbers of bits differ. -/
import Derived.Test.YtlfnglinalmpjaaChecked
import Derived.Lib.Strings
import Derived.Lib.Slices
import Derived.Lib.Small
import Derived.Lib.Walk
import Derived.Lib.BitFns
import Derived.Deep.QuietTactic
import Derived.Laws.BitsAllLaws
namespace Go.Proofs.Ytlfnglinalmpjaa
set_option linter.unusedVariables false

theorem pop_split : ∀ (a b v : Nat), Lib.popAux (a + b) v = Lib.popAux a v + Lib.popAux b (v / 2 ^ a)
  | 0, b, v => by
    rw [Nat.zero_add, Nat.pow_zero, Nat.div_one]
    show _ = 0 + _
    omega
  | a + 1, b, v => by
    rw [show a + 1 + b = (a + b) + 1 by omega]
    show v % 2 + Lib.popAux (a + b) (v / 2) = v % 2 + Lib.popAux a (v / 2) + _
    rw [pop_split a b (v / 2), Nat.div_div_eq_div_mul, show 2 * 2 ^ a = 2 ^ (a + 1) by rw [Nat.pow_succ, Nat.mul_comm]]
    omega
theorem pop_low (v : Nat) : Lib.popAux 8 (v % 256) = Lib.popAux 8 v := by
  simp only [Lib.popAux]
  omega
theorem pop8_fin : ∀ n : Fin 256, Lib.pop8 (n.val : Int) = (Lib.popAux 8 n.val : Nat) := by decide +kernel
theorem pop8_le : ∀ n : Fin 256, Lib.popAux 8 n.val ≤ 8 := by decide +kernel
theorem pop8_is (b : Nat) (h : b < 256) : Lib.pop8 (b : Int) = (Lib.popAux 8 b : Nat) := pop8_fin ⟨b, h⟩
theorem pop8_le' (b : Nat) (h : b < 256) : Lib.popAux 8 b ≤ 8 := pop8_le ⟨b, h⟩
theorem pop_parts (v b0 b1 b2 b3 : Nat) (h0 : v % 256 = b0) (h1 : v / 256 % 256 = b1) (h2 : v / 65536 % 256 = b2) (h3 : v / 16777216 = b3) : Lib.popAux 32 v = Lib.popAux 8 b3 + Lib.popAux 8 b2 + Lib.popAux 8 b1 + Lib.popAux 8 b0 := by
  have e1 := pop_split 8 24 v
  have e2 := pop_split 8 16 (v / 2 ^ 8)
  have e3 := pop_split 8 8 (v / 2 ^ 8 / 2 ^ 8)
  rw [Nat.div_div_eq_div_mul, Nat.div_div_eq_div_mul] at e3
  rw [Nat.div_div_eq_div_mul] at e2
  have l0 := pop_low v
  have l1 := pop_low (v / 2 ^ 8)
  have l2 := pop_low (v / (2 ^ 8 * 2 ^ 8))
  rw [h0] at l0
  rw [show v / 2 ^ 8 % 256 = b1 from h1] at l1
  rw [show v / (2 ^ 8 * 2 ^ 8) % 256 = b2 from h2] at l2
  rw [show v / (2 ^ 8 * (2 ^ 8 * 2 ^ 8)) = b3 by rw [show 2 ^ 8 * (2 ^ 8 * 2 ^ 8) = 16777216 from rfl]; exact h3] at e3
  show Lib.popAux (8 + 24) v = _
  rw [e1, show (24 : Nat) = 8 + 16 from rfl, e2, show (16 : Nat) = 8 + 8 from rfl, e3, l0, l1, l2]
  omega
theorem and_255 (x : Nat) (h : x < 4294967296) : bits .and .u32 (x : Int) 255 = ((x % 256 : Nat) : Int) := by
  have := u32_and_nat x 255 h (by decide)
  rw [show (255 : Nat) = 2 ^ 8 - 1 from rfl, Nat.and_two_pow_sub_one_eq_mod] at this
  exact this
set_option maxRecDepth 100000 in
theorem ones32_any (v : Nat) (hv : v < 4294967296) (w : World) :
    Calls Try.prog 49 #[.int .u32 (v : Nat)] w fun e w' => e = .returned (.int .i64 (Lib.popAux 32 v : Nat)) ∧ ∃ m, w' = w.drewN m := by
  obtain ⟨b0, h0⟩ : ∃ b, v % 256 = b := ⟨_, rfl⟩
  obtain ⟨b1, h1⟩ : ∃ b, v / 256 % 256 = b := ⟨_, rfl⟩
  obtain ⟨b2, h2⟩ : ∃ b, v / 65536 % 256 = b := ⟨_, rfl⟩
  obtain ⟨b3, h3⟩ : ∃ b, v / 16777216 = b := ⟨_, rfl⟩
  rw [pop_parts v b0 b1 b2 b3 h0 h1 h2 h3]
  have E0 := pop8_is b0 (by omega)
  have E1 := pop8_is b1 (by omega)
  have E2 := pop8_is b2 (by omega)
  have E3 := pop8_is b3 (by omega)
  obtain ⟨v1, hv1⟩ : ∃ b, v / 256 = b := ⟨_, rfl⟩
  obtain ⟨v2, hv2⟩ : ∃ b, v / 65536 = b := ⟨_, rfl⟩
  have i1 : (v : Int) / 256 = (v1 : Int) := by omega
  have i2 : (v : Int) / 65536 = (v2 : Int) := by omega
  have a0 : bits .and .u32 (v : Int) 255 = (b0 : Int) := by rw [and_255 v hv]; omega
  have a1 : bits .and .u32 (v1 : Int) 255 = (b1 : Int) := by rw [and_255 v1 (by omega)]; omega
  have a2 : bits .and .u32 (v2 : Int) 255 = (b2 : Int) := by rw [and_255 v2 (by omega)]; omega
  have i3 : (v : Int) / 16777216 = (b3 : Int) := by omega
  have L0 := pop8_le' b0 (by omega)
  have L1 := pop8_le' b1 (by omega)
  have L2 := pop8_le' b2 (by omega)
  have L3 := pop8_le' b3 (by omega)
  obtain ⟨p0, q0⟩ : ∃ p, Lib.popAux 8 b0 = p := ⟨_, rfl⟩
  obtain ⟨p1, q1⟩ : ∃ p, Lib.popAux 8 b1 = p := ⟨_, rfl⟩
  obtain ⟨p2, q2⟩ : ∃ p, Lib.popAux 8 b2 = p := ⟨_, rfl⟩
  obtain ⟨p3, q3⟩ : ∃ p, Lib.popAux 8 b3 = p := ⟨_, rfl⟩
  rw [q0] at E0 L0 ⊢
  rw [q1] at E1 L1 ⊢
  rw [q2] at E2 L2 ⊢
  rw [q3] at E3 L3 ⊢
  have k0 : (b0 : Int) ≤ 255 := by omega
  have k1 : (b1 : Int) ≤ 255 := by omega
  have k2 : (b2 : Int) ≤ 255 := by omega
  have k3 : (b3 : Int) ≤ 255 := by omega
  have j0 : (0 : Int) ≤ (b0 : Int) := by omega
  have j1 : (0 : Int) ≤ (b1 : Int) := by omega
  have j2 : (0 : Int) ≤ (b2 : Int) := by omega
  have j3 : (0 : Int) ≤ (b3 : Int) := by omega
  clear h0 h1 h2 h3 hv1 hv2 q0 q1 q2 q3
  go_enter Try.func49, Try.ntmps49
  go_wp2
  go_quiet (fail)
  go_wp2
  go_ret
  have W : IntKind.i64.wrap (IntKind.u8.wrap (IntKind.u8.wrap (IntKind.u8.wrap ((p3 : Int) + p2) + p1) + p0)) = ((p3 + p2 + p1 + p0 : Nat) : Int) := by
    rw [IntKind.wrap_u8', IntKind.wrap_u8', IntKind.wrap_u8', IntKind.wrap_i64]
    omega
  refine ⟨?_, _, rfl⟩
  show Ending.returned (.int .i64 _) = _
  rw [W]
end Go.Proofs.Ytlfnglinalmpjaa
