/- Layer 8, the landed program: wrongBits and areSoft. -/
import Derived.Test.YtlfnglinalmpjaaMkOnes
import Derived.Test.YtlfnglinalmpjaaMkWrong
namespace Go.Proofs.Ytlfnglinalmpjaa
open Go.RowKit
set_option linter.unusedVariables false

namespace Mk
/-- The hard symbols from p on as a number, the first the highest bit. -/
def hd (v : Nat → Int) (p : Nat) : Nat → Nat
  | 0 => 0
  | k + 1 => 2 * hd v p k + (if decide (0 ≤ v (p + k)) = true then 1 else 0)
/-- The first bits of the marker as a number. -/
def ma : Nat → Nat
  | 0 => 0
  | k + 1 => 2 * ma k + mbit k
theorem ma_32 : ma 32 = 449838109 := by decide +kernel
theorem hd_lt (v : Nat → Int) (p : Nat) : ∀ k, hd v p k < 2 ^ k
  | 0 => by show 0 < 1; omega
  | k + 1 => by
    have := hd_lt v p k
    rw [Nat.pow_succ]
    show 2 * hd v p k + _ < _
    split <;> omega
theorem xor_mod2 (a b : Nat) : (a ^^^ b) % 2 = (a + b) % 2 := by
  have t := Nat.testBit_xor a b 0
  simp only [Nat.testBit_zero] at t
  rcases Nat.mod_two_eq_zero_or_one a with h1 | h1 <;> rcases Nat.mod_two_eq_zero_or_one b with h2 | h2 <;> rcases Nat.mod_two_eq_zero_or_one (a ^^^ b) with h3 | h3 <;> rw [h1, h2, h3] at t <;> first | omega | (simp at t)
theorem mbit_lt (k : Nat) : mbit k < 2 := Nat.mod_lt _ (by decide)
theorem hd_pop (v : Nat → Int) (p : Nat) : ∀ k, Lib.popAux k (hd v p k ^^^ ma k) = wrongAt v p k
  | 0 => rfl
  | k + 1 => by
    have ih := hd_pop v p k
    have hm := mbit_lt k
    obtain ⟨x, hx⟩ : ∃ x, (if decide (0 ≤ v (p + k)) = true then 1 else 0 : Nat) = x := ⟨_, rfl⟩
    have x2 : x < 2 := by rw [← hx]; split <;> omega
    have e1 : hd v p (k + 1) = 2 * hd v p k + x := by rw [← hx]; rfl
    have e2 : ma (k + 1) = 2 * ma k + mbit k := rfl
    rw [e1, e2]
    show (_ ^^^ _) % 2 + Lib.popAux k ((_ ^^^ _) / 2) = _
    rw [Nat.xor_div_two, xor_mod2, show (2 * hd v p k + x) / 2 = hd v p k by omega, show (2 * ma k + mbit k) / 2 = ma k by omega, ih]
    show _ = wrongAt v p k + _
    by_cases g1 : 0 ≤ v (p + k)
    · rw [decide_eq_true g1, if_pos rfl] at hx
      by_cases g2 : mbit k = 1
      · rw [decide_eq_true g1, decide_eq_true g2, if_pos rfl]
        omega
      · rw [decide_eq_true g1, decide_eq_false g2, if_neg (by simp)]
        omega
    · rw [decide_eq_false g1, if_neg (by simp)] at hx
      by_cases g2 : mbit k = 1
      · rw [decide_eq_false g1, decide_eq_true g2, if_neg (by simp)]
        omega
      · rw [decide_eq_false g1, decide_eq_false g2, if_pos rfl]
        omega
end Mk
set_option maxRecDepth 100000 in
set_option maxHeartbeats 1000000 in
theorem wrongBits_any (ao : Option Addr) (cap : Nat) (zs : List Int) (n : Nat) (hn : zs.length = n) (h32 : 32 ≤ n) (hc : n ≤ cap) (hl : cap ≤ maxLen) (w : World) (R : Ints w ao zs) :
    Calls Try.prog 45 #[.slice ao n cap] w fun e w' => e = .returned (.int .i64 (Mk.wrongAt (fz zs) 0 32 : Nat)) ∧ Below w.heap.size w w' := by
  have RC := Lib.hid (R.cell (by omega))
  have ON := Lib.hid (fun v hv w => ones32_any v hv w)
  have HP := Lib.hid (Mk.hd_pop (fz zs) 0 32)
  have HL := Lib.hid (Mk.hd_lt (fz zs) 0)
  have HN := Lib.hid hn
  clear R hn
  obtain ⟨b, off, rfl, hb, hcell⟩ := RC.out
  have CZ := Lib.hid (fun j (hj : j < n) w' (q : Below w.heap.size w w') => (q.cell (p := ⟨b, off + j, none⟩) hb).trans (hcell j (by rw [HN.out]; exact hj)))
  clear RC hcell
  have B0 := Lib.hid (Below.refl w.heap.size w)
  unfold maxLen at hl
  have c1 : (32 : Int) ≤ (cap : Int) := by omega
  have c2 : decide ((32 : Int) ≤ (cap : Int)) = true := by simp; omega
  have c3 : ¬ (cap < 32) := by omega
  go_enter Try.func45, Try.ntmps45
  go_wp2_with fail
  go_loopw [3, 9] (fun h x wr => ∃ i : Nat, i ≤ 32 ∧ x = .int .i64 (i : Nat) ∧ h = .int .u32 (Mk.hd (fz zs) 0 i : Nat) ∧ Below w.heap.size w wr) (fun _ x _ => 32 - (intOf x).toNat)
  case atStart => exact ⟨0, Nat.zero_le _, rfl, rfl, B0.out⟩
  case round =>
    obtain ⟨i, hi, rfl, rfl, hB⟩ := hrel
    have B2 := Lib.hid hB
    clear hB B0
    by_cases hlt : i < 32
    · have t0 : decide ((i : Int) < 32) = true := by simp; omega
      have cz := CZ.out i (by omega) _ B2.out
      obtain ⟨z, hz⟩ : ∃ z, zs.getD i 0 = z := ⟨_, rfl⟩
      rw [hz] at cz
      have hq := HL.out i
      have hq2 : Mk.hd (fz zs) 0 i < 2147483648 := Nat.lt_of_lt_of_le hq (by
        have : 2 ^ i ≤ 2 ^ 31 := Nat.pow_le_pow_right (by omega) (by omega)
        omega)
      obtain ⟨q, hqq⟩ : ∃ q, Mk.hd (fz zs) 0 i = q := ⟨_, rfl⟩
      have HQ := Lib.hid hqq
      rw [hqq] at hq2 ⊢
      obtain ⟨q2, hq3⟩ : ∃ q2, 2 * q = q2 := ⟨_, rfl⟩
      have e1 : IntKind.u32.wrap ((q : Int) * 2) = (q2 : Int) := by rw [IntKind.wrap_u32']; omega
      have e2 : bits .or .u32 (q2 : Int) 1 = ((q2 + 1 : Nat) : Int) := by
        have h := u32_or_nat q2 1 (by omega) (by decide)
        have j := nat_join 1 q2 1 (by omega) (by decide)
        rw [j] at h
        exact h
      have HZ := Lib.hid (show fz zs (0 + i) = z from by rw [Nat.zero_add]; exact hz)
      have Q2 := Lib.hid hq3
      clear hq hqq hz CZ hq3
      by_cases g1 : (0 : Int) ≤ z
      · have t1 : decide ((0 : Int) ≤ z) = true := by simp; omega
        have WS := Lib.hid (show Mk.hd (fz zs) 0 (i + 1) = q2 + 1 from by
          show 2 * Mk.hd (fz zs) 0 i + _ = _
          rw [HQ.out, HZ.out, t1, if_pos rfl, Q2.out])
        go_wp2_with fail
        go_roundw
        case rel => exact ⟨i + 1, by omega, by go_num, by rw [WS.out]; first | rfl | go_num, B2.out⟩
        case measure => simp [intOf]; omega
      · have t1 : decide ((0 : Int) ≤ z) = false := by simp; omega
        have WS := Lib.hid (show Mk.hd (fz zs) 0 (i + 1) = q2 from by
          show 2 * Mk.hd (fz zs) 0 i + _ = _
          rw [HQ.out, HZ.out, t1, if_neg (by simp), Q2.out]
          rfl)
        go_wp2_with fail
        go_roundw
        case rel => exact ⟨i + 1, by omega, by go_num, by rw [WS.out], B2.out⟩
        case measure => simp [intOf]; omega
    · have t0 : decide ((i : Int) < 32) = false := by simp; omega
      obtain rfl : i = 32 := by omega
      clear CZ
      have hq := HL.out 32
      obtain ⟨q, hqq⟩ : ∃ q, Mk.hd (fz zs) 0 32 = q := ⟨_, rfl⟩
      rw [hqq] at hq ⊢
      have hp := HP.out
      rw [hqq, Mk.ma_32] at hp
      have hx : q ^^^ 449838109 < 4294967296 := Nat.xor_lt_two_pow (n := 32) hq (by decide)
      have xe := u32_xor_nat q 449838109 hq (by decide)
      obtain ⟨y, hy⟩ : ∃ y, q ^^^ 449838109 = y := ⟨_, rfl⟩
      rw [hy] at hp hx xe
      have XE : bits .xor .u32 (q : Int) 449838109 = (y : Int) := xe
      have HPP := Lib.hid hp
      have HX := Lib.hid hx
      clear hp hy hqq xe HP HL hq hx
      go_wp2_with fail
      (with_reducible refine (ON.out _ HX.out _).mono ?_)
      rintro e w2 ⟨rfl, m, rfl⟩
      go_wp2_with fail
      go_ret
      exact ⟨by rw [← HPP.out]; rfl, below_drewN B2.out _⟩
set_option maxRecDepth 100000 in
set_option maxHeartbeats 1000000 in
theorem areSoft_any (a : Option Addr) (cap : Nat) (zs : List Int) (n : Nat) (hn : zs.length = n) (hl : n ≤ 1000000) (w : World) (R : Ints w a zs) :
    Calls Try.prog 36 #[.slice a n cap] w fun e w' => e = .returned (.bool (softOk zs)) ∧ w = w' := by
  have SI := Lib.hid (softOk_iff zs)
  have SN := Lib.hid (fun i hi h => softOk_no (zs := zs) (i := i) hi h)
  have RC := Lib.hid (fun h => R.cell h)
  have HN := Lib.hid hn
  obtain ⟨b0, hb0⟩ : ∃ b, softOk zs = b := ⟨_, rfl⟩
  rw [hb0] at SI SN ⊢
  clear hb0 R hn
  go_enter Try.func36, Try.ntmps36
  go_wp2_with fail
  go_loop [7] (fun x => ∃ k : Nat, k ≤ n ∧ x = .int .i64 (k : Nat) ∧ ∀ j, j < k → sOk (zs.getD j 0)) (fun x => n - (intOf x).toNat)
  case atStart => exact ⟨0, Nat.zero_le _, rfl, fun j h => absurd h (Nat.not_lt_zero j)⟩
  case round =>
    obtain ⟨k, hk, rfl, hall⟩ := hrel
    have HA := Lib.hid hall
    clear hall
    by_cases hlt : k < n
    · obtain ⟨b, off, rfl, hb, hc⟩ := RC.out (by rw [HN.out]; omega)
      have cl := hc k (by rw [HN.out]; exact hlt)
      obtain ⟨x, hx⟩ : ∃ x, zs.getD k 0 = x := ⟨_, rfl⟩
      have HX := Lib.hid hx
      rw [hx] at cl
      have t1 : decide ((k : Int) < (n : Int)) = true := by simp; omega
      have k9 : (k : Int) < (n : Int) := by omega
      clear hc hx
      by_cases h1 : x < -8
      · have B0 := Lib.hid (SN.out k (by rw [HN.out]; exact hlt) (by rw [HX.out]; unfold sOk; omega))
        have d1 : decide (x < (-8 : Int)) = true := by simp; omega
        clear SI SN RC
        go_wp2_with fail
        go_ret
        exact ⟨by rw [B0.out]; rfl, rfl⟩
      · have d1 : decide (x < (-8 : Int)) = false := by simp; omega
        by_cases h2 : 7 < x
        · have B0 := Lib.hid (SN.out k (by rw [HN.out]; exact hlt) (by rw [HX.out]; unfold sOk; omega))
          have d2 : decide ((7 : Int) < x) = true := by simp; omega
          clear SI SN RC
          go_wp2_with fail
          go_ret
          exact ⟨by rw [B0.out]; rfl, rfl⟩
        · have d2 : decide ((7 : Int) < x) = false := by simp; omega
          have HA2 := Lib.hid (show ∀ j, j < k + 1 → sOk (zs.getD j 0) from fun j hj => by
            by_cases e : j = k
            · subst e
              rw [HX.out]
              unfold sOk
              omega
            · exact HA.out j (by omega))
          clear SI SN RC HA
          go_wp2_with fail
          go_round
          case rel => exact ⟨k + 1, by omega, by go_num, HA2.out⟩
          case measure => simp [intOf]; omega
    · have t1 : decide ((k : Int) < (n : Int)) = false := by simp; omega
      have B0 := Lib.hid (SI.out.2 (fun i hi => HA.out i (by rw [HN.out] at hi; omega)))
      clear SI SN RC HA
      go_wp2_with fail
      go_ret
      exact ⟨by rw [B0.out]; rfl, rfl⟩
end Go.Proofs.Ytlfnglinalmpjaa
