/- The contracts of Distance over this program: the program's and the reference's. -/
import Derived.Test.YtgfjmolihobaeaaFldList
import Derived.Test.YtgfjmolihobaeaaOnes
namespace Go.Proofs.Ytgfjmolihobaeaa
open Go.RowKit Go.Shelf
set_option linter.unusedVariables false

theorem below_drewN {B : Nat} {a w : World} (h : Below B a w) (n : Nat) : Below B a (w.drewN n) := ⟨h.os, h.tape, h.output, h.size, h.block⟩

namespace Fld
/-- In how many of the first k bits two strings differ. -/
def dst (a b : List UInt8) : Nat → Nat
  | 0 => 0
  | k + 1 => dst a b k + if bit a k = bit b k then 0 else 1
theorem dst_le (a b : List UInt8) : ∀ k, dst a b k ≤ k
  | 0 => Nat.le_refl _
  | k + 1 => by unfold dst; have := dst_le a b k; split <;> omega
theorem ones_bits : ∀ z, z < 256 → Lib.onesCount z = z / 2 ^ 7 % 2 + z / 2 ^ 6 % 2 + z / 2 ^ 5 % 2 + z / 2 ^ 4 % 2 + z / 2 ^ 3 % 2 + z / 2 ^ 2 % 2 + z / 2 ^ 1 % 2 + z / 2 ^ 0 % 2 := by decide +kernel
theorem xor_bit (x y d : Nat) : (x ^^^ y) / 2 ^ d % 2 = if x / 2 ^ d % 2 = y / 2 ^ d % 2 then 0 else 1 := by
  have t := Nat.testBit_xor x y d
  rw [Nat.testBit_eq_decide_div_mod_eq, Nat.testBit_eq_decide_div_mod_eq, Nat.testBit_eq_decide_div_mod_eq] at t
  have hx : x / 2 ^ d % 2 < 2 := Nat.mod_lt _ (by omega)
  have hy : y / 2 ^ d % 2 < 2 := Nat.mod_lt _ (by omega)
  have hz : (x ^^^ y) / 2 ^ d % 2 < 2 := Nat.mod_lt _ (by omega)
  generalize x / 2 ^ d % 2 = p at *
  generalize y / 2 ^ d % 2 = q at *
  generalize (x ^^^ y) / 2 ^ d % 2 = r at *
  match p, q, r, hx, hy, hz with
  | 0, 0, 0, _, _, _ => rfl
  | 0, 0, 1, _, _, _ => simp at t
  | 0, 1, 0, _, _, _ => simp at t
  | 0, 1, 1, _, _, _ => rfl
  | 1, 0, 0, _, _, _ => simp at t
  | 1, 0, 1, _, _, _ => rfl
  | 1, 1, 0, _, _, _ => rfl
  | 1, 1, 1, _, _, _ => simp at t
theorem bit_of (l : List UInt8) (j d : Nat) (h : d < 8) : bit l (8 * j + d) = (l.getD j 0).toNat / 2 ^ (7 - d) % 2 := by
  unfold bit
  rw [show (8 * j + d) / 8 = j by omega, show (8 * j + d) % 8 = d by omega]
theorem dst_byte (a b : List UInt8) (j : Nat) : dst a b (8 * (j + 1)) = dst a b (8 * j) + Lib.onesCount ((a.getD j 0).toNat ^^^ (b.getD j 0).toNat) := by
  have hx : (a.getD j 0).toNat < 2 ^ 8 := UInt8.toNat_lt _
  have hy : (b.getD j 0).toNat < 2 ^ 8 := UInt8.toNat_lt _
  rw [ones_bits _ (Nat.xor_lt_two_pow hx hy)]
  simp only [xor_bit]
  rw [show 8 * (j + 1) = 8 * j + 8 by omega]
  have s7 : dst a b (8 * j + 8) = dst a b (8 * j + 7) + if bit a (8 * j + 7) = bit b (8 * j + 7) then 0 else 1 := rfl
  have s6 : dst a b (8 * j + 7) = dst a b (8 * j + 6) + if bit a (8 * j + 6) = bit b (8 * j + 6) then 0 else 1 := rfl
  have s5 : dst a b (8 * j + 6) = dst a b (8 * j + 5) + if bit a (8 * j + 5) = bit b (8 * j + 5) then 0 else 1 := rfl
  have s4 : dst a b (8 * j + 5) = dst a b (8 * j + 4) + if bit a (8 * j + 4) = bit b (8 * j + 4) then 0 else 1 := rfl
  have s3 : dst a b (8 * j + 4) = dst a b (8 * j + 3) + if bit a (8 * j + 3) = bit b (8 * j + 3) then 0 else 1 := rfl
  have s2 : dst a b (8 * j + 3) = dst a b (8 * j + 2) + if bit a (8 * j + 2) = bit b (8 * j + 2) then 0 else 1 := rfl
  have s1 : dst a b (8 * j + 2) = dst a b (8 * j + 1) + if bit a (8 * j + 1) = bit b (8 * j + 1) then 0 else 1 := rfl
  have s0 : dst a b (8 * j + 1) = dst a b (8 * j + 0) + if bit a (8 * j + 0) = bit b (8 * j + 0) then 0 else 1 := rfl
  rw [bit_of a j 0 (by omega), bit_of b j 0 (by omega)] at s0
  rw [bit_of a j 1 (by omega), bit_of b j 1 (by omega)] at s1
  rw [bit_of a j 2 (by omega), bit_of b j 2 (by omega)] at s2
  rw [bit_of a j 3 (by omega), bit_of b j 3 (by omega)] at s3
  rw [bit_of a j 4 (by omega), bit_of b j 4 (by omega)] at s4
  rw [bit_of a j 5 (by omega), bit_of b j 5 (by omega)] at s5
  rw [bit_of a j 6 (by omega), bit_of b j 6 (by omega)] at s6
  rw [bit_of a j 7 (by omega), bit_of b j 7 (by omega)] at s7
  simp only [Nat.add_zero] at s0
  simp only [Nat.reduceSub] at s0 s1 s2 s3 s4 s5 s6 s7
  omega
def chkD (m n : Nat) : Int := if 65536 < m ∨ 65536 < n then 3 else if m = n then 0 else 2
def distV (a b : List UInt8) : Nat := if chkD a.length b.length = 0 then dst a b (8 * a.length) else 0
end Fld

theorem xor_u8 (x y : UInt8) : bits .xor .u8 (x.toNat : Int) (y.toNat : Int) = ((x.toNat ^^^ y.toNat : Nat) : Int) := u8_xor_nat _ _ (UInt8.toNat_lt _) (UInt8.toNat_lt _)

set_option maxHeartbeats 1000000 in
theorem dist_ok (s t : ByteArray) (n : Nat) (hs : s.size = n) (ht : t.size = n) (hn : n ≤ 65536) (w : World) :
    Calls Try.prog 27 #[.string s, .string t] w fun e w' => e = .returned (.tuple #[.int .i64 (Fld.dst s.data.toList t.data.toList (8 * n) : Nat), .int .i64 0]) ∧ Below w.heap.size w w' := by
  have ON := Lib.hid (fun x w a b => ones_any x w a b)
  have DB := Lib.hid (Fld.dst_byte s.data.toList t.data.toList)
  have DL := Lib.hid (Fld.dst_le s.data.toList t.data.toList)
  have HS := Lib.hid hs
  have HT := Lib.hid ht
  have h1 : s.size ≤ 65536 := by omega
  have h2 : t.size ≤ 65536 := by omega
  have h3 : ((s.size : Int) == (t.size : Int)) = true := by simp; omega
  have h4 : ((s.size : Int) != (t.size : Int)) = false := by simp; omega
  clear hs ht
  go_enter Try.func27, Try.ntmps27
  go_wp2_with fail
  go_loopw [6, 23] (fun d i wr => ∃ k : Nat, k ≤ n ∧ i = .int .i64 k ∧ d = .int .i64 (Fld.dst s.data.toList t.data.toList (8 * k) : Nat) ∧ Below w.heap.size w wr) (fun _ i _ => n - (intOf i).toNat)
  case atStart => exact ⟨0, Nat.zero_le _, rfl, rfl, Below.refl _ _⟩
  case round =>
    obtain ⟨k, hk, rfl, rfl, hB⟩ := hrel
    have HB := Lib.hid hB
    clear hB
    by_cases hlt : k < n
    · have l1 : k < s.size := by have := HS.out; omega
      have l2 : k < t.size := by have := HT.out; omega
      have st := DB.out k
      have b1 := byte_at s k l1
      have b2 := byte_at t k l2
      rw [b1, b2] at st
      have dl := DL.out (8 * k)
      obtain ⟨d, hd⟩ : ∃ d, Fld.dst s.data.toList t.data.toList (8 * k) = d := ⟨_, rfl⟩
      obtain ⟨d', hd'⟩ : ∃ d, Fld.dst s.data.toList t.data.toList (8 * (k + 1)) = d := ⟨_, rfl⟩
      rw [hd] at st dl ⊢
      rw [hd'] at st
      have e1 := xor_u8 s[k] t[k]
      have lx : (s[k].toNat ^^^ t[k].toNat) < 2 ^ 8 := Nat.xor_lt_two_pow (UInt8.toNat_lt _) (UInt8.toNat_lt _)
      obtain ⟨x, hx⟩ : ∃ x, s[k].toNat ^^^ t[k].toNat = x := ⟨_, rfl⟩
      rw [hx] at st e1 lx
      have O := Lib.hid (fun w => ON.out (x : Int) w (by omega) (by omega))
      simp only [Int.toNat_natCast] at O
      have ol : Lib.onesCount x ≤ 8 := Lib.onesCount_le8 ⟨x, by omega⟩
      obtain ⟨c, hc⟩ : ∃ c, Lib.onesCount x = c := ⟨_, rfl⟩
      rw [hc] at st ol O
      have ST := Lib.hid st
      have HD := Lib.hid hd'
      have dl2 : d ≤ 600000 := by omega
      have w1 : IntKind.i64.wrap ((d : Int) + (c : Int)) = (d : Int) + (c : Int) := by rw [IntKind.wrap_i64]; omega
      clear st hd' hd hx hc b1 b2 dl
      go_wp2_with fail
      go_quiet ((go_at_call 47; exact Calls.quiet_of_same (O.out _)))
      go_wp2_with fail
      go_roundw
      case rel => exact ⟨k + 1, by omega, by go_num, by rw [HD.out, ST.out]; go_num, below_drewN HB.out _⟩
      case measure => simp [intOf]; omega
    · obtain rfl : n = k := by omega
      have l1 : ¬ n < s.size := by have := HS.out; omega
      go_wp2_with fail
      go_ret2
      exact ⟨rfl, HB.out⟩

theorem len_ne {m n : Nat} (h : m ≠ n) : ((m : Int) == (n : Int)) = false ∧ ((m : Int) != (n : Int)) = true := by constructor <;> (simp; omega)
theorem len_eq {m n : Nat} (h : m = n) : ((m : Int) == (n : Int)) = true ∧ ((m : Int) != (n : Int)) = false := by constructor <;> (simp; omega)
namespace Fld
theorem distV_bad {a b : List UInt8} {m n : Nat} (ha : a.length = m) (hb : b.length = n) (h : chkD m n ≠ 0) : distV a b = 0 := by unfold distV; rw [ha, hb, if_neg h]
theorem distV_ok {a b : List UInt8} {m n : Nat} (ha : a.length = m) (hb : b.length = n) (h : chkD m n = 0) : distV a b = dst a b (8 * m) := by unfold distV; rw [ha, hb, if_pos h]
end Fld
set_option maxHeartbeats 1000000 in
theorem dist_any (s t : ByteArray) (hs : s.size ≤ 70000) (ht : t.size ≤ 70000) (w : World) :
    Calls Try.prog 27 #[.string s, .string t] w fun e w' => e = .returned (.tuple #[.int .i64 (Fld.distV s.data.toList t.data.toList : Nat), .int .i64 (Fld.chkD s.size t.size)]) ∧ Below w.heap.size w w' := by
  have ls : s.data.toList.length = s.size := by simp
  have lt : t.data.toList.length = t.size := by simp
  have B := Below.refl w.heap.size w
  by_cases h1 : 65536 < s.size
  · have e : Fld.chkD s.size t.size = 3 := if_pos (.inl h1)
    rw [Fld.distV_bad ls lt (by omega), e]
    clear e ls lt
    go_enter Try.func27, Try.ntmps27
    go_wp2_with fail
    go_ret2
    exact ⟨rfl, B⟩
  · by_cases h2 : 65536 < t.size
    · have e : Fld.chkD s.size t.size = 3 := if_pos (.inr h2)
      rw [Fld.distV_bad ls lt (by omega), e]
      have h1' : decide ((65536 : Int) < (s.size : Int)) = false := by simp; omega
      clear e ls lt
      go_enter Try.func27, Try.ntmps27
      go_wp2_with fail
      go_ret2
      exact ⟨rfl, B⟩
    · by_cases h3 : s.size = t.size
      · have e : Fld.chkD s.size t.size = 0 := by unfold Fld.chkD; rw [if_neg (by omega), if_pos h3]
        rw [Fld.distV_ok ls lt e, e]
        exact dist_ok s t s.size rfl h3.symm (by omega) w
      · have e : Fld.chkD s.size t.size = 2 := by unfold Fld.chkD; rw [if_neg (by omega), if_neg h3]
        rw [Fld.distV_bad ls lt (by omega), e]
        have h1' : decide ((65536 : Int) < (s.size : Int)) = false := by simp; omega
        have h2' : decide ((65536 : Int) < (t.size : Int)) = false := by simp; omega
        obtain ⟨h3a, h3b⟩ := len_ne h3
        clear e ls lt h3
        go_enter Try.func27, Try.ntmps27
        go_wp2_with fail
        go_ret2
        exact ⟨rfl, B⟩

set_option maxHeartbeats 1000000 in
theorem rdist_ok (s t : ByteArray) (n : Nat) (hs : s.size = n) (ht : t.size = n) (hn : n ≤ 65536) (w : World) :
    Calls Try.prog 28 #[.string s, .string t] w fun e w' => e = .returned (.tuple #[.int .i64 (Fld.dst s.data.toList t.data.toList (8 * n) : Nat), .int .i64 0]) ∧ w = w' := by
  have L1 := Lib.hid (fun w => rlong_any s (by omega) w)
  have L2 := Lib.hid (fun w => rlong_any t (by omega) w)
  rw [decide_eq_false (by omega)] at L1 L2
  have B1 := Lib.hid (fun i h w => rbit_any s i (by omega) h w)
  have B2 := Lib.hid (fun i h w => rbit_any t i (by omega) h w)
  have DL := Lib.hid (Fld.dst_le s.data.toList t.data.toList)
  have HS := Lib.hid hs
  have HT := Lib.hid ht
  obtain ⟨h3, h4⟩ := len_eq (show s.size = t.size by omega)
  have h1 : s.size ≤ 65536 := by omega
  clear hs ht
  go_enter Try.func28, Try.ntmps28
  go_wp2_with fail
  (with_reducible refine (L1.out _).mono ?_)
  rintro e w' ⟨rfl, rfl⟩
  go_wp2_with fail
  (with_reducible refine (L2.out _).mono ?_)
  rintro e w' ⟨rfl, rfl⟩
  go_wp2_with fail
  go_loop [6, 7] (fun d i => ∃ k : Nat, k ≤ 8 * n ∧ i = .int .i64 k ∧ d = .int .i64 (Fld.dst s.data.toList t.data.toList k : Nat)) (fun _ i => 8 * n - (intOf i).toNat)
  case atStart => exact ⟨0, Nat.zero_le _, rfl, rfl⟩
  case round =>
    obtain ⟨k, hk, rfl, rfl⟩ := hrel
    by_cases hlt : k < 8 * n
    · have l1 : (k : Int) < 8 * (s.size : Int) := by have := HS.out; omega
      have C1 := Lib.hid (B1.out k (by omega))
      have C2 := Lib.hid (B2.out k (by have := HT.out; omega))
      have dl := DL.out k
      have st : Fld.dst s.data.toList t.data.toList (k + 1) = Fld.dst s.data.toList t.data.toList k + if Fld.bit s.data.toList k = Fld.bit t.data.toList k then 0 else 1 := rfl
      obtain ⟨d, hd⟩ : ∃ d, Fld.dst s.data.toList t.data.toList k = d := ⟨_, rfl⟩
      obtain ⟨d', hd'⟩ : ∃ d, Fld.dst s.data.toList t.data.toList (k + 1) = d := ⟨_, rfl⟩
      rw [hd] at st dl ⊢
      rw [hd'] at st
      obtain ⟨x, hx⟩ : ∃ x, Fld.bit s.data.toList k = x := ⟨_, rfl⟩
      obtain ⟨y, hy⟩ : ∃ y, Fld.bit t.data.toList k = y := ⟨_, rfl⟩
      rw [hx, hy] at st
      rw [hx] at C1
      rw [hy] at C2
      have HD := Lib.hid hd'
      have d2 : d ≤ 600000 := by omega
      clear hd' hd hx hy dl
      by_cases e : x = y
      · rw [if_pos e] at st
        have ST := Lib.hid st
        obtain ⟨e1, e2⟩ := len_eq e
        clear st e
        go_wp2_with fail
        (with_reducible refine (C1.out _).mono ?_)
        rintro e w' ⟨rfl, rfl⟩
        go_wp2_with fail
        (with_reducible refine (C2.out _).mono ?_)
        rintro e w' ⟨rfl, rfl⟩
        go_wp2_with fail
        go_round
        case rel => exact ⟨k + 1, by omega, by go_num, by rw [HD.out, ST.out]; go_num⟩
        case measure => simp [intOf]; omega
      · rw [if_neg e] at st
        have ST := Lib.hid st
        obtain ⟨e1, e2⟩ := len_ne e
        clear st e
        go_wp2_with fail
        (with_reducible refine (C1.out _).mono ?_)
        rintro e w' ⟨rfl, rfl⟩
        go_wp2_with fail
        (with_reducible refine (C2.out _).mono ?_)
        rintro e w' ⟨rfl, rfl⟩
        go_wp2_with fail
        go_round
        case rel => exact ⟨k + 1, by omega, by go_num, by rw [HD.out, ST.out]; go_num⟩
        case measure => simp [intOf]; omega
    · obtain rfl : k = 8 * n := by omega
      have l1 : ¬ (8 * (n : Int)) < 8 * (s.size : Int) := by have := HS.out; omega
      go_wp2_with fail
      go_ret2
      exact ⟨rfl, rfl⟩

set_option maxHeartbeats 1000000 in
theorem rdist_any (s t : ByteArray) (hs : s.size ≤ 70000) (ht : t.size ≤ 70000) (w : World) :
    Calls Try.prog 28 #[.string s, .string t] w fun e w' => e = .returned (.tuple #[.int .i64 (Fld.distV s.data.toList t.data.toList : Nat), .int .i64 (Fld.chkD s.size t.size)]) ∧ w = w' := by
  have ls : s.data.toList.length = s.size := by simp
  have lt : t.data.toList.length = t.size := by simp
  have L1 := Lib.hid (fun w => rlong_any s hs w)
  have L2 := Lib.hid (fun w => rlong_any t ht w)
  by_cases h1 : 65536 < s.size
  · have e : Fld.chkD s.size t.size = 3 := if_pos (.inl h1)
    rw [Fld.distV_bad ls lt (by omega), e]
    rw [decide_eq_true h1] at L1
    clear e ls lt
    go_enter Try.func28, Try.ntmps28
    go_wp2_with fail
    (with_reducible refine (L1.out _).mono ?_)
    rintro e w' ⟨rfl, rfl⟩
    go_wp2_with fail
    go_ret2
    exact ⟨rfl, rfl⟩
  · rw [decide_eq_false h1] at L1
    by_cases h2 : 65536 < t.size
    · have e : Fld.chkD s.size t.size = 3 := if_pos (.inr h2)
      rw [Fld.distV_bad ls lt (by omega), e]
      rw [decide_eq_true h2] at L2
      clear e ls lt
      go_enter Try.func28, Try.ntmps28
      go_wp2_with fail
      (with_reducible refine (L1.out _).mono ?_)
      rintro e w' ⟨rfl, rfl⟩
      go_wp2_with fail
      (with_reducible refine (L2.out _).mono ?_)
      rintro e w' ⟨rfl, rfl⟩
      go_wp2_with fail
      go_ret2
      exact ⟨rfl, rfl⟩
    · rw [decide_eq_false h2] at L2
      by_cases h3 : s.size = t.size
      · have e : Fld.chkD s.size t.size = 0 := by unfold Fld.chkD; rw [if_neg (by omega), if_pos h3]
        rw [Fld.distV_ok ls lt e, e]
        exact rdist_ok s t s.size rfl h3.symm (by omega) w
      · have e : Fld.chkD s.size t.size = 2 := by unfold Fld.chkD; rw [if_neg (by omega), if_neg h3]
        rw [Fld.distV_bad ls lt (by omega), e]
        obtain ⟨h3a, h3b⟩ := len_ne h3
        clear e ls lt h3
        go_enter Try.func28, Try.ntmps28
        go_wp2_with fail
        (with_reducible refine (L1.out _).mono ?_)
        rintro e w' ⟨rfl, rfl⟩
        go_wp2_with fail
        (with_reducible refine (L2.out _).mono ?_)
        rintro e w' ⟨rfl, rfl⟩
        go_wp2_with fail
        go_ret2
        exact ⟨rfl, rfl⟩
end Go.Proofs.Ytgfjmolihobaeaa
