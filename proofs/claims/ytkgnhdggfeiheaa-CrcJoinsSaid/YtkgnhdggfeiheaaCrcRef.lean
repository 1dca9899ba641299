/- The contracts of perigeeref03's bit16, bit32, Next16, Next32, Sum16, Sum32 over this program. -/
import Derived.Test.YtkgnhdggfeiheaaCrcNext
namespace Go.Proofs.Ytkgnhdggfeiheaa
open Go.RowKit
set_option linter.unusedVariables false

theorem bit16_any (r : BitVec 16) (x : Nat) (hx : x < 2) (w : World) :
    Calls Try.prog 30 #[.int .u16 (r.toNat : Nat), .int .u16 (x : Nat)] w fun e w' => e = .returned (.int .u16 ((Crc.B16 r x).toNat : Nat)) ∧ w = w' := by
  have hr : r.toNat < 65536 := r.isLt
  have e1 := one_more r
  have e2 := xor16 (r <<< 1) 0x1021#16
  rw [show ((0x1021#16).toNat : Int) = 4129 from rfl] at e2
  obtain ⟨t, ht⟩ : ∃ t, r.toNat / 32768 = t := ⟨_, rfl⟩
  have e3 : (r.toNat : Int) / 32768 = (t : Int) := by omega
  by_cases g : t = x
  · have e : Crc.B16 r x = r <<< 1 := by unfold Crc.B16; rw [ht, if_pos g]
    have h1 : ((t : Int) != (x : Int)) = false := by simp; omega
    rw [e]
    obtain ⟨q, hq⟩ : ∃ p, r <<< 1 = p := ⟨_, rfl⟩
    rw [hq] at e1 ⊢
    obtain ⟨X, hX⟩ : ∃ X, r.toNat = X := ⟨_, rfl⟩
    rw [hX] at e1 e3 ⊢
    clear e g e2 hq hX ht hr
    go_enter Try.func30, Try.ntmps30
    go_wp2_with fail
    go_ret
    exact ⟨rfl, rfl⟩
  · have e : Crc.B16 r x = (r <<< 1) ^^^ 0x1021#16 := by unfold Crc.B16; rw [ht, if_neg g]
    have h1 : ((t : Int) != (x : Int)) = true := by simp; omega
    rw [e]
    obtain ⟨p, hp⟩ : ∃ p, (r <<< 1) ^^^ 0x1021#16 = p := ⟨_, rfl⟩
    rw [hp] at e2 ⊢
    obtain ⟨q, hq⟩ : ∃ p, r <<< 1 = p := ⟨_, rfl⟩
    rw [hq] at e1 e2
    obtain ⟨X, hX⟩ : ∃ X, r.toNat = X := ⟨_, rfl⟩
    rw [hX] at e1 e3 ⊢
    clear e g hq hX ht hp hr
    go_enter Try.func30, Try.ntmps30
    go_wp2_with fail
    go_ret
    exact ⟨rfl, rfl⟩
theorem bit32_any (r : BitVec 32) (x : Nat) (hx : x < 2) (w : World) :
    Calls Try.prog 33 #[.int .u32 (r.toNat : Nat), .int .u32 (x : Nat)] w fun e w' => e = .returned (.int .u32 ((Crc.B32 r x).toNat : Nat)) ∧ w = w' := by
  have hr : r.toNat < 4294967296 := r.isLt
  have e1 := one_less r
  have e2 := xor32 (r >>> 1) 0xedb88320#32
  rw [show ((0xedb88320#32).toNat : Int) = 3988292384 from rfl] at e2
  obtain ⟨t, ht⟩ : ∃ t, r.toNat % 2 = t := ⟨_, rfl⟩
  have e3 : (r.toNat : Int) % 2 = (t : Int) := by omega
  by_cases g : t = x
  · have e : Crc.B32 r x = r >>> 1 := by unfold Crc.B32; rw [ht, if_pos g]
    have h1 : ((t : Int) != (x : Int)) = false := by simp; omega
    rw [e]
    obtain ⟨q, hq⟩ : ∃ p, (r >>> 1).toNat = p := ⟨_, rfl⟩
    rw [hq] at e1 ⊢
    obtain ⟨X, hX⟩ : ∃ X, r.toNat = X := ⟨_, rfl⟩
    rw [hX] at e1 e3 ⊢
    have E1 := Lib.hid e1
    clear e g e2 hq hX ht hr
    go_enter Try.func33, Try.ntmps33
    go_wp2_with fail
    go_ret
    exact ⟨rfl, rfl⟩
  · have e : Crc.B32 r x = (r >>> 1) ^^^ 0xedb88320#32 := by unfold Crc.B32; rw [ht, if_neg g]
    have h1 : ((t : Int) != (x : Int)) = true := by simp; omega
    rw [e]
    obtain ⟨p, hp⟩ : ∃ p, (r >>> 1) ^^^ 0xedb88320#32 = p := ⟨_, rfl⟩
    rw [hp] at e2 ⊢
    obtain ⟨q, hq⟩ : ∃ p, (r >>> 1).toNat = p := ⟨_, rfl⟩
    rw [hq] at e1 e2
    obtain ⟨X, hX⟩ : ∃ X, r.toNat = X := ⟨_, rfl⟩
    rw [hX] at e1 e3 ⊢
    have E2 := Lib.hid (show bits .xor .u32 ((X : Int) / 2) 3988292384 = (p.toNat : Int) by rw [e1]; exact e2)
    clear e g hq hX ht hp hr
    go_enter Try.func33, Try.ntmps33
    go_wp2_with fail
    go_ret
    exact ⟨rfl, rfl⟩
theorem rnext16_any (r : BitVec 16) (s : ByteArray) (n : Nat) (hs : s.size = n) (hn : n ≤ 70000) (w : World) :
    Calls Try.prog 15 #[.int .u16 (r.toNat : Nat), .string s] w fun e w' => e = .returned (.int .u16 ((Crc.next16 r s.data.toList).toNat : Nat)) ∧ w = w' := by
  have H := Lib.hid (fun r x hx w => bit16_any r x hx w)
  have HS := Lib.hid hs
  obtain ⟨x, hx⟩ : ∃ x, r.toNat = x := ⟨_, rfl⟩
  rw [hx]
  have HX := Lib.hid hx
  clear hx hs
  go_enter Try.func15, Try.ntmps15
  go_wp2_with fail
  obtain ⟨v, hv⟩ : ∃ v, v = r := ⟨_, rfl⟩
  rw [← HX.out, ← hv]
  have HV := Lib.hid hv
  clear HX hv
  go_loop [0, 5] (fun st i => ∃ k : Nat, k ≤ n ∧ i = .int .i64 k ∧ st = .int .u16 ((Crc.N16 v (s.data.toList.take k)).toNat : Nat)) (fun _ i => n - (intOf i).toNat)
  case atStart => exact ⟨0, Nat.zero_le _, rfl, rfl⟩
  case round =>
    obtain ⟨k, hk, rfl, rfl⟩ := hrel
    by_cases hlt : k < n
    · have l1 : k < s.size := by have := HS.out; omega
      have S := Crc.N16_take v s.data.toList k (by simpa using l1)
      rw [byte_get s k l1] at S
      obtain ⟨y, hy⟩ : ∃ y, Crc.N16 v (s.data.toList.take k) = y := ⟨_, rfl⟩
      rw [hy] at S ⊢
      obtain ⟨z, hz⟩ : ∃ z, Crc.N16 v (s.data.toList.take (k + 1)) = z := ⟨_, rfl⟩
      rw [hz, ← Crc.R16_S _ _ (UInt8.toNat_lt _)] at S
      have HZ := Lib.hid hz
      have SS := Lib.hid S
      clear S hy hz
      go_wp2_with fail
      go_loop [0, 6] (fun st i => ∃ m : Nat, m ≤ 8 ∧ i = .int .i64 (7 - (m : Int)) ∧ st = .int .u16 ((Crc.R16 y s[k].toNat m).toNat : Nat)) (fun _ i => (intOf i + 1).toNat)
      case atStart => exact ⟨0, Nat.zero_le _, rfl, rfl⟩
      case round =>
        obtain ⟨m, hm, rfl, rfl⟩ := hrel
        by_cases hlt2 : m < 8
        · obtain ⟨c, hc⟩ : ∃ c, s[k].toNat = c := ⟨_, rfl⟩
          obtain ⟨j, hj⟩ : ∃ j : Nat, 7 - m = j := ⟨_, rfl⟩
          have hb : c / 2 ^ j % 2 < 2 := Nat.mod_lt _ (by omega)
          have C := Lib.hid (H.out (Crc.R16 y c m) _ hb)
          rw [bit_int] at C
          have st : Crc.B16 (Crc.R16 y c m) (c / 2 ^ j % 2) = Crc.R16 y c (m + 1) := by rw [← hj]; rfl
          rw [st] at C
          rw [hc]
          obtain ⟨u, hu⟩ : ∃ u, Crc.R16 y c m = u := ⟨_, rfl⟩
          obtain ⟨v', hv'⟩ : ∃ u, Crc.R16 y c (m + 1) = u := ⟨_, rfl⟩
          rw [hu, hv'] at C
          rw [hu]
          have HV' := Lib.hid hv'
          have c8 : c < 256 := by rw [← hc]; exact UInt8.toNat_lt _
          clear hu hv' st H
          go_wp2_with fail
          (with_reducible refine (C.out _).mono ?_)
          rintro e w' ⟨rfl, rfl⟩
          go_wp2_with fail
          go_round
          case rel => exact ⟨m + 1, by omega, by go_num, by rw [HV'.out]⟩
          case measure => simp [intOf]; omega
        · obtain rfl : m = 8 := by omega
          rw [← SS.out, ← HZ.out]
          go_wp2_with fail
          go_round
          case rel => exact ⟨k + 1, by omega, by go_num, rfl⟩
          case measure => simp [intOf]; omega
    · obtain rfl : k = n := by omega
      have l1 : ¬ k < s.size := by have := HS.out; omega
      rw [take_all HS.out]
      go_wp2_with fail
      go_ret
      exact ⟨by rw [HV.out]; rfl, rfl⟩
theorem rsum16_any (s : ByteArray) (hs : s.size ≤ 70000) (w : World) :
    Calls Try.prog 11 #[.string s] w fun e w' => e = .returned (.int .u16 ((Crc.sum16 s.data.toList).toNat : Nat)) ∧ w = w' := by
  have N := Lib.hid (fun w => rnext16_any 0xffff#16 s s.size rfl hs w)
  rw [show ((0xffff#16).toNat : Int) = 65535 from rfl] at N
  go_enter Try.func11, Try.ntmps11
  go_wp2_with fail
  (with_reducible refine (N.out _).mono ?_)
  rintro e w1 ⟨rfl, rfl⟩
  go_wp2_with fail
  go_ret
  exact ⟨rfl, rfl⟩
theorem rnext32_any (r : BitVec 32) (s : ByteArray) (n : Nat) (hs : s.size = n) (hn : n ≤ 70000) (w : World) :
    Calls Try.prog 17 #[.int .u32 (r.toNat : Nat), .string s] w fun e w' => e = .returned (.int .u32 ((Crc.next32 r s.data.toList).toNat : Nat)) ∧ w = w' := by
  have H := Lib.hid (fun r x hx w => bit32_any r x hx w)
  have HS := Lib.hid hs
  obtain ⟨x, hx⟩ : ∃ x, r.toNat = x := ⟨_, rfl⟩
  rw [hx]
  have HX := Lib.hid hx
  clear hx hs
  go_enter Try.func17, Try.ntmps17
  go_wp2_with fail
  have nx := not32 r
  rw [HX.out] at nx
  rw [nx]
  clear nx
  obtain ⟨v, hv⟩ : ∃ v, v = ~~~ r := ⟨_, rfl⟩
  rw [← HX.out, ← hv]
  have HV := Lib.hid hv
  clear HX hv
  go_loop [0, 5] (fun st i => ∃ k : Nat, k ≤ n ∧ i = .int .i64 k ∧ st = .int .u32 ((Crc.N32 v (s.data.toList.take k)).toNat : Nat)) (fun _ i => n - (intOf i).toNat)
  case atStart => exact ⟨0, Nat.zero_le _, rfl, rfl⟩
  case round =>
    obtain ⟨k, hk, rfl, rfl⟩ := hrel
    by_cases hlt : k < n
    · have l1 : k < s.size := by have := HS.out; omega
      have S := Crc.N32_take v s.data.toList k (by simpa using l1)
      rw [byte_get s k l1] at S
      obtain ⟨y, hy⟩ : ∃ y, Crc.N32 v (s.data.toList.take k) = y := ⟨_, rfl⟩
      rw [hy] at S ⊢
      obtain ⟨z, hz⟩ : ∃ z, Crc.N32 v (s.data.toList.take (k + 1)) = z := ⟨_, rfl⟩
      rw [hz, ← Crc.R32_S _ _ (UInt8.toNat_lt _)] at S
      have HZ := Lib.hid hz
      have SS := Lib.hid S
      clear S hy hz
      go_wp2_with fail
      go_loop [0, 6] (fun st i => ∃ m : Nat, m ≤ 8 ∧ i = .int .i64 (m : Nat) ∧ st = .int .u32 ((Crc.R32 y s[k].toNat m).toNat : Nat)) (fun _ i => 8 - (intOf i).toNat)
      case atStart => exact ⟨0, Nat.zero_le _, rfl, rfl⟩
      case round =>
        obtain ⟨m, hm, rfl, rfl⟩ := hrel
        by_cases hlt2 : m < 8
        · obtain ⟨c, hc⟩ : ∃ c, s[k].toNat = c := ⟨_, rfl⟩
          obtain ⟨j, hj⟩ : ∃ j : Nat, m = j := ⟨_, rfl⟩
          have hb : c / 2 ^ j % 2 < 2 := Nat.mod_lt _ (by omega)
          have C := Lib.hid (H.out (Crc.R32 y c m) _ hb)
          rw [bit_int] at C
          have st : Crc.B32 (Crc.R32 y c m) (c / 2 ^ j % 2) = Crc.R32 y c (m + 1) := by rw [← hj]; rfl
          rw [st] at C
          rw [hc]
          obtain ⟨u, hu⟩ : ∃ u, Crc.R32 y c m = u := ⟨_, rfl⟩
          obtain ⟨v', hv'⟩ : ∃ u, Crc.R32 y c (m + 1) = u := ⟨_, rfl⟩
          rw [hu, hv'] at C
          rw [hu]
          have HV' := Lib.hid hv'
          have c8 : c < 256 := by rw [← hc]; exact UInt8.toNat_lt _
          clear hu hv' st H
          go_wp2_with fail
          (with_reducible refine (C.out _).mono ?_)
          rintro e w' ⟨rfl, rfl⟩
          go_wp2_with fail
          go_round
          case rel => exact ⟨m + 1, by omega, by go_num, by rw [HV'.out]⟩
          case measure => simp [intOf]; omega
        · obtain rfl : m = 8 := by omega
          rw [← SS.out, ← HZ.out]
          go_wp2_with fail
          go_round
          case rel => exact ⟨k + 1, by omega, by go_num, rfl⟩
          case measure => simp [intOf]; omega
    · obtain rfl : k = n := by omega
      have l1 : ¬ k < s.size := by have := HS.out; omega
      rw [take_all HS.out]
      go_wp2_with fail
      go_ret
      exact ⟨by exact congrArg Ending.returned (congrArg (Value.int IntKind.u32) ((not32 _).trans (by rw [HV.out]; rfl))), rfl⟩
theorem rsum32_any (s : ByteArray) (hs : s.size ≤ 70000) (w : World) :
    Calls Try.prog 13 #[.string s] w fun e w' => e = .returned (.int .u32 ((Crc.sum32 s.data.toList).toNat : Nat)) ∧ w = w' := by
  have N := Lib.hid (fun w => rnext32_any 0#32 s s.size rfl hs w)
  rw [show ((0#32).toNat : Int) = 0 from rfl] at N
  go_enter Try.func13, Try.ntmps13
  go_wp2_with fail
  (with_reducible refine (N.out _).mono ?_)
  rintro e w1 ⟨rfl, rfl⟩
  go_wp2_with fail
  go_ret
  exact ⟨rfl, rfl⟩
end Go.Proofs.Ytkgnhdggfeiheaa
