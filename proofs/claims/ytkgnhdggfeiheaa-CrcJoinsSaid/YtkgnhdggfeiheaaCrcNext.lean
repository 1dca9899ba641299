/- The contracts of crc's Next16, Next32, Sum16, Sum32 over this program. -/
import Derived.Test.YtkgnhdggfeiheaaCrcStep
namespace Go.Proofs.Ytkgnhdggfeiheaa
open Go.RowKit
set_option linter.unusedVariables false

theorem byte_get (s : ByteArray) (i : Nat) (h : i < s.size) : s.data.toList[i]'(by simpa using h) = s[i] := by
  simp only [Array.getElem_toList]; rfl
theorem not32 (x : BitVec 32) : bits .xor .u32 IntKind.u32.max (x.toNat : Int) = ((~~~ x).toNat : Int) := by
  have h := xor32 (BitVec.allOnes 32) x
  rw [BitVec.allOnes_xor] at h
  exact h
theorem take_all {s : ByteArray} {n : Nat} (hs : s.size = n) : s.data.toList.take n = s.data.toList := List.take_of_length_le (by simp; omega)
structure Step16 (r : BitVec 16) (c X Y h m t z : Nat) : Prop where
  e1 : IntKind.u16.wrap ((X : Int) * 256) = (Y : Int)
  e2 : (X : Int) / 256 = (h : Int)
  hh : h < 256
  e3 : bits .xor .u8 (h : Int) (c : Int) = (m : Int)
  hm : m < 256
  e4 : (Crc.T16 m).toNat = t
  e5 : bits .xor .u16 (Y : Int) (t : Int) = (z : Int)
theorem step16 (r : BitVec 16) (c X : Nat) (hc : c < 256) (hX : r.toNat = X) : ∃ Y h m t, Step16 r c X Y h m t (Crc.S16 r c).toNat := by
  subst hX
  have hr : r.toNat < 65536 := r.isLt
  have h1 : r.toNat / 256 < 256 := by omega
  refine ⟨(r <<< 8).toNat, r.toNat / 256, (r.toNat / 256) ^^^ c, _, ⟨shl16 r 8, by simp, h1, u8_xor_nat _ _ h1 hc, Nat.xor_lt_two_pow (n := 8) h1 hc, rfl, ?_⟩⟩
  rw [Crc.table16 r c hc]
  exact xor16 _ _
structure Step32 (r : BitVec 32) (c X Y h m t z : Nat) : Prop where
  e1 : (X : Int) / 256 = (Y : Int)
  e2 : (X : Int) % 256 = (h : Int)
  hh : h < 256
  e3 : bits .xor .u8 (h : Int) (c : Int) = (m : Int)
  hm : m < 256
  e4 : (Crc.T32 m).toNat = t
  e5 : bits .xor .u32 (Y : Int) (t : Int) = (z : Int)
theorem step32 (r : BitVec 32) (c X : Nat) (hc : c < 256) (hX : r.toNat = X) : ∃ Y h m t, Step32 r c X Y h m t (Crc.S32 r c).toNat := by
  subst hX
  have h1 : r.toNat % 256 < 256 := by omega
  refine ⟨(r >>> 8).toNat, r.toNat % 256, (r.toNat % 256) ^^^ c, _, ⟨shr32 r 8, by simp, h1, u8_xor_nat _ _ h1 hc, Nat.xor_lt_two_pow (n := 8) h1 hc, rfl, ?_⟩⟩
  rw [Crc.table32 r c hc]
  exact xor32 _ _
theorem next16_any (r : BitVec 16) (s : ByteArray) (n : Nat) (hs : s.size = n) (hn : n ≤ 70000) (w : World) :
    Calls Try.prog 14 #[.int .u16 (r.toNat : Nat), .string s] w fun e w' => e = .returned (.int .u16 ((Crc.next16 r s.data.toList).toNat : Nat)) ∧ Below w.heap.size w w' := by
  have Z := Lib.hid (fun w => zero16x256 w)
  have BS := Lib.hid (fun w => byteSums16_any w)
  have HS := Lib.hid hs
  obtain ⟨x, hx⟩ : ∃ x, r.toNat = x := ⟨_, rfl⟩
  rw [hx]
  have HX := Lib.hid hx
  clear hx hs
  go_enter Try.func14, Try.ntmps14
  go_wp2_with fail
  (with_reducible refine (BS.out _).mono ?_)
  rintro e w1 ⟨rfl, hB⟩
  have HB := Lib.hid hB
  clear hB
  go_wp2_with (first
    | (simp only [Z.out])
    | (refine wpList_store_row rfl 47 (.tmp 5) (.tmp 7) rfl w1.heap.size (arrK .u16 256 (fun x => (Crc.T16 x).toNat)) rfl rfl _ _ (RowK.new w1 .u16 256 47 (fun _ => 0)) (i16x256 _) (by rw [arrK_size, arrK_size]) (arrK_one _ _ _) ?_))
  have R := Lib.hid (show Sums16 ((w1.alloc (.cells (arrK .u16 256 (fun _ => 0)) 47)).setRow w1.heap.size (arrK .u16 256 (fun x => (Crc.T16 x).toNat))) w1.heap.size (fun x => (Crc.T16 x).toNat) from setRow_heap _ _ _ _ _ _ (RowK.new w1 .u16 256 47 (fun _ => 0)))
  have HB2 := Lib.hid (show Below w.heap.size w ((w1.alloc (.cells (arrK .u16 256 (fun _ => 0)) 47)).setRow w1.heap.size (arrK .u16 256 (fun x => (Crc.T16 x).toNat))) from below_setRow (ba HB.out _) HB.out.size _)
  obtain ⟨v, hv⟩ : ∃ v, v = r := ⟨_, rfl⟩
  obtain ⟨w2, hw2⟩ : ∃ w2, ((w1.alloc (.cells (arrK .u16 256 (fun _ => 0)) 47)).setRow w1.heap.size (arrK .u16 256 (fun x => (Crc.T16 x).toNat))) = w2 := ⟨_, rfl⟩
  rw [hw2] at R HB2 ⊢
  rw [← HX.out, ← hv]
  have HV := Lib.hid hv
  clear hw2 HB Z BS HX hv
  go_loop [0, 10] (fun st i => ∃ k : Nat, k ≤ n ∧ i = .int .i64 k ∧ st = .int .u16 ((Crc.N16 v (s.data.toList.take k)).toNat : Nat)) (fun _ i => n - (intOf i).toNat)
  case atStart => exact ⟨0, Nat.zero_le _, rfl, rfl⟩
  case round =>
    obtain ⟨k, hk, rfl, rfl⟩ := hrel
    by_cases hlt : k < n
    · have l1 : k < s.size := by have := HS.out; omega
      have S := Crc.N16_take v s.data.toList k (by simpa using l1)
      rw [byte_get s k l1] at S
      obtain ⟨y, hy⟩ : ∃ y, Crc.N16 v (s.data.toList.take k) = y := ⟨_, rfl⟩
      rw [hy] at S ⊢
      obtain ⟨X, hX⟩ : ∃ y', y.toNat = y' := ⟨_, rfl⟩
      obtain ⟨Y, h, m, t, E⟩ := step16 y s[k].toNat X (UInt8.toNat_lt _) hX
      rw [hX]
      rw [← S] at E
      obtain ⟨z, hz⟩ : ∃ z, (Crc.N16 v (s.data.toList.take (k + 1))).toNat = z := ⟨_, rfl⟩
      rw [hz] at E
      have HZ := Lib.hid hz
      obtain ⟨e1, e2, hh, e3, hm, e4, e5⟩ := E
      have cm := R.out.cell (i := m) hm
      rw [e4] at cm
      clear S hy hX hz e4
      go_wp2_with fail
      go_round
      case rel => exact ⟨k + 1, by omega, by go_num, by rw [HZ.out]⟩
      case measure => simp [intOf]; omega
    · obtain rfl : k = n := by omega
      have l1 : ¬ k < s.size := by have := HS.out; omega
      rw [take_all HS.out]
      go_wp2_with fail
      go_ret
      exact ⟨by rw [HV.out]; rfl, HB2.out⟩
theorem sum16_any (s : ByteArray) (hs : s.size ≤ 70000) (w : World) :
    Calls Try.prog 10 #[.string s] w fun e w' => e = .returned (.int .u16 ((Crc.sum16 s.data.toList).toNat : Nat)) ∧ Below w.heap.size w w' := by
  have N := Lib.hid (fun w => next16_any 0xffff#16 s s.size rfl hs w)
  rw [show ((0xffff#16).toNat : Int) = 65535 from rfl] at N
  go_enter Try.func10, Try.ntmps10
  go_wp2_with fail
  (with_reducible refine (N.out _).mono ?_)
  rintro e w1 ⟨rfl, hB⟩
  have HB := Lib.hid hB
  clear hB
  go_wp2_with fail
  go_ret
  exact ⟨rfl, HB.out⟩
theorem next32_any (r : BitVec 32) (s : ByteArray) (n : Nat) (hs : s.size = n) (hn : n ≤ 70000) (w : World) :
    Calls Try.prog 16 #[.int .u32 (r.toNat : Nat), .string s] w fun e w' => e = .returned (.int .u32 ((Crc.next32 r s.data.toList).toNat : Nat)) ∧ Below w.heap.size w w' := by
  have Z := Lib.hid (fun w => zero32x256 w)
  have BS := Lib.hid (fun w => byteSums32_any w)
  have HS := Lib.hid hs
  obtain ⟨x, hx⟩ : ∃ x, r.toNat = x := ⟨_, rfl⟩
  rw [hx]
  have HX := Lib.hid hx
  clear hx hs
  go_enter Try.func16, Try.ntmps16
  go_wp2_with fail
  (with_reducible refine (BS.out _).mono ?_)
  rintro e w1 ⟨rfl, hB⟩
  have HB := Lib.hid hB
  clear hB
  go_wp2_with (first
    | (simp only [Z.out])
    | (refine wpList_store_row rfl 51 (.tmp 5) (.tmp 7) rfl w1.heap.size (arrK .u32 256 (fun x => (Crc.T32 x).toNat)) rfl rfl _ _ (RowK.new w1 .u32 256 51 (fun _ => 0)) (i32x256 _) (by rw [arrK_size, arrK_size]) (arrK_one _ _ _) ?_))
  have nx := not32 r
  rw [HX.out] at nx
  rw [nx]
  clear nx
  have R := Lib.hid (show Sums32 ((w1.alloc (.cells (arrK .u32 256 (fun _ => 0)) 51)).setRow w1.heap.size (arrK .u32 256 (fun x => (Crc.T32 x).toNat))) w1.heap.size (fun x => (Crc.T32 x).toNat) from setRow_heap _ _ _ _ _ _ (RowK.new w1 .u32 256 51 (fun _ => 0)))
  have HB2 := Lib.hid (show Below w.heap.size w ((w1.alloc (.cells (arrK .u32 256 (fun _ => 0)) 51)).setRow w1.heap.size (arrK .u32 256 (fun x => (Crc.T32 x).toNat))) from below_setRow (ba HB.out _) HB.out.size _)
  obtain ⟨v, hv⟩ : ∃ v, v = ~~~ r := ⟨_, rfl⟩
  obtain ⟨w2, hw2⟩ : ∃ w2, ((w1.alloc (.cells (arrK .u32 256 (fun _ => 0)) 51)).setRow w1.heap.size (arrK .u32 256 (fun x => (Crc.T32 x).toNat))) = w2 := ⟨_, rfl⟩
  rw [hw2] at R HB2 ⊢
  rw [← HX.out, ← hv]
  have HV := Lib.hid hv
  clear hw2 HB Z BS HX hv
  go_loop [0, 12] (fun st i => ∃ k : Nat, k ≤ n ∧ i = .int .i64 k ∧ st = .int .u32 ((Crc.N32 v (s.data.toList.take k)).toNat : Nat)) (fun _ i => n - (intOf i).toNat)
  case atStart => exact ⟨0, Nat.zero_le _, rfl, rfl⟩
  case round =>
    obtain ⟨k, hk, rfl, rfl⟩ := hrel
    by_cases hlt : k < n
    · have l1 : k < s.size := by have := HS.out; omega
      have S := Crc.N32_take v s.data.toList k (by simpa using l1)
      rw [byte_get s k l1] at S
      obtain ⟨y, hy⟩ : ∃ y, Crc.N32 v (s.data.toList.take k) = y := ⟨_, rfl⟩
      rw [hy] at S ⊢
      obtain ⟨X, hX⟩ : ∃ y', y.toNat = y' := ⟨_, rfl⟩
      obtain ⟨Y, h, m, t, E⟩ := step32 y s[k].toNat X (UInt8.toNat_lt _) hX
      rw [hX]
      rw [← S] at E
      obtain ⟨z, hz⟩ : ∃ z, (Crc.N32 v (s.data.toList.take (k + 1))).toNat = z := ⟨_, rfl⟩
      rw [hz] at E
      have HZ := Lib.hid hz
      obtain ⟨e1, e2, hh, e3, hm, e4, e5⟩ := E
      have cm := R.out.cell (i := m) hm
      rw [e4] at cm
      clear S hy hX hz e4
      go_wp2_with fail
      go_round
      case rel => exact ⟨k + 1, by omega, by go_num, by rw [HZ.out]⟩
      case measure => simp [intOf]; omega
    · obtain rfl : k = n := by omega
      have l1 : ¬ k < s.size := by have := HS.out; omega
      rw [take_all HS.out]
      go_wp2_with fail
      go_ret
      exact ⟨by exact congrArg Ending.returned (congrArg (Value.int IntKind.u32) ((not32 _).trans (by rw [HV.out]; rfl))), HB2.out⟩
theorem sum32_any (s : ByteArray) (hs : s.size ≤ 70000) (w : World) :
    Calls Try.prog 12 #[.string s] w fun e w' => e = .returned (.int .u32 ((Crc.sum32 s.data.toList).toNat : Nat)) ∧ Below w.heap.size w w' := by
  have N := Lib.hid (fun w => next32_any 0#32 s s.size rfl hs w)
  rw [show ((0#32).toNat : Int) = 0 from rfl] at N
  go_enter Try.func12, Try.ntmps12
  go_wp2_with fail
  (with_reducible refine (N.out _).mono ?_)
  rintro e w1 ⟨rfl, hB⟩
  have HB := Lib.hid hB
  clear hB
  go_wp2_with fail
  go_ret
  exact ⟨rfl, HB.out⟩
end Go.Proofs.Ytkgnhdggfeiheaa
