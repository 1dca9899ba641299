/- CrcBits -/
import Derived.Test.YtgcjfiablcjfgaaCrcRow
/- The contracts of crc's shift16, shift32, afterZero, byteSums over this program. -/
namespace Go.Proofs.Ytgcjfiablcjfgaa
open Go.RowKit
set_option linter.unusedVariables false
set_option maxRecDepth 100000

theorem shift16_any (r : BitVec 16) (w : World) :
    Calls Try.prog 99 #[.int .u16 (r.toNat : Nat)] w fun e w' => e = .returned (.int .u16 ((Crc.L16 r).toNat : Nat)) ∧ w = w' := by
  have hr : r.toNat < 65536 := r.isLt
  have e1 := one_more r
  have e2 := xor16 (r <<< 1) 0x1021#16
  rw [show ((0x1021#16).toNat : Int) = 4129 from rfl] at e2
  by_cases g : r.toNat / 32768 = 1
  · have e : Crc.L16 r = (r <<< 1) ^^^ 0x1021#16 := by unfold Crc.L16; rw [Crc.bit16_15, decide_eq_true g]; rfl
    have h1 : ((r.toNat : Int) / 32768 != 0) = true := by simp; omega
    rw [e]
    obtain ⟨p, hp⟩ : ∃ p, (r <<< 1) ^^^ 0x1021#16 = p := ⟨_, rfl⟩
    rw [hp] at e2 ⊢
    obtain ⟨q, hq⟩ : ∃ p, r <<< 1 = p := ⟨_, rfl⟩
    rw [hq] at e1 e2
    clear e g hp hq
    go_enter Try.func99, Try.ntmps99
    go_wp2_with fail
    go_ret
    exact ⟨rfl, rfl⟩
  · have e : Crc.L16 r = r <<< 1 := by unfold Crc.L16; rw [Crc.bit16_15, decide_eq_false g]; rfl
    have h1 : ((r.toNat : Int) / 32768 != 0) = false := by simp; omega
    rw [e]
    obtain ⟨q, hq⟩ : ∃ p, r <<< 1 = p := ⟨_, rfl⟩
    rw [hq] at e1 ⊢
    clear e g e2 hq
    go_enter Try.func99, Try.ntmps99
    go_wp2_with fail
    go_ret
    exact ⟨rfl, rfl⟩

theorem afterZero16_any (r : BitVec 16) (w : World) :
    Calls Try.prog 106 #[.func (.func 99) #[] #[], .int .u16 (r.toNat : Nat)] w fun e w' => e = .returned (.int .u16 ((Crc.Z16 r).toNat : Nat)) ∧ w = w' := by
  have H := Lib.hid (fun r w => shift16_any r w)
  go_enter Try.func106, Try.ntmps106
  go_wp2_with fail
  go_loop [1, 5] (fun x i => ∃ k : Nat, k ≤ 8 ∧ i = .int .i64 k ∧ x = .int .u16 ((Crc.it Crc.L16 k r).toNat : Nat)) (fun _ i => 8 - (intOf i).toNat)
  case atStart => exact ⟨0, Nat.zero_le _, rfl, rfl⟩
  case round =>
    obtain ⟨k, hk, rfl, rfl⟩ := hrel
    by_cases hlt : k < 8
    · have e : Crc.L16 (Crc.it Crc.L16 k r) = Crc.it Crc.L16 (k + 1) r := rfl
      have C := Lib.hid (H.out (Crc.it Crc.L16 k r))
      rw [e] at C
      obtain ⟨x, hx⟩ : ∃ x, Crc.it Crc.L16 k r = x := ⟨_, rfl⟩
      obtain ⟨y, hy⟩ : ∃ x, Crc.it Crc.L16 (k + 1) r = x := ⟨_, rfl⟩
      rw [hx, hy] at C
      rw [hx]
      have HY := Lib.hid hy
      clear hx hy e H
      go_wp2_with fail
      (with_reducible refine (C.out _).mono ?_)
      rintro e w' ⟨rfl, rfl⟩
      go_wp2_with fail
      go_round
      case rel => exact ⟨k + 1, by omega, by go_num, by rw [HY.out]⟩
      case measure => simp [intOf]; omega
    · obtain rfl : k = 8 := by omega
      go_wp2_with fail
      go_ret
      exact ⟨rfl, rfl⟩
theorem zero16x256 (w : World) : Sem.run Try.prog (zeroValue 133) w = .ok (.agg (arrK .u16 256 (fun _ => 0))) w := by rw [arrK_zero]; kernel_rfl
theorem u16x256 : Try.prog.underlying 133 = some (.array 256 56) := by kernel_rfl
theorem i16x256 (f : Nat → Nat) : (Try.prog.info? 133).map (·.size) = some (arrK .u16 256 f).size := by rw [arrK_size]; kernel_rfl
theorem afterByte16 (p : Nat) (hp : p < 256) (w : World) :
    Calls Try.prog 106 #[.func (.func 99) #[] #[], .int .u16 ((p : Int) * 256)] w fun e w' => e = .returned (.int .u16 ((Crc.T16 p).toNat : Nat)) ∧ w = w' := by
  have h := afterZero16_any (BitVec.ofNat 16 p <<< 8) w
  rw [show ((BitVec.ofNat 16 p <<< 8).toNat : Int) = (p : Int) * 256 by rw [BitVec.toNat_shiftLeft, Nat.shiftLeft_eq, BitVec.toNat_ofNat]; omega] at h
  exact h
abbrev Sums16 := RowK .u16 256 133
theorem byteSums16_any (w : World) :
    Calls Try.prog 98 #[.func (.func 99) #[] #[], .int .i64 8] w fun e w' => e = .returned (.agg (arrK .u16 256 (fun x => (Crc.T16 x).toNat))) ∧ Below w.heap.size w w' := by
  have Z := Lib.hid (fun w => zero16x256 w)
  have AZ := Lib.hid (fun r w => afterZero16_any r w)
  go_enter Try.func98, Try.ntmps98
  go_wp2_with (simp only [Z.out])
  go_loopw [6] (fun b wr => ∃ k : Nat, k ≤ 8 ∧ b = .int .i64 (2 ^ k : Nat) ∧ Below w.heap.size w wr ∧ Sums16 wr w.heap.size (fun _ => 0) ∧ Sums16 wr (w.heap.size + 1) (fun x => if x < 2 ^ k then (Crc.T16 x).toNat else 0)) (fun b _ => 256 - (intOf b).toNat)
  case atStart =>
    refine ⟨0, by omega, rfl, ba (ba (Below.refl w.heap.size w) _) _, (RowK.new w .u16 256 133 (fun _ => 0)).alloc _, ?_⟩
    have := RowK.new (w.alloc (.cells (arrK .u16 256 (fun _ => 0)) 133)) .u16 256 133 (fun _ => 0)
    rw [World.size_alloc] at this
    refine this.congr (fun i _ => ?_)
    by_cases h : i < 1
    · obtain rfl : i = 0 := by omega
      rw [Crc.T16_zero]; rfl
    · rw [if_neg (by simpa using h)]
  case round =>
    obtain ⟨k, hk, rfl, hB, R0, R1⟩ := hrel
    by_cases hlt : k < 8
    · obtain ⟨p, hp⟩ : ∃ p, 2 ^ k = p := ⟨_, rfl⟩
      have hp2 : p ≤ 128 := by have := Nat.pow_le_pow_right (n := 2) (by omega) (show k ≤ 7 by omega); omega
      rw [hp] at R1 ⊢
      have HB := Lib.hid hB
      have HR0 := Lib.hid R0
      have HR1 := Lib.hid R1
      have HP := Lib.hid hp
      have HK := Lib.hid hlt
      have b1 : decide ((p : Int) < 256) = true := by simp; omega
      have C := Lib.hid (afterByte16 p (by omega))
      obtain ⟨tp, htp⟩ : ∃ x, Crc.T16 p = x := ⟨_, rfl⟩
      rw [htp] at C
      have HTP := Lib.hid htp
      clear hB R0 R1 hp hk Z AZ hlt htp
      go_wp2_with fail
      (with_reducible refine (C.out _).mono ?_)
      rintro e w' ⟨rfl, rfl⟩
      go_wp2_with fail
      go_loopw [20] (fun i w2 => ∃ j : Nat, j ≤ p ∧ i = .int .i64 j ∧ Below w.heap.size w w2 ∧ Sums16 w2 w.heap.size (fun _ => 0) ∧ Sums16 w2 (w.heap.size + 1) (fun x => if x < p + j then (Crc.T16 x).toNat else 0)) (fun i _ => p - (intOf i).toNat)
      case atStart => exact ⟨0, by omega, rfl, HB.out, HR0.out, HR1.out⟩
      case round =>
        obtain ⟨j, hj, rfl, hB, R0, R1⟩ := hrel
        by_cases hlt : j < p
        · have cj := R1.cell (i := j) (by omega)
          have fz := R1.frozen (p + j)
          have cp := R1.cell (i := p + j) (by omega)
          rw [if_pos (by omega)] at cj
          have ex := xor16 tp (Crc.T16 j)
          rw [← HTP.out] at ex
          have S := Crc.T16_xor k j (by have := HP.out; omega)
          rw [HP.out] at S
          rw [← S] at ex
          rw [HTP.out] at ex
          obtain ⟨tj, htj⟩ : ∃ x, Crc.T16 j = x := ⟨_, rfl⟩
          obtain ⟨ts, hts⟩ : ∃ x, Crc.T16 (p + j) = x := ⟨_, rfl⟩
          rw [htj] at ex cj
          rw [hts] at ex
          have HB2 := Lib.hid hB
          have Q0 := Lib.hid R0
          have Q1 := Lib.hid R1
          have HTS := Lib.hid hts
          have s1 : IntKind.i64.wrap ((p : Int) + (j : Int)) = ((p + j : Nat) : Int) := by rw [IntKind.wrap_i64]; omega
          obtain ⟨q, hq⟩ : ∃ q, p + j = q := ⟨_, rfl⟩
          rw [hq] at s1 fz cp
          have HQ := Lib.hid hq
          have q1 : (q : Int) < 256 := by omega
          have q2 : (j : Int) < 256 := by omega
          clear hB R0 R1 S hts htj hq
          go_wp2_with fail
          go_roundw
          case rel =>
            refine ⟨j + 1, by omega, by go_num, HB2.out.setCell (p := ⟨w.heap.size + 1, q, none⟩) (show w.heap.size ≤ w.heap.size + 1 by omega) _, Q0.out.setOther (by omega) _, (Q1.out.set q ts.toNat).congr (fun x hx => ?_)⟩
            have hq := HQ.out
            by_cases e : x = q
            · subst e
              rw [if_pos rfl, if_pos (by omega), ← HTS.out, hq]
            · rw [if_neg e]
              by_cases g : x < p + j
              · rw [if_pos g, if_pos (by omega)]
              · rw [if_neg g, if_neg (by omega)]
          case measure => simp [intOf]; omega
        · obtain rfl : j = p := by omega
          have e : 2 ^ (k + 1) = j + j := by rw [Nat.pow_succ, HP.out]; omega
          have HB2 := Lib.hid hB
          have Q0 := Lib.hid R0
          rw [← e] at R1
          have Q1 := Lib.hid R1
          have HE := Lib.hid e
          have s1 : IntKind.i64.wrap ((j : Int) * 2) = ((j + j : Nat) : Int) := by rw [IntKind.wrap_i64]; omega
          obtain ⟨q, hq⟩ : ∃ q, j + j = q := ⟨_, rfl⟩
          rw [hq] at s1 HE
          have hq2 : q ≤ 256 := by omega
          have hq3 : j < q := by have := HP.out; have := Nat.pow_pos (n := k) (show 0 < 2 by omega); omega
          have HQ := Lib.hid hq
          clear hB R0 R1 e hq
          go_wp2_with fail
          go_roundw
          case rel =>
            refine ⟨k + 1, by have := HK.out; omega, ?_, HB2.out, Q0.out, Q1.out⟩
            rw [HE.out]
          case measure => simp [intOf]; try omega
    · obtain rfl : k = 8 := by omega
      have HB := Lib.hid hB
      have HR0 := Lib.hid R0
      have HR1 := Lib.hid (show Sums16 wr (w.heap.size + 1) (fun x => (Crc.T16 x).toNat) from R1.congr (fun x hx => by rw [if_pos (by omega)]))
      clear hB R0 R1 Z AZ
      rw [show ((2 ^ 8 : Nat) : Int) = 256 from rfl]
      go_upto_region 11 with fail
      refine wp_region_lit ?_
      refine wpList_load_row rfl 133 (.tmp 5) rfl (w.heap.size + 1) rfl _ _ _ _ HR1.out u16x256 rfl (i16x256 _) ?_
      simp only [Act.put, List.setIfInBounds_toArray, List.set_cons_succ, List.set_cons_zero]
      refine wpList_store_row rfl 133 (.tmp 4) (.tmp 33) rfl w.heap.size (arrK .u16 256 (fun x => (Crc.T16 x).toNat)) rfl rfl _ _ HR0.out (i16x256 _) (by rw [arrK_size, arrK_size]) (arrK_one _ _ _) ?_
      refine wpList_nil ?_
      simp only [Exit.then]
      rename (∀ (a : Act) (w : World), Code.wp _ Code.ret _ a w → _) => hK
      apply hK
      apply wp_ret
      exact bodyPost_ret (v := .agg (arrK .u16 256 (fun x => (Crc.T16 x).toNat))) (results_cell_row Try.results98 _ _ w.heap.size 133 (arrK .u16 256 (fun x => (Crc.T16 x).toNat)) (0, 0) _ rfl (setRow_heap _ _ _ _ _ _ HR0.out) u16x256 rfl (i16x256 _)) rfl ⟨rfl, below_setRow HB.out (by omega) _⟩
end Go.Proofs.Ytgcjfiablcjfgaa
/- The contracts of crc's Next16, Next32, Sum16, Sum32 over this program. -/
namespace Go.Proofs.Ytgcjfiablcjfgaa
open Go.RowKit
set_option linter.unusedVariables false
set_option maxRecDepth 100000

theorem byte_get (s : ByteArray) (i : Nat) (h : i < s.size) : s.data.toList[i]'(by simpa using h) = s[i] := by
  simp only [Array.getElem_toList]; rfl
theorem not32 (x : BitVec 32) : bits .xor .u32 IntKind.u32.max (x.toNat : Int) = ((~~~ x).toNat : Int) := by
  have h := xor32 (BitVec.allOnes 32) x
  rw [BitVec.allOnes_xor] at h
  exact h
theorem take_all {s : ByteArray} {n : Nat} (hs : s.size = n) : s.data.toList.take n = s.data.toList := List.take_of_length_le (by simp; omega)
structure Step16 (r : BitVec 16) (c X Y h m t z : Nat) : Prop where
  e1 : IntKind.u16.wrap ((X : Int) * 256) = (Y : Int)
  e2 : (X : Int) / 256 = (h : Int)
  hh : h < 256
  e3 : bits .xor .u8 (h : Int) (c : Int) = (m : Int)
  hm : m < 256
  e4 : (Crc.T16 m).toNat = t
  e5 : bits .xor .u16 (Y : Int) (t : Int) = (z : Int)
theorem step16 (r : BitVec 16) (c X : Nat) (hc : c < 256) (hX : r.toNat = X) : ∃ Y h m t, Step16 r c X Y h m t (Crc.S16 r c).toNat := by
  subst hX
  have hr : r.toNat < 65536 := r.isLt
  have h1 : r.toNat / 256 < 256 := by omega
  refine ⟨(r <<< 8).toNat, r.toNat / 256, (r.toNat / 256) ^^^ c, _, ⟨shl16 r 8, by simp, h1, u8_xor_nat _ _ h1 hc, Nat.xor_lt_two_pow (n := 8) h1 hc, rfl, ?_⟩⟩
  rw [Crc.table16 r c hc]
  exact xor16 _ _
structure Step32 (r : BitVec 32) (c X Y h m t z : Nat) : Prop where
  e1 : (X : Int) / 256 = (Y : Int)
  e2 : (X : Int) % 256 = (h : Int)
  hh : h < 256
  e3 : bits .xor .u8 (h : Int) (c : Int) = (m : Int)
  hm : m < 256
  e4 : (Crc.T32 m).toNat = t
  e5 : bits .xor .u32 (Y : Int) (t : Int) = (z : Int)
theorem step32 (r : BitVec 32) (c X : Nat) (hc : c < 256) (hX : r.toNat = X) : ∃ Y h m t, Step32 r c X Y h m t (Crc.S32 r c).toNat := by
  subst hX
  have h1 : r.toNat % 256 < 256 := by omega
  refine ⟨(r >>> 8).toNat, r.toNat % 256, (r.toNat % 256) ^^^ c, _, ⟨shr32 r 8, by simp, h1, u8_xor_nat _ _ h1 hc, Nat.xor_lt_two_pow (n := 8) h1 hc, rfl, ?_⟩⟩
  rw [Crc.table32 r c hc]
  exact xor32 _ _
theorem next16_any (r : BitVec 16) (s : ByteArray) (n : Nat) (hs : s.size = n) (hn : n ≤ 70000) (w : World) :
    Calls Try.prog 76 #[.int .u16 (r.toNat : Nat), .string s] w fun e w' => e = .returned (.int .u16 ((Crc.next16 r s.data.toList).toNat : Nat)) ∧ Below w.heap.size w w' := by
  have Z := Lib.hid (fun w => zero16x256 w)
  have BS := Lib.hid (fun w => byteSums16_any w)
  have HS := Lib.hid hs
  obtain ⟨x, hx⟩ : ∃ x, r.toNat = x := ⟨_, rfl⟩
  rw [hx]
  have HX := Lib.hid hx
  clear hx hs
  go_enter Try.func76, Try.ntmps76
  go_wp2_with fail
  (with_reducible refine (BS.out _).mono ?_)
  rintro e w1 ⟨rfl, hB⟩
  have HB := Lib.hid hB
  clear hB
  go_wp2_with (first
    | (rw [Z.out])
    | (refine wpList_store_row rfl 133 (.tmp 5) (.tmp 7) rfl w1.heap.size (arrK .u16 256 (fun x => (Crc.T16 x).toNat)) rfl rfl _ _ (RowK.new w1 .u16 256 133 (fun _ => 0)) (i16x256 _) (by rw [arrK_size, arrK_size]) (arrK_one _ _ _) ?_))
  try rw [show Try.zeroCells133 = arrK .u16 256 (fun _ => 0) from by kernel_rfl]
  have R := Lib.hid (show Sums16 ((w1.alloc (.cells (arrK .u16 256 (fun _ => 0)) 133)).setRow w1.heap.size (arrK .u16 256 (fun x => (Crc.T16 x).toNat))) w1.heap.size (fun x => (Crc.T16 x).toNat) from setRow_heap _ _ _ _ _ _ (RowK.new w1 .u16 256 133 (fun _ => 0)))
  have HB2 := Lib.hid (show Below w.heap.size w ((w1.alloc (.cells (arrK .u16 256 (fun _ => 0)) 133)).setRow w1.heap.size (arrK .u16 256 (fun x => (Crc.T16 x).toNat))) from below_setRow (ba HB.out _) HB.out.size _)
  obtain ⟨v, hv⟩ : ∃ v, v = r := ⟨_, rfl⟩
  obtain ⟨w2, hw2⟩ : ∃ w2, ((w1.alloc (.cells (arrK .u16 256 (fun _ => 0)) 133)).setRow w1.heap.size (arrK .u16 256 (fun x => (Crc.T16 x).toNat))) = w2 := ⟨_, rfl⟩
  rw [hw2] at R HB2 ⊢
  rw [← HX.out, ← hv]
  have HV := Lib.hid hv
  clear hw2 HB Z BS HX hv
  go_loop [0, 10] (fun st i => ∃ k : Nat, k ≤ n ∧ i = .int .i64 k ∧ st = .int .u16 ((Crc.N16 v (s.data.toList.take k)).toNat : Nat)) (fun _ i => n - (intOf i).toNat)
  case atStart => exact ⟨0, Nat.zero_le _, rfl, rfl⟩
  case round =>
    obtain ⟨k, hk, rfl, rfl⟩ := hrel
    by_cases hlt : k < n
    · have l1 : k < s.size := by have := HS.out; omega
      have S := Crc.N16_take v s.data.toList k (by simpa using l1)
      rw [byte_get s k l1] at S
      obtain ⟨y, hy⟩ : ∃ y, Crc.N16 v (s.data.toList.take k) = y := ⟨_, rfl⟩
      rw [hy] at S ⊢
      obtain ⟨X, hX⟩ : ∃ y', y.toNat = y' := ⟨_, rfl⟩
      obtain ⟨Y, h, m, t, E⟩ := step16 y s[k].toNat X (UInt8.toNat_lt _) hX
      rw [hX]
      rw [← S] at E
      obtain ⟨z, hz⟩ : ∃ z, (Crc.N16 v (s.data.toList.take (k + 1))).toNat = z := ⟨_, rfl⟩
      rw [hz] at E
      have HZ := Lib.hid hz
      obtain ⟨e1, e2, hh, e3, hm, e4, e5⟩ := E
      have cm := R.out.cell (i := m) hm
      rw [e4] at cm
      clear S hy hX hz e4
      go_wp2_with fail
      go_round
      case rel => exact ⟨k + 1, by omega, by go_num, by rw [HZ.out]⟩
      case measure => simp [intOf]; omega
    · obtain rfl : k = n := by omega
      have l1 : ¬ k < s.size := by have := HS.out; omega
      rw [take_all HS.out]
      go_wp2_with fail
      go_ret
      exact ⟨by rw [HV.out]; rfl, HB2.out⟩
theorem sum16_any (s : ByteArray) (hs : s.size ≤ 70000) (w : World) :
    Calls Try.prog 54 #[.string s] w fun e w' => e = .returned (.int .u16 ((Crc.sum16 s.data.toList).toNat : Nat)) ∧ Below w.heap.size w w' := by
  have N := Lib.hid (fun w => next16_any 0xffff#16 s s.size rfl hs w)
  rw [show ((0xffff#16).toNat : Int) = 65535 from rfl] at N
  go_enter Try.func54, Try.ntmps54
  go_wp2_with fail
  (with_reducible refine (N.out _).mono ?_)
  rintro e w1 ⟨rfl, hB⟩
  have HB := Lib.hid hB
  clear hB
  go_wp2_with fail
  go_ret
  exact ⟨rfl, HB.out⟩
end Go.Proofs.Ytgcjfiablcjfgaa
/- The contracts of perigeeref03's bit16, bit32, Next16, Next32, Sum16, Sum32 over this program. -/
namespace Go.Proofs.Ytgcjfiablcjfgaa
open Go.RowKit
set_option linter.unusedVariables false
set_option maxRecDepth 100000

theorem bit16_any (r : BitVec 16) (x : Nat) (hx : x < 2) (w : World) :
    Calls Try.prog 82 #[.int .u16 (r.toNat : Nat), .int .u16 (x : Nat)] w fun e w' => e = .returned (.int .u16 ((Crc.B16 r x).toNat : Nat)) ∧ w = w' := by
  have hr : r.toNat < 65536 := r.isLt
  have e1 := one_more r
  have e2 := xor16 (r <<< 1) 0x1021#16
  rw [show ((0x1021#16).toNat : Int) = 4129 from rfl] at e2
  obtain ⟨t, ht⟩ : ∃ t, r.toNat / 32768 = t := ⟨_, rfl⟩
  have e3 : (r.toNat : Int) / 32768 = (t : Int) := by omega
  by_cases g : t = x
  · have e : Crc.B16 r x = r <<< 1 := by unfold Crc.B16; rw [ht, if_pos g]
    have h1 : ((t : Int) != (x : Int)) = false := by simp; omega
    rw [e]
    obtain ⟨q, hq⟩ : ∃ p, r <<< 1 = p := ⟨_, rfl⟩
    rw [hq] at e1 ⊢
    obtain ⟨X, hX⟩ : ∃ X, r.toNat = X := ⟨_, rfl⟩
    rw [hX] at e1 e3 ⊢
    clear e g e2 hq hX ht hr
    go_enter Try.func82, Try.ntmps82
    go_wp2_with fail
    go_ret
    exact ⟨rfl, rfl⟩
  · have e : Crc.B16 r x = (r <<< 1) ^^^ 0x1021#16 := by unfold Crc.B16; rw [ht, if_neg g]
    have h1 : ((t : Int) != (x : Int)) = true := by simp; omega
    rw [e]
    obtain ⟨p, hp⟩ : ∃ p, (r <<< 1) ^^^ 0x1021#16 = p := ⟨_, rfl⟩
    rw [hp] at e2 ⊢
    obtain ⟨q, hq⟩ : ∃ p, r <<< 1 = p := ⟨_, rfl⟩
    rw [hq] at e1 e2
    obtain ⟨X, hX⟩ : ∃ X, r.toNat = X := ⟨_, rfl⟩
    rw [hX] at e1 e3 ⊢
    clear e g hq hX ht hp hr
    go_enter Try.func82, Try.ntmps82
    go_wp2_with fail
    go_ret
    exact ⟨rfl, rfl⟩
theorem rnext16_any (r : BitVec 16) (s : ByteArray) (n : Nat) (hs : s.size = n) (hn : n ≤ 70000) (w : World) :
    Calls Try.prog 57 #[.int .u16 (r.toNat : Nat), .string s] w fun e w' => e = .returned (.int .u16 ((Crc.next16 r s.data.toList).toNat : Nat)) ∧ w = w' := by
  have H := Lib.hid (fun r x hx w => bit16_any r x hx w)
  have HS := Lib.hid hs
  obtain ⟨x, hx⟩ : ∃ x, r.toNat = x := ⟨_, rfl⟩
  rw [hx]
  have HX := Lib.hid hx
  clear hx hs
  go_enter Try.func57, Try.ntmps57
  go_wp2_with fail
  obtain ⟨v, hv⟩ : ∃ v, v = r := ⟨_, rfl⟩
  rw [← HX.out, ← hv]
  have HV := Lib.hid hv
  clear HX hv
  go_loop [0, 5] (fun st i => ∃ k : Nat, k ≤ n ∧ i = .int .i64 k ∧ st = .int .u16 ((Crc.N16 v (s.data.toList.take k)).toNat : Nat)) (fun _ i => n - (intOf i).toNat)
  case atStart => exact ⟨0, Nat.zero_le _, rfl, rfl⟩
  case round =>
    obtain ⟨k, hk, rfl, rfl⟩ := hrel
    by_cases hlt : k < n
    · have l1 : k < s.size := by have := HS.out; omega
      have S := Crc.N16_take v s.data.toList k (by simpa using l1)
      rw [byte_get s k l1] at S
      obtain ⟨y, hy⟩ : ∃ y, Crc.N16 v (s.data.toList.take k) = y := ⟨_, rfl⟩
      rw [hy] at S ⊢
      obtain ⟨z, hz⟩ : ∃ z, Crc.N16 v (s.data.toList.take (k + 1)) = z := ⟨_, rfl⟩
      rw [hz, ← Crc.R16_S _ _ (UInt8.toNat_lt _)] at S
      have HZ := Lib.hid hz
      have SS := Lib.hid S
      clear S hy hz
      go_wp2_with fail
      go_loop [0, 6] (fun st i => ∃ m : Nat, m ≤ 8 ∧ i = .int .i64 (7 - (m : Int)) ∧ st = .int .u16 ((Crc.R16 y s[k].toNat m).toNat : Nat)) (fun _ i => (intOf i + 1).toNat)
      case atStart => exact ⟨0, Nat.zero_le _, rfl, rfl⟩
      case round =>
        obtain ⟨m, hm, rfl, rfl⟩ := hrel
        by_cases hlt2 : m < 8
        · obtain ⟨c, hc⟩ : ∃ c, s[k].toNat = c := ⟨_, rfl⟩
          obtain ⟨j, hj⟩ : ∃ j : Nat, 7 - m = j := ⟨_, rfl⟩
          have hb : c / 2 ^ j % 2 < 2 := Nat.mod_lt _ (by omega)
          have C := Lib.hid (H.out (Crc.R16 y c m) _ hb)
          rw [bit_int] at C
          have st : Crc.B16 (Crc.R16 y c m) (c / 2 ^ j % 2) = Crc.R16 y c (m + 1) := by rw [← hj]; rfl
          rw [st] at C
          rw [hc]
          obtain ⟨u, hu⟩ : ∃ u, Crc.R16 y c m = u := ⟨_, rfl⟩
          obtain ⟨v', hv'⟩ : ∃ u, Crc.R16 y c (m + 1) = u := ⟨_, rfl⟩
          rw [hu, hv'] at C
          rw [hu]
          have HV' := Lib.hid hv'
          have c8 : c < 256 := by rw [← hc]; exact UInt8.toNat_lt _
          clear hu hv' st H
          go_wp2_with fail
          (with_reducible refine (C.out _).mono ?_)
          rintro e w' ⟨rfl, rfl⟩
          go_wp2_with fail
          go_round
          case rel => exact ⟨m + 1, by omega, by go_num, by rw [HV'.out]⟩
          case measure => simp [intOf]; omega
        · obtain rfl : m = 8 := by omega
          rw [← SS.out, ← HZ.out]
          go_wp2_with fail
          go_round
          case rel => exact ⟨k + 1, by omega, by go_num, rfl⟩
          case measure => simp [intOf]; omega
    · obtain rfl : k = n := by omega
      have l1 : ¬ k < s.size := by have := HS.out; omega
      rw [take_all HS.out]
      go_wp2_with fail
      go_ret
      exact ⟨by rw [HV.out]; rfl, rfl⟩
theorem rsum16_any (s : ByteArray) (hs : s.size ≤ 70000) (w : World) :
    Calls Try.prog 36 #[.string s] w fun e w' => e = .returned (.int .u16 ((Crc.sum16 s.data.toList).toNat : Nat)) ∧ w = w' := by
  have N := Lib.hid (fun w => rnext16_any 0xffff#16 s s.size rfl hs w)
  rw [show ((0xffff#16).toNat : Int) = 65535 from rfl] at N
  go_enter Try.func36, Try.ntmps36
  go_wp2_with fail
  (with_reducible refine (N.out _).mono ?_)
  rintro e w1 ⟨rfl, rfl⟩
  go_wp2_with fail
  go_ret
  exact ⟨rfl, rfl⟩
end Go.Proofs.Ytgcjfiablcjfgaa
/- Layer 3's Close16 and Open16 alone, free of the texts on joined sums (the same names as in CrcJoin: import this one or that one). -/
namespace Go.Proofs.Ytgcjfiablcjfgaa
open Go.RowKit
set_option linter.unusedVariables false
set_option maxRecDepth 100000

namespace Crc
/-- What Close16 returns. -/
def close (l : List UInt8) : List UInt8 := l ++ [UInt8.ofNat ((sum16 l).toNat / 256), UInt8.ofNat ((sum16 l).toNat % 256)]
theorem close_length (l : List UInt8) : (close l).length = l.length + 2 := by simp [close]
end Crc
theorem cl_back (w : World) (b cap : Nat) (l : List UInt8) (h : ∀ j, j < l.length → w.cell? ⟨b, j, none⟩ = some (.int .u8 ((l.getD j 0).toNat : Nat))) : (convert 40 9 (.slice (some ⟨b, 0, none⟩) l.length cap)).run Try.prog w = .ok (.string ⟨l.toArray⟩) w :=
  run_convert_bytes_back w 40 9 5 ⟨b, 0, none⟩ cap l Try.underlying40 Try.underlying5 Try.underlying9 (fun j hj => by
    have e : (⟨b, 0, none⟩ : Addr).add j = ⟨b, j, none⟩ := by unfold Addr.add; split <;> simp_all
    rw [e, h j hj]
    simp [List.getD_eq_getElem?_getD, List.getElem?_eq_getElem hj])

theorem pair_bytes (w : World) (h l : Nat) (h8 : h < 256) (l8 : l < 256) :
    (convert 40 9 (.slice (some ⟨w.heap.size, 0, none⟩) 2 2)).run Try.prog (w.alloc (.cells #[.int .u8 (h : Nat), .int .u8 (l : Nat)] 5)) = .ok (.string ⟨#[UInt8.ofNat h, UInt8.ofNat l]⟩) (w.alloc (.cells #[.int .u8 (h : Nat), .int .u8 (l : Nat)] 5)) := by
  have c0 : (w.alloc (.cells #[.int .u8 (h : Nat), .int .u8 (l : Nat)] 5)).cell? ⟨w.heap.size, 0, none⟩ = some (.int .u8 (h : Nat)) := World.cell?_alloc_new w _ _ 0
  have c1 : (w.alloc (.cells #[.int .u8 (h : Nat), .int .u8 (l : Nat)] 5)).cell? ⟨w.heap.size, 1, none⟩ = some (.int .u8 (l : Nat)) := World.cell?_alloc_new w _ _ 1
  exact cl_back _ w.heap.size 2 [UInt8.ofNat h, UInt8.ofNat l] (fun j hj => by
    match j, hj with
    | 0, _ => rw [c0]; simp [Nat.mod_eq_of_lt h8]
    | 1, _ => rw [c1]; simp [Nat.mod_eq_of_lt l8])
theorem add_bytes (s : ByteArray) (l : List UInt8) : s ++ (⟨l.toArray⟩ : ByteArray) = ⟨(s.data.toList ++ l).toArray⟩ := by
  apply ByteArray.ext
  simp
theorem take_bytes (s : ByteArray) (n : Nat) : (s.extract 0 n).data.toList = s.data.toList.take n := by
  simp
theorem bytes_self (s : ByteArray) : (⟨s.data.toList.toArray⟩ : ByteArray) = s := by
  apply ByteArray.ext
  simp
theorem beq_no {s t : ByteArray} (h : s ≠ t) : (s == t) = false := by
  rw [Bool.eq_false_iff]
  intro e
  exact h (by
    have : s.data == t.data := e
    cases s
    cases t
    simp_all)
namespace Crc
/-- What Open16 returns. -/
def openE (l : List UInt8) : Int := if l.length < 2 ∨ close (l.take (l.length - 2)) ≠ l then 6 else 0
def openV (l : List UInt8) : List UInt8 := if openE l = 0 then l.take (l.length - 2) else []
end Crc
theorem close16_any (s : ByteArray) (hs : s.size ≤ 70000) (w : World) :
    Calls Try.prog 31 #[.string s] w fun e w' => e = .returned (.string ⟨(Crc.close s.data.toList).toArray⟩) ∧ Below w.heap.size w w' := by
  have N := Lib.hid (fun w => sum16_any s hs w)
  obtain ⟨r, hr⟩ : ∃ r, Crc.sum16 s.data.toList = r := ⟨_, rfl⟩
  rw [hr] at N
  have hlt : r.toNat < 65536 := r.isLt
  obtain ⟨X, hX⟩ : ∃ X, r.toNat = X := ⟨_, rfl⟩
  rw [hX] at N hlt
  obtain ⟨h, hh⟩ : ∃ h, X / 256 = h := ⟨_, rfl⟩
  obtain ⟨l, hl⟩ : ∃ h, X % 256 = h := ⟨_, rfl⟩
  have e1 : (X : Int) / 256 = (h : Int) := by omega
  have e2 : (X : Int) % 256 = (l : Int) := by omega
  have h8 : h < 256 := by omega
  have l8 : l < 256 := by omega
  have Q := Lib.hid (show s ++ (⟨#[UInt8.ofNat h, UInt8.ofNat l]⟩ : ByteArray) = ⟨(Crc.close s.data.toList).toArray⟩ by
    rw [← hh, ← hl, ← hX, ← hr]
    exact add_bytes s _)
  clear hr hX hh hl hlt
  go_enter Try.func31, Try.ntmps31
  go_wp2_with fail
  (with_reducible refine (N.out _).mono ?_)
  rintro e w1 ⟨rfl, hB⟩
  have B1 := Lib.hid (ba hB (.cells #[.int .u8 (h : Nat), .int .u8 (l : Nat)] 5))
  have CV := Lib.hid (pair_bytes w1 h l h8 l8)
  clear hB
  go_wp2_with (simp only [CV.out])
  go_ret
  exact ⟨by rw [← Q.out]; rfl, B1.out⟩
theorem open16_any (s : ByteArray) (hs : s.size ≤ 70000) (w : World) :
    Calls Try.prog 38 #[.string s] w fun e w' => e = .returned (.tuple #[.string ⟨(Crc.openV s.data.toList).toArray⟩, .int .i64 (Crc.openE s.data.toList)]) ∧ Below w.heap.size w w' := by
  have ls : s.data.toList.length = s.size := by simp
  by_cases h2 : s.size < 2
  · have e : Crc.openE s.data.toList = 6 := if_pos (.inl (by rw [ls]; exact h2))
    have ev : Crc.openV s.data.toList = [] := if_neg (by rw [e]; omega)
    rw [e, ev]
    have B := Lib.hid (Below.refl w.heap.size w)
    clear e ev ls
    go_enter Try.func38, Try.ntmps38
    go_wp2_with fail
    go_ret2
    exact ⟨rfl, B.out⟩
  · have C := Lib.hid (fun w => close16_any (s.extract 0 (s.size - 2)) (by simp; omega) w)
    rw [take_bytes] at C
    by_cases g : Crc.close (s.data.toList.take (s.size - 2)) = s.data.toList
    · have e : Crc.openE s.data.toList = 0 := if_neg (by rw [ls]; intro h; rcases h with h | h; exact h2 h; exact h g)
      have ev : Crc.openV s.data.toList = s.data.toList.take (s.size - 2) := by unfold Crc.openV; rw [if_pos e, ls]
      rw [e, ev]
      rw [g, bytes_self] at C
      have EX := Lib.hid (show (⟨(s.data.toList.take (s.size - 2)).toArray⟩ : ByteArray) = s.extract 0 (s.size - 2) by rw [← take_bytes, bytes_self])
      have q1 : (s == s) = true := by show (s.data == s.data) = true; simp
      clear e ev ls g
      go_enter Try.func38, Try.ntmps38
      go_wp2_with fail
      (with_reducible refine (C.out _).mono ?_)
      rintro e w1 ⟨rfl, hB⟩
      have HB := Lib.hid hB
      clear hB
      go_wp2_with fail
      go_ret2
      exact ⟨by rw [EX.out]; rfl, HB.out⟩
    · have e : Crc.openE s.data.toList = 6 := if_pos (.inr (by rw [ls]; exact g))
      have ev : Crc.openV s.data.toList = [] := if_neg (by rw [e]; omega)
      rw [e, ev]
      obtain ⟨t, ht⟩ : ∃ t : ByteArray, (⟨(Crc.close (s.data.toList.take (s.size - 2))).toArray⟩ : ByteArray) = t := ⟨_, rfl⟩
      rw [ht] at C
      have ne : t ≠ s := by
        intro h
        exact g (congrArg (fun q : ByteArray => q.data.toList) (ht.trans h))
      have q1 := beq_no ne
      have q2 : (t.toList == s.toList) = false := by rw [← beq_toListBytes, q1]
      clear e ev ls g ht ne
      go_enter Try.func38, Try.ntmps38
      go_wp2_with fail
      (with_reducible refine (C.out _).mono ?_)
      rintro e w1 ⟨rfl, hB⟩
      have HB := Lib.hid hB
      clear hB
      go_wp2_with fail
      go_ret2
      exact ⟨rfl, HB.out⟩
end Go.Proofs.Ytgcjfiablcjfgaa
/- Registers that take bits, and changes within a window of bits: plain mathematics. -/
namespace Go.Proofs.Ytgcjfiablcjfgaa
namespace Crc
section
variable {W : Nat}
/-- A register takes the bits f 0, f 1, .. : each one is combined at e 0, then the register moves on by L. -/
def bf (L : BitVec W → BitVec W) (e : Nat → BitVec W) (r : BitVec W) (f : Nat → Bool) : Nat → BitVec W
  | 0 => r
  | n + 1 => L (bf L e r f n ^^^ (if f n then e 0 else 0#W))
def top (e : Nat → BitVec W) (f : Nat → Bool) : Nat → BitVec W
  | 0 => 0#W
  | n + 1 => top e f n ^^^ (if f n then e n else 0#W)
structure Reg (L : BitVec W → BitVec W) (e : Nat → BitVec W) (π : Nat → Nat) : Prop where
  lin : Lin L
  inj : ∀ x y, L x = L y → x = y
  back : ∀ m, m < W → it L m (e m) = e 0
  pos : ∀ j, j < W → e j = unit (π j)
  lt : ∀ j, j < W → π j < W
  one : ∀ i j, i < W → j < W → π i = π j → i = j
variable {L : BitVec W → BitVec W} {e : Nat → BitVec W} {π : Nat → Nat}
theorem bf_congr {r : BitVec W} {f g : Nat → Bool} : ∀ n, (∀ j, j < n → f j = g j) → bf L e r f n = bf L e r g n
  | 0, _ => rfl
  | n + 1, h => by
    unfold bf
    rw [bf_congr n (fun j hj => h j (by omega)), h n (by omega)]
theorem bf_add (r : BitVec W) (f : Nat → Bool) (a : Nat) : ∀ b, bf L e r f (a + b) = bf L e (bf L e r f a) (fun j => f (a + j)) b
  | 0 => rfl
  | b + 1 => by
    show bf L e r f (a + b + 1) = _
    unfold bf
    rw [bf_add r f a b]
theorem bf_top (H : Reg L e π) (r : BitVec W) (f : Nat → Bool) : ∀ m, m ≤ W → bf L e r f m = it L m (r ^^^ top e f m)
  | 0, _ => by simp [bf, top, it]
  | m + 1, h => by
    unfold bf top
    rw [bf_top H r f m (by omega), ← BitVec.xor_assoc]
    show _ = L (it L m _)
    have a := it_lin H.lin m (r ^^^ top e f m) (if f m then e m else 0#W)
    rw [a]
    congr 2
    split
    · exact (H.back m (by omega)).symm
    · exact (it_lin H.lin m).zero.symm
theorem bf_inj (H : Reg L e π) (f : Nat → Bool) : ∀ n (r s : BitVec W), bf L e r f n = bf L e s f n → r = s
  | 0, _, _, h => h
  | n + 1, r, s, h => by
    unfold bf at h
    have h2 := H.inj _ _ h
    have h3 := congrArg (fun x => x ^^^ (if f n then e 0 else 0#W)) h2
    simp only [BitVec.xor_assoc, BitVec.xor_self, BitVec.xor_zero] at h3
    exact bf_inj H f n r s h3
theorem top_bit (H : Reg L e π) (f : Nat → Bool) (i : Nat) (hi : i < W) : ∀ m, m ≤ W → (top e f m).getLsbD (π i) = (decide (i < m) && f i)
  | 0, _ => by simp [top]
  | m + 1, h => by
    have hp := H.lt i hi
    unfold top
    rw [BitVec.getLsbD_xor, top_bit H f i hi m (by omega)]
    by_cases g : i = m
    · subst g
      have : ¬ i < i := by omega
      cases hf : f i
      · simp
      · simp only [if_true]
        rw [H.pos i hi, unit_bit]
        simp [hp]
    · have hb : (if f m then e m else 0#W).getLsbD (π i) = false := by
        split
        · rw [H.pos m (by omega), unit_bit, decide_eq_false (fun x => g (H.one i m hi (by omega) x)), Bool.and_false]
        · simp
      rw [hb, Bool.xor_false]
      by_cases l : i < m
      · rw [decide_eq_true l, decide_eq_true (show i < m + 1 by omega)]
      · rw [decide_eq_false l, decide_eq_false (show ¬ i < m + 1 by omega)]
theorem xor_left {x y z : BitVec W} (h : x ^^^ y = x ^^^ z) : y = z := by
  have := congrArg (fun u => x ^^^ u) h
  simpa only [← BitVec.xor_assoc, BitVec.xor_self, BitVec.zero_xor] using this
/-- A change within a window of W bits is seen. -/
theorem burst (H : Reg L e π) (r : BitVec W) (f g : Nat → Bool) (k m c : Nat) (hm : m ≤ W) (h1 : ∀ j, j < k → f j = g j) (h2 : ∀ j, k + m ≤ j → j < k + m + c → f j = g j)
    (h : bf L e r f (k + m + c) = bf L e r g (k + m + c)) : ∀ j, j < k + m + c → f j = g j := by
  rw [bf_add, bf_add, bf_add, bf_add, bf_congr k h1] at h
  have c1 : bf L e (bf L e (bf L e r g k) (fun j => g (k + j)) m) (fun j => f (k + m + j)) c = bf L e (bf L e (bf L e r g k) (fun j => g (k + j)) m) (fun j => g (k + m + j)) c :=
    bf_congr c (fun j hj => h2 _ (by omega) (by omega))
  rw [← c1] at h
  have h3 := bf_inj H _ c _ _ h
  rw [bf_top H _ _ m hm, bf_top H _ _ m hm] at h3
  have h4 := xor_left (it_inj H.inj m _ _ h3)
  intro j hj
  by_cases a : j < k
  · exact h1 j a
  · by_cases b : j < k + m
    · have t1 := top_bit H (fun j => f (k + j)) (j - k) (by omega) m hm
      have t2 := top_bit H (fun j => g (k + j)) (j - k) (by omega) m hm
      rw [h4, t2, decide_eq_true (show j - k < m by omega), Bool.true_and, Bool.true_and] at t1
      have e : k + (j - k) = j := by omega
      simp only [e] at t1
      exact t1.symm
    · exact h2 j (by omega) hj
end
/-- How the registers move back. -/
def I16 (r : BitVec 16) : BitVec 16 := if r.getLsbD 0 then (r >>> 1) ^^^ 0x8810#16 else r >>> 1
def I32 (r : BitVec 32) : BitVec 32 := if r.getLsbD 31 then (r <<< 1) ^^^ 0xdb710641#32 else r <<< 1
theorem linI16 : Lin I16 := fun x y => by
  unfold I16
  rw [BitVec.getLsbD_xor, BitVec.ushiftRight_xor_distrib]
  cases x.getLsbD 0 <;> cases y.getLsbD 0 <;> simp
  · ac_rfl
  · ac_rfl
  · rw [show ∀ a b p : BitVec 16, (a ^^^ p) ^^^ (b ^^^ p) = (a ^^^ b) ^^^ (p ^^^ p) by intros; ac_rfl, BitVec.xor_self, BitVec.xor_zero]
theorem linI32 : Lin I32 := fun x y => by
  unfold I32
  rw [BitVec.getLsbD_xor, BitVec.shiftLeft_xor_distrib]
  cases x.getLsbD 31 <;> cases y.getLsbD 31 <;> simp
  · ac_rfl
  · ac_rfl
  · rw [show ∀ a b p : BitVec 32, (a ^^^ p) ^^^ (b ^^^ p) = (a ^^^ b) ^^^ (p ^^^ p) by intros; ac_rfl, BitVec.xor_self, BitVec.xor_zero]
theorem linId {W : Nat} : Lin (fun x : BitVec W => x) := fun _ _ => rfl
theorem back16 : ∀ i, i < 16 → I16 (L16 (unit i)) = unit i := by decide +kernel
theorem back32 : ∀ i, i < 32 → I32 (L32 (unit i)) = unit i := by decide +kernel
theorem inj16 (x y : BitVec 16) (h : L16 x = L16 y) : x = y := by
  have a := (linI16.comp lin16).ext linId back16
  rw [← a x, ← a y, h]
theorem inj32 (x y : BitVec 32) (h : L32 x = L32 y) : x = y := by
  have a := (linI32.comp lin32).ext linId back32
  rw [← a x, ← a y, h]
def e16 (j : Nat) : BitVec 16 := unit (15 - j)
def e32 (j : Nat) : BitVec 32 := unit j
theorem reg16 : Reg L16 e16 (fun j => 15 - j) := ⟨lin16, inj16, by decide +kernel, fun _ _ => rfl, fun j h => by show 15 - j < 16; omega, fun i j h1 h2 (h : 15 - i = 15 - j) => by omega⟩
theorem reg32 : Reg L32 e32 (fun j => j) := ⟨lin32, inj32, by decide +kernel, fun _ _ => rfl, fun j h => h, fun i j h1 h2 h => h⟩
/-- The bits of a string: the highest one of a byte first; the lowest one first. -/
def hb (l : List UInt8) (p : Nat) : Bool := decide ((l.getD (p / 8) 0).toNat / 2 ^ (7 - p % 8) % 2 = 1)
def lb (l : List UInt8) (p : Nat) : Bool := decide ((l.getD (p / 8) 0).toNat / 2 ^ (p % 8) % 2 = 1)
theorem step_hb (r : BitVec 16) (x : Nat) (hx : x < 2) : L16 (r ^^^ (if decide (x = 1) then e16 0 else 0#16)) = B16 r x := by
  rw [B16_L r x hx]
  rcases (show x = 0 ∨ x = 1 by omega) with rfl | rfl <;> rfl
theorem step_lb (r : BitVec 32) (x : Nat) (hx : x < 2) : L32 (r ^^^ (if decide (x = 1) then e32 0 else 0#32)) = B32 r x := by
  rw [B32_L r x hx]
  rcases (show x = 0 ∨ x = 1 by omega) with rfl | rfl <;> rfl
theorem bf_byte16 (r : BitVec 16) (l : List UInt8) (k : Nat) : ∀ j, j ≤ 8 → bf L16 e16 r (hb l) (8 * k + j) = R16 (bf L16 e16 r (hb l) (8 * k)) (l.getD k 0).toNat j
  | 0, _ => rfl
  | j + 1, h => by
    have e1 : hb l (8 * k + j) = decide ((l.getD k 0).toNat / 2 ^ (7 - j) % 2 = 1) := by
      unfold hb
      rw [show (8 * k + j) / 8 = k by omega, show (8 * k + j) % 8 = j by omega]
    show L16 (bf L16 e16 r (hb l) (8 * k + j) ^^^ (if hb l (8 * k + j) then e16 0 else 0#16)) = B16 (R16 (bf L16 e16 r (hb l) (8 * k)) (l.getD k 0).toNat j) ((l.getD k 0).toNat / 2 ^ (7 - j) % 2)
    rw [bf_byte16 r l k j (by omega), e1]
    exact step_hb _ _ (Nat.mod_lt _ (by omega))
theorem bf_byte32 (r : BitVec 32) (l : List UInt8) (k : Nat) : ∀ j, j ≤ 8 → bf L32 e32 r (lb l) (8 * k + j) = R32 (bf L32 e32 r (lb l) (8 * k)) (l.getD k 0).toNat j
  | 0, _ => rfl
  | j + 1, h => by
    have e1 : lb l (8 * k + j) = decide ((l.getD k 0).toNat / 2 ^ (j) % 2 = 1) := by
      unfold lb
      rw [show (8 * k + j) / 8 = k by omega, show (8 * k + j) % 8 = j by omega]
    show L32 (bf L32 e32 r (lb l) (8 * k + j) ^^^ (if lb l (8 * k + j) then e32 0 else 0#32)) = B32 (R32 (bf L32 e32 r (lb l) (8 * k)) (l.getD k 0).toNat j) ((l.getD k 0).toNat / 2 ^ (j) % 2)
    rw [bf_byte32 r l k j (by omega), e1]
    exact step_lb _ _ (Nat.mod_lt _ (by omega))
theorem bf_take16 (r : BitVec 16) (l : List UInt8) : ∀ k, k ≤ l.length → bf L16 e16 r (hb l) (8 * k) = N16 r (l.take k)
  | 0, _ => rfl
  | k + 1, h => by
    rw [show 8 * (k + 1) = 8 * k + 8 by omega, bf_byte16 r l k 8 (by omega), R16_S _ _ (UInt8.toNat_lt _), bf_take16 r l k (by omega), N16_take r l k (by omega)]
    congr 2
    simp [List.getD, List.getElem?_eq_getElem (show k < l.length by omega)]
theorem bf_take32 (r : BitVec 32) (l : List UInt8) : ∀ k, k ≤ l.length → bf L32 e32 r (lb l) (8 * k) = N32 r (l.take k)
  | 0, _ => rfl
  | k + 1, h => by
    rw [show 8 * (k + 1) = 8 * k + 8 by omega, bf_byte32 r l k 8 (by omega), R32_S _ _ (UInt8.toNat_lt _), bf_take32 r l k (by omega), N32_take r l k (by omega)]
    congr 2
    simp [List.getD, List.getElem?_eq_getElem (show k < l.length by omega)]
theorem bf_sum16 (l : List UInt8) : bf L16 e16 0xffff#16 (hb l) (8 * l.length) = sum16 l := by
  rw [bf_take16 _ l _ (Nat.le_refl _), List.take_length]
  rfl
theorem bf_sum32 (l : List UInt8) : bf L32 e32 (~~~ 0#32) (lb l) (8 * l.length) = ~~~ sum32 l := by
  rw [bf_take32 _ l _ (Nat.le_refl _), List.take_length]
  unfold sum32 next32
  rw [BitVec.not_not]
theorem byte_ext (x y : UInt8) (h : ∀ i, i < 8 → (x.toNat / 2 ^ i % 2 = 1 ↔ y.toNat / 2 ^ i % 2 = 1)) : x = y := by
  apply UInt8.toNat_inj.1
  apply Nat.eq_of_testBit_eq
  intro i
  by_cases hi : i < 8
  · rw [Nat.testBit_eq_decide_div_mod_eq, Nat.testBit_eq_decide_div_mod_eq]
    exact decide_eq_decide.2 (h i hi)
  · have a : x.toNat < 2 ^ i := Nat.lt_of_lt_of_le (UInt8.toNat_lt x) (Nat.pow_le_pow_right (n := 2) (by omega) (show 8 ≤ i by omega))
    have b : y.toNat < 2 ^ i := Nat.lt_of_lt_of_le (UInt8.toNat_lt y) (Nat.pow_le_pow_right (n := 2) (by omega) (show 8 ≤ i by omega))
    rw [Nat.testBit_lt_two_pow a, Nat.testBit_lt_two_pow b]
theorem hb_ext (a b : List UInt8) (h : a.length = b.length) (k : ∀ p, p < 8 * a.length → hb a p = hb b p) : a = b := by
  apply List.ext_getElem h
  intro j h1 h2
  apply byte_ext
  intro i hi
  have e := k (8 * j + (7 - i)) (by omega)
  unfold hb at e
  rw [show (8 * j + (7 - i)) / 8 = j by omega, show 7 - (8 * j + (7 - i)) % 8 = i by omega] at e
  simp only [List.getD, List.getElem?_eq_getElem h1, List.getElem?_eq_getElem h2, Option.getD_some] at e
  exact decide_eq_decide.1 e
theorem lb_ext (a b : List UInt8) (h : a.length = b.length) (k : ∀ p, p < 8 * a.length → lb a p = lb b p) : a = b := by
  apply List.ext_getElem h
  intro j h1 h2
  apply byte_ext
  intro i hi
  have e := k (8 * j + i) (by omega)
  unfold lb at e
  rw [show (8 * j + i) / 8 = j by omega, show (8 * j + i) % 8 = i by omega] at e
  simp only [List.getD, List.getElem?_eq_getElem h1, List.getElem?_eq_getElem h2, Option.getD_some] at e
  exact decide_eq_decide.1 e
/-- A string with bit d of byte j inverted. -/
def inv (l : List UInt8) (j d : Nat) : List UInt8 := l.set j (UInt8.ofNat ((l.getD j 0).toNat ^^^ 2 ^ d))
theorem inv_length (l : List UInt8) (j d : Nat) : (inv l j d).length = l.length := by unfold inv; simp
theorem inv_byte : ∀ y, y < 256 → ∀ d, d < 8 → (y ^^^ 2 ^ d) < 256 ∧ ∀ i, i < 8 → (decide ((y ^^^ 2 ^ d) / 2 ^ i % 2 = 1)) = ((decide (y / 2 ^ i % 2 = 1)) != decide (i = d)) := by decide +kernel
theorem inv_at (l : List UInt8) (j d : Nat) (hj : j < l.length) (hd : d < 8) : ((inv l j d).getD j 0).toNat = (l.getD j 0).toNat ^^^ 2 ^ d := by
  unfold inv
  rw [List.getD_eq_getElem?_getD, List.getElem?_set_self hj, Option.getD_some]
  exact UInt8.toNat_ofNat_of_lt' (inv_byte _ (UInt8.toNat_lt _) d hd).1
theorem inv_off (l : List UInt8) (i j d : Nat) (h : i ≠ j) : (inv l j d).getD i 0 = l.getD i 0 := by
  unfold inv
  rw [List.getD_eq_getElem?_getD, List.getElem?_set_ne (Ne.symm h), ← List.getD_eq_getElem?_getD]
theorem hb_inv (l : List UInt8) (p q : Nat) (hp : p < 8 * l.length) : hb (inv l (p / 8) (7 - p % 8)) q = (hb l q != decide (q = p)) := by
  unfold hb
  by_cases g : q / 8 = p / 8
  · rw [g, inv_at l _ _ (by omega) (by omega), (inv_byte _ (UInt8.toNat_lt _) (7 - p % 8) (by omega)).2 (7 - q % 8) (by omega)]
    congr 1
    exact decide_eq_decide.2 (by omega)
  · rw [inv_off l _ _ _ g, decide_eq_false (show ¬ q = p by intro h; subst h; exact g rfl), Bool.bne_false]
theorem lb_inv (l : List UInt8) (p q : Nat) (hp : p < 8 * l.length) : lb (inv l (p / 8) (p % 8)) q = (lb l q != decide (q = p)) := by
  unfold lb
  by_cases g : q / 8 = p / 8
  · rw [g, inv_at l _ _ (by omega) (by omega), (inv_byte _ (UInt8.toNat_lt _) (p % 8) (by omega)).2 (q % 8) (by omega)]
    congr 1
    exact decide_eq_decide.2 (by omega)
  · rw [inv_off l _ _ _ g, decide_eq_false (show ¬ q = p by intro h; subst h; exact g rfl), Bool.bne_false]
/-- What the law's loop makes of a string. -/
def short (l : List UInt8) (k c : Nat) : Nat → List UInt8
  | 0 => l
  | i + 1 => if i < 16 ∧ c / 2 ^ i % 2 = 1 then inv (short l k c i) ((k + i) / 8) (7 - (k + i) % 8) else short l k c i
def long (l : List UInt8) (k c : Nat) : Nat → List UInt8
  | 0 => l
  | i + 1 => if c / 2 ^ i % 2 = 1 then inv (long l k c i) ((k + i) / 8) ((k + i) % 8) else long l k c i
theorem short_length (l : List UInt8) (k c : Nat) : ∀ i, (short l k c i).length = l.length
  | 0 => rfl
  | i + 1 => by
    unfold short
    split
    · rw [inv_length, short_length l k c i]
    · exact short_length l k c i
theorem long_length (l : List UInt8) (k c : Nat) : ∀ i, (long l k c i).length = l.length
  | 0 => rfl
  | i + 1 => by
    unfold long
    split
    · rw [inv_length, long_length l k c i]
    · exact long_length l k c i
theorem short_bit (l : List UInt8) (k c : Nat) (q : Nat) (hq : q < k ∨ k + 16 ≤ q) : ∀ i, k + i ≤ 8 * l.length → hb (short l k c i) q = hb l q
  | 0, _ => rfl
  | i + 1, h => by
    unfold short
    split
    · rename_i g
      rw [hb_inv _ _ _ (by rw [short_length]; omega), decide_eq_false (by omega), Bool.bne_false, short_bit l k c q hq i (by omega)]
    · exact short_bit l k c q hq i (by omega)
theorem long_bit (l : List UInt8) (k c : Nat) (q : Nat) : ∀ i, k + i ≤ 8 * l.length → (q < k ∨ k + i ≤ q) → lb (long l k c i) q = lb l q
  | 0, _, _ => rfl
  | i + 1, h, hq => by
    unfold long
    split
    · rw [lb_inv _ _ _ (by rw [long_length]; omega), decide_eq_false (by omega), Bool.bne_false, long_bit l k c q i (by omega) (by omega)]
    · exact long_bit l k c q i (by omega) (by omega)
theorem window16 (a b : List UInt8) (h : a.length = b.length) (k m : Nat) (hm : m ≤ 16) (hk : k + m ≤ 8 * a.length) (g : ∀ q, q < 8 * a.length → (q < k ∨ k + m ≤ q) → hb a q = hb b q) (s : sum16 a = sum16 b) : a = b := by
  apply hb_ext a b h
  obtain ⟨c, hc⟩ : ∃ c, 8 * a.length = k + m + c := ⟨8 * a.length - (k + m), by omega⟩
  have e : bf L16 e16 0xffff#16 (hb a) (k + m + c) = bf L16 e16 0xffff#16 (hb b) (k + m + c) := by
    rw [← hc, bf_sum16, s, h, bf_sum16]
  rw [hc]
  exact burst reg16 _ _ _ k m c hm (fun j hj => g j (by omega) (by omega)) (fun j h1 h2 => g j (by omega) (by omega)) e
theorem window32 (a b : List UInt8) (h : a.length = b.length) (k m : Nat) (hm : m ≤ 32) (hk : k + m ≤ 8 * a.length) (g : ∀ q, q < 8 * a.length → (q < k ∨ k + m ≤ q) → lb a q = lb b q) (s : sum32 a = sum32 b) : a = b := by
  apply lb_ext a b h
  obtain ⟨c, hc⟩ : ∃ c, 8 * a.length = k + m + c := ⟨8 * a.length - (k + m), by omega⟩
  have e : bf L32 e32 (~~~ 0#32) (lb a) (k + m + c) = bf L32 e32 (~~~ 0#32) (lb b) (k + m + c) := by
    rw [← hc, bf_sum32, s, h, bf_sum32]
  rw [hc]
  exact burst reg32 _ _ _ k m c hm (fun j hj => g j (by omega) (by omega)) (fun j h1 h2 => g j (by omega) (by omega)) e
theorem short_sum (l : List UInt8) (k c i : Nat) (hi : k + i ≤ 8 * l.length) (hk : k ≤ 8 * l.length) (s : sum16 (short l k c i) = sum16 l) : short l k c i = l := by
  have hl := short_length l k c i
  refine window16 _ _ hl k (min 16 (8 * l.length - k)) (by omega) (by rw [hl]; omega) (fun q hq hw => ?_) s
  rw [hl] at hq
  exact short_bit l k c q (by omega) i hi
theorem long_sum (l : List UInt8) (k c i : Nat) (h32 : i ≤ 32) (hi : k + i ≤ 8 * l.length) (s : sum32 (long l k c i) = sum32 l) : long l k c i = l := by
  have hl := long_length l k c i
  refine window32 _ _ hl k i h32 (by rw [hl]; exact hi) (fun q hq hw => ?_) s
  exact long_bit l k c q i hi hw
end Crc
end Go.Proofs.Ytgcjfiablcjfgaa
