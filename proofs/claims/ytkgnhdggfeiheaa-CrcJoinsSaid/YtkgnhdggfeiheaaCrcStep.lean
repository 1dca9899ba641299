/- The contracts of crc's shift16, shift32, afterZero, byteSums over this program. -/
import Derived.Test.YtkgnhdggfeiheaaCrcRow
namespace Go.Proofs.Ytkgnhdggfeiheaa
open Go.RowKit
set_option linter.unusedVariables false

theorem shift16_any (r : BitVec 16) (w : World) :
    Calls Try.prog 29 #[.int .u16 (r.toNat : Nat)] w fun e w' => e = .returned (.int .u16 ((Crc.L16 r).toNat : Nat)) ∧ w = w' := by
  have hr : r.toNat < 65536 := r.isLt
  have e1 := one_more r
  have e2 := xor16 (r <<< 1) 0x1021#16
  rw [show ((0x1021#16).toNat : Int) = 4129 from rfl] at e2
  by_cases g : r.toNat / 32768 = 1
  · have e : Crc.L16 r = (r <<< 1) ^^^ 0x1021#16 := by unfold Crc.L16; rw [Crc.bit16_15, decide_eq_true g]; rfl
    have h1 : ((r.toNat : Int) / 32768 != 0) = true := by simp; omega
    rw [e]
    obtain ⟨p, hp⟩ : ∃ p, (r <<< 1) ^^^ 0x1021#16 = p := ⟨_, rfl⟩
    rw [hp] at e2 ⊢
    obtain ⟨q, hq⟩ : ∃ p, r <<< 1 = p := ⟨_, rfl⟩
    rw [hq] at e1 e2
    clear e g hp hq
    go_enter Try.func29, Try.ntmps29
    go_wp2_with fail
    go_ret
    exact ⟨rfl, rfl⟩
  · have e : Crc.L16 r = r <<< 1 := by unfold Crc.L16; rw [Crc.bit16_15, decide_eq_false g]; rfl
    have h1 : ((r.toNat : Int) / 32768 != 0) = false := by simp; omega
    rw [e]
    obtain ⟨q, hq⟩ : ∃ p, r <<< 1 = p := ⟨_, rfl⟩
    rw [hq] at e1 ⊢
    clear e g e2 hq
    go_enter Try.func29, Try.ntmps29
    go_wp2_with fail
    go_ret
    exact ⟨rfl, rfl⟩
theorem shift32_any (r : BitVec 32) (w : World) :
    Calls Try.prog 32 #[.int .u32 (r.toNat : Nat)] w fun e w' => e = .returned (.int .u32 ((Crc.L32 r).toNat : Nat)) ∧ w = w' := by
  have e1 := one_less r
  have e2 := xor32 (r >>> 1) 0xedb88320#32
  rw [show ((0xedb88320#32).toNat : Int) = 3988292384 from rfl] at e2
  by_cases g : r.toNat % 2 = 1
  · have e : Crc.L32 r = (r >>> 1) ^^^ 0xedb88320#32 := by unfold Crc.L32; rw [Crc.bit32_0, decide_eq_true g]; rfl
    have h0 : bits .and .u32 (r.toNat : Int) 1 = 1 := by
      have := u32_and_nat r.toNat 1 r.isLt (by omega)
      rw [Nat.and_one_is_mod, g] at this
      exact this
    rw [e]
    obtain ⟨p, hp⟩ : ∃ p, (r >>> 1) ^^^ 0xedb88320#32 = p := ⟨_, rfl⟩
    rw [hp] at e2 ⊢
    rw [← e1] at e2
    have E := Lib.hid e2
    clear e g hp e1 e2
    go_enter Try.func32, Try.ntmps32
    go_wp2_with fail
    go_ret
    exact ⟨congrArg Ending.returned (congrArg (Value.int IntKind.u32) E.out), rfl⟩
  · have e : Crc.L32 r = r >>> 1 := by unfold Crc.L32; rw [Crc.bit32_0, decide_eq_false g]; rfl
    have h0 : bits .and .u32 (r.toNat : Int) 1 = 0 := by
      have := u32_and_nat r.toNat 1 r.isLt (by omega)
      rw [Nat.and_one_is_mod, show r.toNat % 2 = 0 by omega] at this
      exact this
    rw [e]
    obtain ⟨q, hq⟩ : ∃ p, r >>> 1 = p := ⟨_, rfl⟩
    rw [hq] at e1 ⊢
    have E := Lib.hid e1
    clear e g e2 hq e1
    go_enter Try.func32, Try.ntmps32
    go_wp2_with fail
    go_ret
    exact ⟨congrArg Ending.returned (congrArg (Value.int IntKind.u32) E.out), rfl⟩

theorem afterZero16_any (r : BitVec 16) (w : World) :
    Calls Try.prog 39 #[.func (.func 29) #[] #[], .int .u16 (r.toNat : Nat)] w fun e w' => e = .returned (.int .u16 ((Crc.Z16 r).toNat : Nat)) ∧ w = w' := by
  have H := Lib.hid (fun r w => shift16_any r w)
  go_enter Try.func39, Try.ntmps39
  go_wp2_with fail
  go_loop [1, 5] (fun x i => ∃ k : Nat, k ≤ 8 ∧ i = .int .i64 k ∧ x = .int .u16 ((Crc.it Crc.L16 k r).toNat : Nat)) (fun _ i => 8 - (intOf i).toNat)
  case atStart => exact ⟨0, Nat.zero_le _, rfl, rfl⟩
  case round =>
    obtain ⟨k, hk, rfl, rfl⟩ := hrel
    by_cases hlt : k < 8
    · have e : Crc.L16 (Crc.it Crc.L16 k r) = Crc.it Crc.L16 (k + 1) r := rfl
      have C := Lib.hid (H.out (Crc.it Crc.L16 k r))
      rw [e] at C
      obtain ⟨x, hx⟩ : ∃ x, Crc.it Crc.L16 k r = x := ⟨_, rfl⟩
      obtain ⟨y, hy⟩ : ∃ x, Crc.it Crc.L16 (k + 1) r = x := ⟨_, rfl⟩
      rw [hx, hy] at C
      rw [hx]
      have HY := Lib.hid hy
      clear hx hy e H
      go_wp2_with fail
      (with_reducible refine (C.out _).mono ?_)
      rintro e w' ⟨rfl, rfl⟩
      go_wp2_with fail
      go_round
      case rel => exact ⟨k + 1, by omega, by go_num, by rw [HY.out]⟩
      case measure => simp [intOf]; omega
    · obtain rfl : k = 8 := by omega
      go_wp2_with fail
      go_ret
      exact ⟨rfl, rfl⟩
theorem zero16x256 (w : World) : Sem.run Try.prog (zeroValue 47) w = .ok (.agg (arrK .u16 256 (fun _ => 0))) w := by rw [arrK_zero]; kernel_rfl
theorem u16x256 : Try.prog.underlying 47 = some (.array 256 22) := by kernel_rfl
theorem i16x256 (f : Nat → Nat) : (Try.prog.info? 47).map (·.size) = some (arrK .u16 256 f).size := by rw [arrK_size]; kernel_rfl
theorem afterByte16 (p : Nat) (hp : p < 256) (w : World) :
    Calls Try.prog 39 #[.func (.func 29) #[] #[], .int .u16 ((p : Int) * 256)] w fun e w' => e = .returned (.int .u16 ((Crc.T16 p).toNat : Nat)) ∧ w = w' := by
  have h := afterZero16_any (BitVec.ofNat 16 p <<< 8) w
  rw [show ((BitVec.ofNat 16 p <<< 8).toNat : Int) = (p : Int) * 256 by rw [BitVec.toNat_shiftLeft, Nat.shiftLeft_eq, BitVec.toNat_ofNat]; omega] at h
  exact h
abbrev Sums16 := RowK .u16 256 47
theorem byteSums16_any (w : World) :
    Calls Try.prog 28 #[.func (.func 29) #[] #[], .int .i64 8] w fun e w' => e = .returned (.agg (arrK .u16 256 (fun x => (Crc.T16 x).toNat))) ∧ Below w.heap.size w w' := by
  have Z := Lib.hid (fun w => zero16x256 w)
  have AZ := Lib.hid (fun r w => afterZero16_any r w)
  go_enter Try.func28, Try.ntmps28
  go_wp2_with (simp only [Z.out])
  go_loopw [6] (fun b wr => ∃ k : Nat, k ≤ 8 ∧ b = .int .i64 (2 ^ k : Nat) ∧ Below w.heap.size w wr ∧ Sums16 wr w.heap.size (fun _ => 0) ∧ Sums16 wr (w.heap.size + 1) (fun x => if x < 2 ^ k then (Crc.T16 x).toNat else 0)) (fun b _ => 256 - (intOf b).toNat)
  case atStart =>
    refine ⟨0, by omega, rfl, by go_grown, (RowK.new w .u16 256 47 (fun _ => 0)).alloc _, ?_⟩
    have := RowK.new (w.alloc (.cells (arrK .u16 256 (fun _ => 0)) 47)) .u16 256 47 (fun _ => 0)
    rw [World.size_alloc] at this
    refine this.congr (fun i _ => ?_)
    by_cases h : i < 1
    · obtain rfl : i = 0 := by omega
      rw [Crc.T16_zero]; rfl
    · rw [if_neg (by simpa using h)]
  case round =>
    obtain ⟨k, hk, rfl, hB, R0, R1⟩ := hrel
    by_cases hlt : k < 8
    · obtain ⟨p, hp⟩ : ∃ p, 2 ^ k = p := ⟨_, rfl⟩
      have hp2 : p ≤ 128 := by have := Nat.pow_le_pow_right (n := 2) (by omega) (show k ≤ 7 by omega); omega
      rw [hp] at R1 ⊢
      have HB := Lib.hid hB
      have HR0 := Lib.hid R0
      have HR1 := Lib.hid R1
      have HP := Lib.hid hp
      have HK := Lib.hid hlt
      have b1 : decide ((p : Int) < 256) = true := by simp; omega
      have C := Lib.hid (afterByte16 p (by omega))
      obtain ⟨tp, htp⟩ : ∃ x, Crc.T16 p = x := ⟨_, rfl⟩
      rw [htp] at C
      have HTP := Lib.hid htp
      clear hB R0 R1 hp hk Z AZ hlt htp
      go_wp2_with fail
      (with_reducible refine (C.out _).mono ?_)
      rintro e w' ⟨rfl, rfl⟩
      go_wp2_with fail
      go_loopw [20] (fun i w2 => ∃ j : Nat, j ≤ p ∧ i = .int .i64 j ∧ Below w.heap.size w w2 ∧ Sums16 w2 w.heap.size (fun _ => 0) ∧ Sums16 w2 (w.heap.size + 1) (fun x => if x < p + j then (Crc.T16 x).toNat else 0)) (fun i _ => p - (intOf i).toNat)
      case atStart => exact ⟨0, by omega, rfl, HB.out, HR0.out, HR1.out⟩
      case round =>
        obtain ⟨j, hj, rfl, hB, R0, R1⟩ := hrel
        by_cases hlt : j < p
        · have cj := R1.cell (i := j) (by omega)
          have fz := R1.frozen (p + j)
          have cp := R1.cell (i := p + j) (by omega)
          rw [if_pos (by omega)] at cj
          have ex := xor16 tp (Crc.T16 j)
          rw [← HTP.out] at ex
          have S := Crc.T16_xor k j (by have := HP.out; omega)
          rw [HP.out] at S
          rw [← S] at ex
          rw [HTP.out] at ex
          obtain ⟨tj, htj⟩ : ∃ x, Crc.T16 j = x := ⟨_, rfl⟩
          obtain ⟨ts, hts⟩ : ∃ x, Crc.T16 (p + j) = x := ⟨_, rfl⟩
          rw [htj] at ex cj
          rw [hts] at ex
          have HB2 := Lib.hid hB
          have Q0 := Lib.hid R0
          have Q1 := Lib.hid R1
          have HTS := Lib.hid hts
          have s1 : IntKind.i64.wrap ((p : Int) + (j : Int)) = ((p + j : Nat) : Int) := by rw [IntKind.wrap_i64]; omega
          obtain ⟨q, hq⟩ : ∃ q, p + j = q := ⟨_, rfl⟩
          rw [hq] at s1 fz cp
          have HQ := Lib.hid hq
          have q1 : (q : Int) < 256 := by omega
          have q2 : (j : Int) < 256 := by omega
          clear hB R0 R1 S hts htj hq
          go_wp2_with fail
          go_roundw
          case rel =>
            refine ⟨j + 1, by omega, by go_num, HB2.out.setCell (p := ⟨w.heap.size + 1, q, none⟩) (show w.heap.size ≤ w.heap.size + 1 by omega) _, Q0.out.setOther (by omega) _, (Q1.out.set q ts.toNat).congr (fun x hx => ?_)⟩
            have hq := HQ.out
            by_cases e : x = q
            · subst e
              rw [if_pos rfl, if_pos (by omega), ← HTS.out, hq]
            · rw [if_neg e]
              by_cases g : x < p + j
              · rw [if_pos g, if_pos (by omega)]
              · rw [if_neg g, if_neg (by omega)]
          case measure => simp [intOf]; omega
        · obtain rfl : j = p := by omega
          have e : 2 ^ (k + 1) = j + j := by rw [Nat.pow_succ, HP.out]; omega
          have HB2 := Lib.hid hB
          have Q0 := Lib.hid R0
          rw [← e] at R1
          have Q1 := Lib.hid R1
          have HE := Lib.hid e
          have s1 : IntKind.i64.wrap ((j : Int) * 2) = ((j + j : Nat) : Int) := by rw [IntKind.wrap_i64]; omega
          obtain ⟨q, hq⟩ : ∃ q, j + j = q := ⟨_, rfl⟩
          rw [hq] at s1 HE
          have hq2 : q ≤ 256 := by omega
          have hq3 : j < q := by have := HP.out; have := Nat.pow_pos (n := k) (show 0 < 2 by omega); omega
          have HQ := Lib.hid hq
          clear hB R0 R1 e hq
          go_wp2_with fail
          go_roundw
          case rel =>
            refine ⟨k + 1, by have := HK.out; omega, ?_, HB2.out, Q0.out, Q1.out⟩
            rw [HE.out]
          case measure => simp [intOf]; try omega
    · obtain rfl : k = 8 := by omega
      have HB := Lib.hid hB
      have HR0 := Lib.hid R0
      have HR1 := Lib.hid (show Sums16 wr (w.heap.size + 1) (fun x => (Crc.T16 x).toNat) from R1.congr (fun x hx => by rw [if_pos (by omega)]))
      clear hB R0 R1 Z AZ
      rw [show ((2 ^ 8 : Nat) : Int) = 256 from rfl]
      go_upto_region 11 with fail
      refine wp_region_lit ?_
      refine wpList_load_row rfl 47 (.tmp 5) rfl (w.heap.size + 1) rfl _ _ _ _ HR1.out u16x256 rfl (i16x256 _) ?_
      simp only [Act.put, List.setIfInBounds_toArray, List.set_cons_succ, List.set_cons_zero]
      refine wpList_store_row rfl 47 (.tmp 4) (.tmp 33) rfl w.heap.size (arrK .u16 256 (fun x => (Crc.T16 x).toNat)) rfl rfl _ _ HR0.out (i16x256 _) (by rw [arrK_size, arrK_size]) (arrK_one _ _ _) ?_
      refine wpList_nil ?_
      simp only [Exit.then]
      rename (∀ (a : Act) (w : World), Code.wp _ Code.ret _ a w → _) => hK
      apply hK
      apply wp_ret
      exact bodyPost_ret (v := .agg (arrK .u16 256 (fun x => (Crc.T16 x).toNat))) (results_cell_row Try.results28 _ _ w.heap.size 47 (arrK .u16 256 (fun x => (Crc.T16 x).toNat)) (0, 0) _ rfl (setRow_heap _ _ _ _ _ _ HR0.out) u16x256 rfl (i16x256 _)) rfl ⟨rfl, below_setRow HB.out (by omega) _⟩
theorem afterZero32_any (r : BitVec 32) (w : World) :
    Calls Try.prog 40 #[.func (.func 32) #[] #[], .int .u32 (r.toNat : Nat)] w fun e w' => e = .returned (.int .u32 ((Crc.Z32 r).toNat : Nat)) ∧ w = w' := by
  have H := Lib.hid (fun r w => shift32_any r w)
  go_enter Try.func40, Try.ntmps40
  go_wp2_with fail
  go_loop [1, 5] (fun x i => ∃ k : Nat, k ≤ 8 ∧ i = .int .i64 k ∧ x = .int .u32 ((Crc.it Crc.L32 k r).toNat : Nat)) (fun _ i => 8 - (intOf i).toNat)
  case atStart => exact ⟨0, Nat.zero_le _, rfl, rfl⟩
  case round =>
    obtain ⟨k, hk, rfl, rfl⟩ := hrel
    by_cases hlt : k < 8
    · have e : Crc.L32 (Crc.it Crc.L32 k r) = Crc.it Crc.L32 (k + 1) r := rfl
      have C := Lib.hid (H.out (Crc.it Crc.L32 k r))
      rw [e] at C
      obtain ⟨x, hx⟩ : ∃ x, Crc.it Crc.L32 k r = x := ⟨_, rfl⟩
      obtain ⟨y, hy⟩ : ∃ x, Crc.it Crc.L32 (k + 1) r = x := ⟨_, rfl⟩
      rw [hx, hy] at C
      rw [hx]
      have HY := Lib.hid hy
      clear hx hy e H
      go_wp2_with fail
      (with_reducible refine (C.out _).mono ?_)
      rintro e w' ⟨rfl, rfl⟩
      go_wp2_with fail
      go_round
      case rel => exact ⟨k + 1, by omega, by go_num, by rw [HY.out]⟩
      case measure => simp [intOf]; omega
    · obtain rfl : k = 8 := by omega
      go_wp2_with fail
      go_ret
      exact ⟨rfl, rfl⟩
theorem zero32x256 (w : World) : Sem.run Try.prog (zeroValue 51) w = .ok (.agg (arrK .u32 256 (fun _ => 0))) w := by rw [arrK_zero]; kernel_rfl
theorem u32x256 : Try.prog.underlying 51 = some (.array 256 23) := by kernel_rfl
theorem i32x256 (f : Nat → Nat) : (Try.prog.info? 51).map (·.size) = some (arrK .u32 256 f).size := by rw [arrK_size]; kernel_rfl
theorem afterByte32 (p : Nat) (hp : p < 256) (w : World) :
    Calls Try.prog 40 #[.func (.func 32) #[] #[], .int .u32 ((p : Int))] w fun e w' => e = .returned (.int .u32 ((Crc.T32 p).toNat : Nat)) ∧ w = w' := by
  have h := afterZero32_any (BitVec.ofNat 32 p) w
  rw [show ((BitVec.ofNat 32 p).toNat : Int) = (p : Int) by rw [BitVec.toNat_ofNat]; omega] at h
  exact h
abbrev Sums32 := RowK .u32 256 51
theorem byteSums32_any (w : World) :
    Calls Try.prog 31 #[.func (.func 32) #[] #[], .int .i64 0] w fun e w' => e = .returned (.agg (arrK .u32 256 (fun x => (Crc.T32 x).toNat))) ∧ Below w.heap.size w w' := by
  have Z := Lib.hid (fun w => zero32x256 w)
  have AZ := Lib.hid (fun r w => afterZero32_any r w)
  go_enter Try.func31, Try.ntmps31
  go_wp2_with (simp only [Z.out])
  go_loopw [6] (fun b wr => ∃ k : Nat, k ≤ 8 ∧ b = .int .i64 (2 ^ k : Nat) ∧ Below w.heap.size w wr ∧ Sums32 wr w.heap.size (fun _ => 0) ∧ Sums32 wr (w.heap.size + 1) (fun x => if x < 2 ^ k then (Crc.T32 x).toNat else 0)) (fun b _ => 256 - (intOf b).toNat)
  case atStart =>
    refine ⟨0, by omega, rfl, by go_grown, (RowK.new w .u32 256 51 (fun _ => 0)).alloc _, ?_⟩
    have := RowK.new (w.alloc (.cells (arrK .u32 256 (fun _ => 0)) 51)) .u32 256 51 (fun _ => 0)
    rw [World.size_alloc] at this
    refine this.congr (fun i _ => ?_)
    by_cases h : i < 1
    · obtain rfl : i = 0 := by omega
      rw [Crc.T32_zero]; rfl
    · rw [if_neg (by simpa using h)]
  case round =>
    obtain ⟨k, hk, rfl, hB, R0, R1⟩ := hrel
    by_cases hlt : k < 8
    · obtain ⟨p, hp⟩ : ∃ p, 2 ^ k = p := ⟨_, rfl⟩
      have hp2 : p ≤ 128 := by have := Nat.pow_le_pow_right (n := 2) (by omega) (show k ≤ 7 by omega); omega
      rw [hp] at R1 ⊢
      have HB := Lib.hid hB
      have HR0 := Lib.hid R0
      have HR1 := Lib.hid R1
      have HP := Lib.hid hp
      have HK := Lib.hid hlt
      have b1 : decide ((p : Int) < 256) = true := by simp; omega
      have C := Lib.hid (afterByte32 p (by omega))
      obtain ⟨tp, htp⟩ : ∃ x, Crc.T32 p = x := ⟨_, rfl⟩
      rw [htp] at C
      have HTP := Lib.hid htp
      clear hB R0 R1 hp hk Z AZ hlt htp
      go_wp2_with fail
      (with_reducible refine (C.out _).mono ?_)
      rintro e w' ⟨rfl, rfl⟩
      go_wp2_with fail
      go_loopw [20] (fun i w2 => ∃ j : Nat, j ≤ p ∧ i = .int .i64 j ∧ Below w.heap.size w w2 ∧ Sums32 w2 w.heap.size (fun _ => 0) ∧ Sums32 w2 (w.heap.size + 1) (fun x => if x < p + j then (Crc.T32 x).toNat else 0)) (fun i _ => p - (intOf i).toNat)
      case atStart => exact ⟨0, by omega, rfl, HB.out, HR0.out, HR1.out⟩
      case round =>
        obtain ⟨j, hj, rfl, hB, R0, R1⟩ := hrel
        by_cases hlt : j < p
        · have cj := R1.cell (i := j) (by omega)
          have fz := R1.frozen (p + j)
          have cp := R1.cell (i := p + j) (by omega)
          rw [if_pos (by omega)] at cj
          have ex := xor32 tp (Crc.T32 j)
          rw [← HTP.out] at ex
          have S := Crc.T32_xor k j (by have := HP.out; omega)
          rw [HP.out] at S
          rw [← S] at ex
          rw [HTP.out] at ex
          obtain ⟨tj, htj⟩ : ∃ x, Crc.T32 j = x := ⟨_, rfl⟩
          obtain ⟨ts, hts⟩ : ∃ x, Crc.T32 (p + j) = x := ⟨_, rfl⟩
          rw [htj] at ex cj
          rw [hts] at ex
          have HB2 := Lib.hid hB
          have Q0 := Lib.hid R0
          have Q1 := Lib.hid R1
          have HTS := Lib.hid hts
          have s1 : IntKind.i64.wrap ((p : Int) + (j : Int)) = ((p + j : Nat) : Int) := by rw [IntKind.wrap_i64]; omega
          obtain ⟨q, hq⟩ : ∃ q, p + j = q := ⟨_, rfl⟩
          rw [hq] at s1 fz cp
          have HQ := Lib.hid hq
          have q1 : (q : Int) < 256 := by omega
          have q2 : (j : Int) < 256 := by omega
          clear hB R0 R1 S hts htj hq
          go_wp2_with fail
          go_roundw
          case rel =>
            refine ⟨j + 1, by omega, by go_num, HB2.out.setCell (p := ⟨w.heap.size + 1, q, none⟩) (show w.heap.size ≤ w.heap.size + 1 by omega) _, Q0.out.setOther (by omega) _, (Q1.out.set q ts.toNat).congr (fun x hx => ?_)⟩
            have hq := HQ.out
            by_cases e : x = q
            · subst e
              rw [if_pos rfl, if_pos (by omega), ← HTS.out, hq]
            · rw [if_neg e]
              by_cases g : x < p + j
              · rw [if_pos g, if_pos (by omega)]
              · rw [if_neg g, if_neg (by omega)]
          case measure => simp [intOf]; omega
        · obtain rfl : j = p := by omega
          have e : 2 ^ (k + 1) = j + j := by rw [Nat.pow_succ, HP.out]; omega
          have HB2 := Lib.hid hB
          have Q0 := Lib.hid R0
          rw [← e] at R1
          have Q1 := Lib.hid R1
          have HE := Lib.hid e
          have s1 : IntKind.i64.wrap ((j : Int) * 2) = ((j + j : Nat) : Int) := by rw [IntKind.wrap_i64]; omega
          obtain ⟨q, hq⟩ : ∃ q, j + j = q := ⟨_, rfl⟩
          rw [hq] at s1 HE
          have hq2 : q ≤ 256 := by omega
          have hq3 : j < q := by have := HP.out; have := Nat.pow_pos (n := k) (show 0 < 2 by omega); omega
          have HQ := Lib.hid hq
          clear hB R0 R1 e hq
          go_wp2_with fail
          go_roundw
          case rel =>
            refine ⟨k + 1, by have := HK.out; omega, ?_, HB2.out, Q0.out, Q1.out⟩
            rw [HE.out]
          case measure => simp [intOf]; try omega
    · obtain rfl : k = 8 := by omega
      have HB := Lib.hid hB
      have HR0 := Lib.hid R0
      have HR1 := Lib.hid (show Sums32 wr (w.heap.size + 1) (fun x => (Crc.T32 x).toNat) from R1.congr (fun x hx => by rw [if_pos (by omega)]))
      clear hB R0 R1 Z AZ
      rw [show ((2 ^ 8 : Nat) : Int) = 256 from rfl]
      go_upto_region 11 with fail
      refine wp_region_lit ?_
      refine wpList_load_row rfl 51 (.tmp 5) rfl (w.heap.size + 1) rfl _ _ _ _ HR1.out u32x256 rfl (i32x256 _) ?_
      simp only [Act.put, List.setIfInBounds_toArray, List.set_cons_succ, List.set_cons_zero]
      refine wpList_store_row rfl 51 (.tmp 4) (.tmp 33) rfl w.heap.size (arrK .u32 256 (fun x => (Crc.T32 x).toNat)) rfl rfl _ _ HR0.out (i32x256 _) (by rw [arrK_size, arrK_size]) (arrK_one _ _ _) ?_
      refine wpList_nil ?_
      simp only [Exit.then]
      rename (∀ (a : Act) (w : World), Code.wp _ Code.ret _ a w → _) => hK
      apply hK
      apply wp_ret
      exact bodyPost_ret (v := .agg (arrK .u32 256 (fun x => (Crc.T32 x).toNat))) (results_cell_row Try.results31 _ _ w.heap.size 51 (arrK .u32 256 (fun x => (Crc.T32 x).toNat)) (0, 0) _ rfl (setRow_heap _ _ _ _ _ _ HR0.out) u32x256 rfl (i32x256 _)) rfl ⟨rfl, below_setRow HB.out (by omega) _⟩
end Go.Proofs.Ytkgnhdggfeiheaa
