/- The contracts of perigeeref03's zeros16, zeros32, Join16, Join32 over this program. -/
import Derived.Test.YtkgnhdggfeiheaaCrcReg
import Derived.Test.YtkgnhdggfeiheaaCrcJoin
namespace Go.Proofs.Ytkgnhdggfeiheaa
open Go.RowKit
set_option linter.unusedVariables false

theorem unitv16 : ∀ k, k < 16 → ((Crc.unit k : BitVec 16).toNat : Int) = (2 : Int) ^ k := by decide +kernel
theorem zstep16 (r : BitVec 16) : Crc.next16 r (ByteArray.mk #[0]).data.toList = Crc.Z16 r := by
  show Crc.S16 r (0 : UInt8).toNat = _
  unfold Crc.S16
  rw [show BitVec.ofNat 16 (0 : UInt8).toNat <<< 8 = 0#16 by decide, BitVec.xor_zero]
set_option maxRecDepth 100000 in
set_option maxHeartbeats 2000000 in
theorem rzeros16_any (r : BitVec 16) (n : Nat) (hn : n ≤ 1073741824) (w : World) :
    Calls Try.prog 36 #[.int .u16 (r.toNat : Nat), .int .i64 n] w fun e w' => e = .returned (.int .u16 ((Crc.it Crc.Z16 n r).toNat : Nat)) ∧ Below w.heap.size w w' := by
  have ZZ := Lib.hid (fun w => zero16xW w)
  have U := Lib.hid unitv16
  have NX := Lib.hid (fun r w => rnext16_any r ⟨#[0]⟩ 1 rfl (by omega) w)
  go_enter Try.func36, Try.ntmps36
  go_wp2_with (simp only [ZZ.out])
  go_loopw [6] (fun i wr => ∃ k : Nat, k ≤ 16 ∧ i = .int .i64 k ∧ Cols16 wr w.heap.size (fun j => if j < k then (Crc.Z16 (Crc.unit j)).toNat else 0) ∧ Below w.heap.size w wr) (fun i _ => 16 - (intOf i).toNat)
  case atStart => exact ⟨0, by omega, rfl, RowK.new w .u16 16 67 (fun _ => 0), ba (Below.refl _ _) _⟩
  case round =>
    obtain ⟨k, hk, rfl, hR, hB⟩ := hrel
    by_cases hlt : k < 16
    · have uk := U.out k hlt
      have cell := hR.cell hlt
      have fz := hR.frozen k
      have HB := Lib.hid hB
      obtain ⟨z, hz⟩ : ∃ z, (Crc.Z16 (Crc.unit k)).toNat = z := ⟨_, rfl⟩
      have NR := Lib.hid (show Cols16 (wr.setCell ⟨w.heap.size, k, none⟩ (.int .u16 (z : Nat))) w.heap.size (fun j => if j < k + 1 then (Crc.Z16 (Crc.unit j)).toNat else 0) from (hR.set k z).congr (fun j hj => by
        by_cases e : j = k
        · subst e; rw [if_pos rfl, if_pos (by omega), hz]
        · rw [if_neg e]
          by_cases g : j < k
          · rw [if_pos g, if_pos (by omega)]
          · rw [if_neg g, if_neg (by omega)]))
      have C := Lib.hid (NX.out (Crc.unit k))
      rw [zstep16, hz] at C
      obtain ⟨X, hX⟩ : ∃ X, (Crc.unit k : BitVec 16).toNat = X := ⟨_, rfl⟩
      rw [hX] at C uk
      have X2 : X < 65536 := by rw [← hX]; exact (Crc.unit k).isLt
      rw [uk] at C
      have um : (2 : Int) ^ k % 65536 = (2 : Int) ^ k := by rw [← uk]; omega
      clear hR hB hz hX ZZ U NX uk
      go_wp2_with fail
      (with_reducible refine (C.out _).mono ?_)
      rintro e w' ⟨rfl, rfl⟩
      go_wp2_with fail
      go_roundw
      case rel => exact ⟨k + 1, by omega, by go_num, NR.out, HB.out.setCell (p := ⟨w.heap.size, k, none⟩) (Nat.le_refl _) _⟩
      case measure => simp [intOf]; omega
    · obtain rfl : k = 16 := by omega
      rw [show ((16 : Nat) : Int) = 16 from rfl]
      have HR1 := Lib.hid (show Cols16 wr w.heap.size (fun j => (Crc.Z16 (Crc.unit j)).toNat) from hR.congr (fun j hj => by rw [if_pos hj]))
      have HB1 := Lib.hid hB
      clear hR hB
      go_wp2_with fail
      go_loopw [0, 1] (fun x i wr => ∃ (B : BitVec 16 → BitVec 16) (q : Nat) (R : BitVec 16), Crc.Lin B ∧ q ≤ 1073741824 ∧ i = .int .i64 q ∧ x = .int .u16 (R.toNat : Nat) ∧ Cols16 wr w.heap.size (fun j => (B (Crc.unit j)).toNat) ∧ Crc.it B q R = Crc.it Crc.Z16 n r ∧ Below w.heap.size w wr) (fun _ i _ => (intOf i).toNat)
      case atStart => exact ⟨Crc.Z16, n, r, Crc.linZ16, hn, rfl, rfl, HR1.out, rfl, HB1.out⟩
      case round =>
        obtain ⟨B, q, R, hL, hq, rfl, rfl, hR, hI, hB⟩ := hrel
        have HR := Lib.hid hR
        have HB := Lib.hid hB
        have HL := Lib.hid hL
        have HL2 := Lib.hid (hL.comp hL)
        clear hR hB hL
        by_cases h0 : q = 0
        · subst h0
          have HI := Lib.hid (show R = _ from hI)
          clear hI
          go_wp2_with fail
          go_ret
          exact ⟨by rw [← HI.out]; rfl, HB.out⟩
        · have q0 : (0 : Int) < (q : Int) := by omega
          have st := Crc.it_half B q R
          obtain ⟨q', hq'⟩ : ∃ q', q / 2 = q' := ⟨_, rfl⟩
          rw [hq', hI] at st
          have d1 : (q : Int).tdiv 2 = (q' : Int) := by rw [Int.tdiv_eq_ediv_of_nonneg (by omega)]; omega
          have HQ := Lib.hid hq'
          have hq2 : q' ≤ 1073741824 := by omega
          by_cases g : q % 2 = 1
          · rw [if_pos g] at st
            have ST := Lib.hid st
            have d2 : (q : Int).tmod 2 = 1 := by rw [Int.tmod_eq_emod_of_nonneg (by omega)]; omega
            have TM := Lib.hid (fun w => rtimes16_any (fun j => B (Crc.unit j)) R w)
            rw [Crc.img_eq HL.out] at TM
            obtain ⟨BR, hBR⟩ : ∃ x, B R = x := ⟨_, rfl⟩
            rw [hBR] at TM ST
            clear hI st hBR hq' g
            go_wp2_with (refine wpList_load_row rfl 67 (.tmp 5) rfl w.heap.size rfl _ _ _ _ HR.out u16xW rfl (i16xW _) ?_)
            (with_reducible refine (TM.out _).mono ?_)
            rintro e w2 ⟨rfl, hB2⟩
            have HB2 := Lib.hid (bt HB.out hB2)
            have HR2 := Lib.hid (HR.out.below hB2)
            clear hB2
            go_wp2_with (rw [ZZ.out])
            go_loopw [8] (fun i w3 => ∃ k : Nat, k ≤ 16 ∧ i = .int .i64 k ∧ Cols16 w3 w.heap.size (fun j => (B (Crc.unit j)).toNat) ∧ Cols16 w3 w2.heap.size (fun j => if j < k then (B (B (Crc.unit j))).toNat else 0) ∧ Below w.heap.size w w3) (fun i _ => 16 - (intOf i).toNat)
            case atStart => exact ⟨0, by omega, rfl, HR2.out.alloc _, RowK.new w2 .u16 16 67 (fun _ => 0), ba HB2.out _⟩
            case round =>
              obtain ⟨k, hk, rfl, hR5, hR7, hB3⟩ := hrel
              have lb : w.heap.size < w2.heap.size := HR2.out.lt
              by_cases hlt2 : k < 16
              · have hc := Lib.hid (fun w => rtimes16_any (fun j => B (Crc.unit j)) (B (Crc.unit k)) w)
                rw [Crc.img_eq HL.out] at hc
                have R5 := Lib.hid hR5
                have R7 := Lib.hid hR7
                have HB3 := Lib.hid hB3
                clear hR5 hR7 hB3
                go_upto_region 13 with fail
                refine twice16 w.heap.size w2.heap.size k (fun j => B (Crc.unit j)) (B (B (Crc.unit k))) _ hc.out (by kernel_rfl) rfl rfl rfl rfl rfl rfl rfl rfl rfl rfl rfl rfl rfl hlt2 R5.out R7.out ?_
                intro w5 h5
                simp only [Act.put, List.setIfInBounds_toArray, List.set_cons_succ, List.set_cons_zero]
                have N5 := Lib.hid ((R5.out.below h5).setOther (c := w2.heap.size) (i := k) (by omega) (.int .u16 ((B (B (Crc.unit k))).toNat : Nat)))
                have N7 := Lib.hid (((R7.out.below h5).set k (B (B (Crc.unit k))).toNat).congr (g := fun j => if j < k + 1 then (B (B (Crc.unit j))).toNat else 0) (fun j hj => by
                  by_cases e : j = k
                  · subst e; rw [if_pos rfl, if_pos (by omega)]
                  · rw [if_neg e]
                    by_cases g : j < k
                    · rw [if_pos g, if_pos (by omega)]
                    · rw [if_neg g, if_neg (by omega)]))
                have NB := Lib.hid ((bt HB3.out h5).setCell (p := ⟨w2.heap.size, k, none⟩) (Nat.le_of_lt lb) (.int .u16 ((B (B (Crc.unit k))).toNat : Nat)))
                obtain ⟨vv, hvv⟩ : ∃ vv, (B (B (Crc.unit k))).toNat = vv := ⟨_, rfl⟩
                obtain ⟨w6, hw6⟩ : ∃ w6, w5.setCell ⟨w2.heap.size, k, none⟩ (.int .u16 ((B (B (Crc.unit k))).toNat : Nat)) = w6 := ⟨_, rfl⟩
                rw [hw6] at N5 N7 NB ⊢
                clear hw6 h5 hc R5 R7 HB3 ZZ
                go_wp2_with fail
                go_roundw
                case rel => exact ⟨k + 1, by omega, by go_num, N5.out, N7.out, NB.out⟩
                case measure => simp [intOf]; omega
              · obtain rfl : k = 16 := by omega
                rw [show ((16 : Nat) : Int) = 16 from rfl]
                have R5 := Lib.hid hR5
                have R7 := Lib.hid (show Cols16 wr w2.heap.size (fun j => (B (B (Crc.unit j))).toNat) from hR7.congr (fun j hj => by rw [if_pos hj]))
                have HB3 := Lib.hid hB3
                clear hR5 hR7 hB3 ZZ
                go_wp2_with (first
                  | (refine wpList_load_row rfl 67 (.tmp 7) rfl w2.heap.size rfl _ _ _ _ R7.out u16xW rfl (i16xW _) ?_)
                  | (refine wpList_store_row rfl 67 (.tmp 5) (.tmp 38) rfl w.heap.size (arrK .u16 16 (fun j => (B (B (Crc.unit j))).toNat)) rfl rfl _ _ R5.out (i16xW _) (by rw [arrK_size, arrK_size]) (arrK_one _ _ _) ?_))
                go_roundw
                case rel => exact ⟨_, q', BR, HL2.out, by omega, rfl, rfl, setRow_heap _ _ _ _ _ _ R5.out, ST.out, below_setRow HB3.out (Nat.le_refl _) _⟩
                case measure => have := HQ.out; simp [intOf]; omega
          · rw [if_neg g] at st
            have ST := Lib.hid st
            have d2 : (q : Int).tmod 2 = 0 := by rw [Int.tmod_eq_emod_of_nonneg (by omega)]; omega
            clear hI st hq' g
            obtain ⟨w2, rfl⟩ : ∃ w2, w2 = wr := ⟨_, rfl⟩
            go_wp2_with (rw [ZZ.out])
            go_loopw [8] (fun i w3 => ∃ k : Nat, k ≤ 16 ∧ i = .int .i64 k ∧ Cols16 w3 w.heap.size (fun j => (B (Crc.unit j)).toNat) ∧ Cols16 w3 w2.heap.size (fun j => if j < k then (B (B (Crc.unit j))).toNat else 0) ∧ Below w.heap.size w w3) (fun i _ => 16 - (intOf i).toNat)
            case atStart => exact ⟨0, by omega, rfl, HR.out.alloc _, RowK.new w2 .u16 16 67 (fun _ => 0), ba HB.out _⟩
            case round =>
              obtain ⟨k, hk, rfl, hR5, hR7, hB3⟩ := hrel
              have lb : w.heap.size < w2.heap.size := HR.out.lt
              by_cases hlt2 : k < 16
              · have hc := Lib.hid (fun w => rtimes16_any (fun j => B (Crc.unit j)) (B (Crc.unit k)) w)
                rw [Crc.img_eq HL.out] at hc
                have R5 := Lib.hid hR5
                have R7 := Lib.hid hR7
                have HB3 := Lib.hid hB3
                clear hR5 hR7 hB3
                go_upto_region 13 with fail
                refine twice16 w.heap.size w2.heap.size k (fun j => B (Crc.unit j)) (B (B (Crc.unit k))) _ hc.out (by kernel_rfl) rfl rfl rfl rfl rfl rfl rfl rfl rfl rfl rfl rfl rfl hlt2 R5.out R7.out ?_
                intro w5 h5
                simp only [Act.put, List.setIfInBounds_toArray, List.set_cons_succ, List.set_cons_zero]
                have N5 := Lib.hid ((R5.out.below h5).setOther (c := w2.heap.size) (i := k) (by omega) (.int .u16 ((B (B (Crc.unit k))).toNat : Nat)))
                have N7 := Lib.hid (((R7.out.below h5).set k (B (B (Crc.unit k))).toNat).congr (g := fun j => if j < k + 1 then (B (B (Crc.unit j))).toNat else 0) (fun j hj => by
                  by_cases e : j = k
                  · subst e; rw [if_pos rfl, if_pos (by omega)]
                  · rw [if_neg e]
                    by_cases g : j < k
                    · rw [if_pos g, if_pos (by omega)]
                    · rw [if_neg g, if_neg (by omega)]))
                have NB := Lib.hid ((bt HB3.out h5).setCell (p := ⟨w2.heap.size, k, none⟩) (Nat.le_of_lt lb) (.int .u16 ((B (B (Crc.unit k))).toNat : Nat)))
                obtain ⟨vv, hvv⟩ : ∃ vv, (B (B (Crc.unit k))).toNat = vv := ⟨_, rfl⟩
                obtain ⟨w6, hw6⟩ : ∃ w6, w5.setCell ⟨w2.heap.size, k, none⟩ (.int .u16 ((B (B (Crc.unit k))).toNat : Nat)) = w6 := ⟨_, rfl⟩
                rw [hw6] at N5 N7 NB ⊢
                clear hw6 h5 hc R5 R7 HB3 ZZ
                go_wp2_with fail
                go_roundw
                case rel => exact ⟨k + 1, by omega, by go_num, N5.out, N7.out, NB.out⟩
                case measure => simp [intOf]; omega
              · obtain rfl : k = 16 := by omega
                rw [show ((16 : Nat) : Int) = 16 from rfl]
                have R5 := Lib.hid hR5
                have R7 := Lib.hid (show Cols16 wr w2.heap.size (fun j => (B (B (Crc.unit j))).toNat) from hR7.congr (fun j hj => by rw [if_pos hj]))
                have HB3 := Lib.hid hB3
                clear hR5 hR7 hB3 ZZ
                go_wp2_with (first
                  | (refine wpList_load_row rfl 67 (.tmp 7) rfl w2.heap.size rfl _ _ _ _ R7.out u16xW rfl (i16xW _) ?_)
                  | (refine wpList_store_row rfl 67 (.tmp 5) (.tmp 38) rfl w.heap.size (arrK .u16 16 (fun j => (B (B (Crc.unit j))).toNat)) rfl rfl _ _ R5.out (i16xW _) (by rw [arrK_size, arrK_size]) (arrK_one _ _ _) ?_))
                go_roundw
                case rel => exact ⟨_, q', R, HL2.out, by omega, rfl, rfl, setRow_heap _ _ _ _ _ _ R5.out, ST.out, below_setRow HB3.out (Nat.le_refl _) _⟩
                case measure => have := HQ.out; simp [intOf]; omega

theorem unitv32 : ∀ k, k < 32 → ((Crc.unit k : BitVec 32).toNat : Int) = (2 : Int) ^ k := by decide +kernel
theorem zstep32 (r : BitVec 32) : Crc.B32 r 0 = Crc.L32 r := by
  rw [Crc.B32_L r 0 (by omega), BitVec.xor_zero]
set_option maxRecDepth 100000 in
set_option maxHeartbeats 2000000 in
theorem rzeros32_any (r : BitVec 32) (n : Nat) (hn : n ≤ 1073741824) (w : World) :
    Calls Try.prog 38 #[.int .u32 (r.toNat : Nat), .int .i64 n] w fun e w' => e = .returned (.int .u32 ((Crc.it Crc.Z32 n r).toNat : Nat)) ∧ Below w.heap.size w w' := by
  have ZZ := Lib.hid (fun w => zero32xW w)
  have U := Lib.hid unitv32
  have BT := Lib.hid (fun r w => bit32_any r 0 (by omega) w)
  go_enter Try.func38, Try.ntmps38
  go_wp2_with (simp only [ZZ.out])
  go_loopw [6] (fun i wr => ∃ k : Nat, k ≤ 32 ∧ i = .int .i64 k ∧ Cols32 wr w.heap.size (fun j => if j < k then (Crc.Z32 (Crc.unit j)).toNat else 0) ∧ Below w.heap.size w wr) (fun i _ => 32 - (intOf i).toNat)
  case atStart => exact ⟨0, by omega, rfl, RowK.new w .u32 32 74 (fun _ => 0), ba (Below.refl _ _) _⟩
  case round =>
    obtain ⟨k, hk, rfl, hR, hB⟩ := hrel
    by_cases hlt : k < 32
    · have uk := U.out k hlt
      have cell := hR.cell hlt
      have fz := hR.frozen k
      have HB := Lib.hid hB
      obtain ⟨z, hz⟩ : ∃ z, (Crc.Z32 (Crc.unit k)).toNat = z := ⟨_, rfl⟩
      have NR := Lib.hid (show Cols32 (wr.setCell ⟨w.heap.size, k, none⟩ (.int .u32 (z : Nat))) w.heap.size (fun j => if j < k + 1 then (Crc.Z32 (Crc.unit j)).toNat else 0) from (hR.set k z).congr (fun j hj => by
        by_cases e : j = k
        · subst e; rw [if_pos rfl, if_pos (by omega), hz]
        · rw [if_neg e]
          by_cases g : j < k
          · rw [if_pos g, if_pos (by omega)]
          · rw [if_neg g, if_neg (by omega)]))
      have um : IntKind.u32.wrap ((2 : Int) ^ k) = ((Crc.unit k : BitVec 32).toNat : Int) := by
        rw [IntKind.wrap_u32', ← uk]
        have := (Crc.unit k : BitVec 32).isLt
        omega
      have um2 : (2 : Int) ^ k % 4294967296 = ((Crc.unit k : BitVec 32).toNat : Int) := by
        rw [← uk]
        have := (Crc.unit k : BitVec 32).isLt
        omega
      obtain ⟨y, hy⟩ : ∃ y, (Crc.unit k : BitVec 32) = y := ⟨_, rfl⟩
      rw [hy] at hz um um2
      have HZ := Lib.hid (show (Crc.it Crc.L32 8 y).toNat = z from hz)
      obtain ⟨Y, hY⟩ : ∃ Y, y.toNat = Y := ⟨_, rfl⟩
      rw [hY] at um um2
      have HY := Lib.hid hY
      have b1 : decide ((k : Int) < 32) = true := by simp; omega
      clear hR hB hz hy ZZ U uk hY
      go_wp2_with fail
      go_loop [7, 8] (fun x i => ∃ m : Nat, m ≤ 8 ∧ i = .int .i64 m ∧ x = .int .u32 ((Crc.it Crc.L32 m y).toNat : Nat)) (fun _ i => 8 - (intOf i).toNat)
      case atStart => exact ⟨0, Nat.zero_le _, rfl, by rw [← HY.out]; rfl⟩
      case round =>
        obtain ⟨m, hm, rfl, rfl⟩ := hrel
        by_cases hlt2 : m < 8
        · have e : Crc.L32 (Crc.it Crc.L32 m y) = Crc.it Crc.L32 (m + 1) y := rfl
          have C := Lib.hid (BT.out (Crc.it Crc.L32 m y))
          rw [zstep32, e] at C
          obtain ⟨x, hx⟩ : ∃ x, Crc.it Crc.L32 m y = x := ⟨_, rfl⟩
          obtain ⟨x', hx'⟩ : ∃ x, Crc.it Crc.L32 (m + 1) y = x := ⟨_, rfl⟩
          rw [hx, hx', show ((0 : Nat) : Int) = 0 from rfl] at C
          rw [hx]
          have HX' := Lib.hid hx'
          clear hx hx' e BT
          go_wp2_with fail
          (with_reducible refine (C.out _).mono ?_)
          rintro e w' ⟨rfl, rfl⟩
          go_wp2_with fail
          go_round
          case rel => exact ⟨m + 1, by omega, by go_num, by rw [HX'.out]⟩
          case measure => simp [intOf]; omega
        · obtain rfl : m = 8 := by omega
          rw [HZ.out]
          clear BT
          go_wp2_with fail
          go_roundw
          case rel => exact ⟨k + 1, by omega, by go_num, NR.out, HB.out.setCell (p := ⟨w.heap.size, k, none⟩) (Nat.le_refl _) _⟩
          case measure => simp [intOf]; omega
    · obtain rfl : k = 32 := by omega
      rw [show ((32 : Nat) : Int) = 32 from rfl]
      have HR1 := Lib.hid (show Cols32 wr w.heap.size (fun j => (Crc.Z32 (Crc.unit j)).toNat) from hR.congr (fun j hj => by rw [if_pos hj]))
      have HB1 := Lib.hid hB
      clear hR hB
      go_wp2_with fail
      go_loopw [0, 1] (fun x i wr => ∃ (B : BitVec 32 → BitVec 32) (q : Nat) (R : BitVec 32), Crc.Lin B ∧ q ≤ 1073741824 ∧ i = .int .i64 q ∧ x = .int .u32 (R.toNat : Nat) ∧ Cols32 wr w.heap.size (fun j => (B (Crc.unit j)).toNat) ∧ Crc.it B q R = Crc.it Crc.Z32 n r ∧ Below w.heap.size w wr) (fun _ i _ => (intOf i).toNat)
      case atStart => exact ⟨Crc.Z32, n, r, Crc.linZ32, hn, rfl, rfl, HR1.out, rfl, HB1.out⟩
      case round =>
        obtain ⟨B, q, R, hL, hq, rfl, rfl, hR, hI, hB⟩ := hrel
        have HR := Lib.hid hR
        have HB := Lib.hid hB
        have HL := Lib.hid hL
        have HL2 := Lib.hid (hL.comp hL)
        clear hR hB hL
        by_cases h0 : q = 0
        · subst h0
          have HI := Lib.hid (show R = _ from hI)
          clear hI
          go_wp2_with fail
          go_ret
          exact ⟨by rw [← HI.out]; rfl, HB.out⟩
        · have q0 : (0 : Int) < (q : Int) := by omega
          have st := Crc.it_half B q R
          obtain ⟨q', hq'⟩ : ∃ q', q / 2 = q' := ⟨_, rfl⟩
          rw [hq', hI] at st
          have d1 : (q : Int).tdiv 2 = (q' : Int) := by rw [Int.tdiv_eq_ediv_of_nonneg (by omega)]; omega
          have HQ := Lib.hid hq'
          have hq2 : q' ≤ 1073741824 := by omega
          by_cases g : q % 2 = 1
          · rw [if_pos g] at st
            have ST := Lib.hid st
            have d2 : (q : Int).tmod 2 = 1 := by rw [Int.tmod_eq_emod_of_nonneg (by omega)]; omega
            have TM := Lib.hid (fun w => rtimes32_any (fun j => B (Crc.unit j)) R w)
            rw [Crc.img_eq HL.out] at TM
            obtain ⟨BR, hBR⟩ : ∃ x, B R = x := ⟨_, rfl⟩
            rw [hBR] at TM ST
            clear hI st hBR hq' g
            go_wp2_with (refine wpList_load_row rfl 74 (.tmp 5) rfl w.heap.size rfl _ _ _ _ HR.out u32xW rfl (i32xW _) ?_)
            (with_reducible refine (TM.out _).mono ?_)
            rintro e w2 ⟨rfl, hB2⟩
            have HB2 := Lib.hid (bt HB.out hB2)
            have HR2 := Lib.hid (HR.out.below hB2)
            clear hB2
            go_wp2_with (rw [ZZ.out])
            go_loopw [10] (fun i w3 => ∃ k : Nat, k ≤ 32 ∧ i = .int .i64 k ∧ Cols32 w3 w.heap.size (fun j => (B (Crc.unit j)).toNat) ∧ Cols32 w3 w2.heap.size (fun j => if j < k then (B (B (Crc.unit j))).toNat else 0) ∧ Below w.heap.size w w3) (fun i _ => 32 - (intOf i).toNat)
            case atStart => exact ⟨0, by omega, rfl, HR2.out.alloc _, RowK.new w2 .u32 32 74 (fun _ => 0), ba HB2.out _⟩
            case round =>
              obtain ⟨k, hk, rfl, hR5, hR7, hB3⟩ := hrel
              have lb : w.heap.size < w2.heap.size := HR2.out.lt
              by_cases hlt2 : k < 32
              · have hc := Lib.hid (fun w => rtimes32_any (fun j => B (Crc.unit j)) (B (Crc.unit k)) w)
                rw [Crc.img_eq HL.out] at hc
                have R5 := Lib.hid hR5
                have R7 := Lib.hid hR7
                have HB3 := Lib.hid hB3
                clear hR5 hR7 hB3
                go_upto_region 18 with fail
                refine twice32 w.heap.size w2.heap.size k (fun j => B (Crc.unit j)) (B (B (Crc.unit k))) _ hc.out (by kernel_rfl) rfl rfl rfl rfl rfl rfl rfl rfl rfl rfl rfl rfl rfl hlt2 R5.out R7.out ?_
                intro w5 h5
                simp only [Act.put, List.setIfInBounds_toArray, List.set_cons_succ, List.set_cons_zero]
                have N5 := Lib.hid ((R5.out.below h5).setOther (c := w2.heap.size) (i := k) (by omega) (.int .u32 ((B (B (Crc.unit k))).toNat : Nat)))
                have N7 := Lib.hid (((R7.out.below h5).set k (B (B (Crc.unit k))).toNat).congr (g := fun j => if j < k + 1 then (B (B (Crc.unit j))).toNat else 0) (fun j hj => by
                  by_cases e : j = k
                  · subst e; rw [if_pos rfl, if_pos (by omega)]
                  · rw [if_neg e]
                    by_cases g : j < k
                    · rw [if_pos g, if_pos (by omega)]
                    · rw [if_neg g, if_neg (by omega)]))
                have NB := Lib.hid ((bt HB3.out h5).setCell (p := ⟨w2.heap.size, k, none⟩) (Nat.le_of_lt lb) (.int .u32 ((B (B (Crc.unit k))).toNat : Nat)))
                obtain ⟨vv, hvv⟩ : ∃ vv, (B (B (Crc.unit k))).toNat = vv := ⟨_, rfl⟩
                obtain ⟨w6, hw6⟩ : ∃ w6, w5.setCell ⟨w2.heap.size, k, none⟩ (.int .u32 ((B (B (Crc.unit k))).toNat : Nat)) = w6 := ⟨_, rfl⟩
                rw [hw6] at N5 N7 NB ⊢
                clear hw6 h5 hc R5 R7 HB3 ZZ
                go_wp2_with fail
                go_roundw
                case rel => exact ⟨k + 1, by omega, by go_num, N5.out, N7.out, NB.out⟩
                case measure => simp [intOf]; omega
              · obtain rfl : k = 32 := by omega
                rw [show ((32 : Nat) : Int) = 32 from rfl]
                have R5 := Lib.hid hR5
                have R7 := Lib.hid (show Cols32 wr w2.heap.size (fun j => (B (B (Crc.unit j))).toNat) from hR7.congr (fun j hj => by rw [if_pos hj]))
                have HB3 := Lib.hid hB3
                clear hR5 hR7 hB3 ZZ
                go_wp2_with (first
                  | (refine wpList_load_row rfl 74 (.tmp 9) rfl w2.heap.size rfl _ _ _ _ R7.out u32xW rfl (i32xW _) ?_)
                  | (refine wpList_store_row rfl 74 (.tmp 5) (.tmp 46) rfl w.heap.size (arrK .u32 32 (fun j => (B (B (Crc.unit j))).toNat)) rfl rfl _ _ R5.out (i32xW _) (by rw [arrK_size, arrK_size]) (arrK_one _ _ _) ?_))
                go_roundw
                case rel => exact ⟨_, q', BR, HL2.out, by omega, rfl, rfl, setRow_heap _ _ _ _ _ _ R5.out, ST.out, below_setRow HB3.out (Nat.le_refl _) _⟩
                case measure => have := HQ.out; simp [intOf]; omega
          · rw [if_neg g] at st
            have ST := Lib.hid st
            have d2 : (q : Int).tmod 2 = 0 := by rw [Int.tmod_eq_emod_of_nonneg (by omega)]; omega
            clear hI st hq' g
            obtain ⟨w2, rfl⟩ : ∃ w2, w2 = wr := ⟨_, rfl⟩
            go_wp2_with (rw [ZZ.out])
            go_loopw [10] (fun i w3 => ∃ k : Nat, k ≤ 32 ∧ i = .int .i64 k ∧ Cols32 w3 w.heap.size (fun j => (B (Crc.unit j)).toNat) ∧ Cols32 w3 w2.heap.size (fun j => if j < k then (B (B (Crc.unit j))).toNat else 0) ∧ Below w.heap.size w w3) (fun i _ => 32 - (intOf i).toNat)
            case atStart => exact ⟨0, by omega, rfl, HR.out.alloc _, RowK.new w2 .u32 32 74 (fun _ => 0), ba HB.out _⟩
            case round =>
              obtain ⟨k, hk, rfl, hR5, hR7, hB3⟩ := hrel
              have lb : w.heap.size < w2.heap.size := HR.out.lt
              by_cases hlt2 : k < 32
              · have hc := Lib.hid (fun w => rtimes32_any (fun j => B (Crc.unit j)) (B (Crc.unit k)) w)
                rw [Crc.img_eq HL.out] at hc
                have R5 := Lib.hid hR5
                have R7 := Lib.hid hR7
                have HB3 := Lib.hid hB3
                clear hR5 hR7 hB3
                go_upto_region 18 with fail
                refine twice32 w.heap.size w2.heap.size k (fun j => B (Crc.unit j)) (B (B (Crc.unit k))) _ hc.out (by kernel_rfl) rfl rfl rfl rfl rfl rfl rfl rfl rfl rfl rfl rfl rfl hlt2 R5.out R7.out ?_
                intro w5 h5
                simp only [Act.put, List.setIfInBounds_toArray, List.set_cons_succ, List.set_cons_zero]
                have N5 := Lib.hid ((R5.out.below h5).setOther (c := w2.heap.size) (i := k) (by omega) (.int .u32 ((B (B (Crc.unit k))).toNat : Nat)))
                have N7 := Lib.hid (((R7.out.below h5).set k (B (B (Crc.unit k))).toNat).congr (g := fun j => if j < k + 1 then (B (B (Crc.unit j))).toNat else 0) (fun j hj => by
                  by_cases e : j = k
                  · subst e; rw [if_pos rfl, if_pos (by omega)]
                  · rw [if_neg e]
                    by_cases g : j < k
                    · rw [if_pos g, if_pos (by omega)]
                    · rw [if_neg g, if_neg (by omega)]))
                have NB := Lib.hid ((bt HB3.out h5).setCell (p := ⟨w2.heap.size, k, none⟩) (Nat.le_of_lt lb) (.int .u32 ((B (B (Crc.unit k))).toNat : Nat)))
                obtain ⟨vv, hvv⟩ : ∃ vv, (B (B (Crc.unit k))).toNat = vv := ⟨_, rfl⟩
                obtain ⟨w6, hw6⟩ : ∃ w6, w5.setCell ⟨w2.heap.size, k, none⟩ (.int .u32 ((B (B (Crc.unit k))).toNat : Nat)) = w6 := ⟨_, rfl⟩
                rw [hw6] at N5 N7 NB ⊢
                clear hw6 h5 hc R5 R7 HB3 ZZ
                go_wp2_with fail
                go_roundw
                case rel => exact ⟨k + 1, by omega, by go_num, N5.out, N7.out, NB.out⟩
                case measure => simp [intOf]; omega
              · obtain rfl : k = 32 := by omega
                rw [show ((32 : Nat) : Int) = 32 from rfl]
                have R5 := Lib.hid hR5
                have R7 := Lib.hid (show Cols32 wr w2.heap.size (fun j => (B (B (Crc.unit j))).toNat) from hR7.congr (fun j hj => by rw [if_pos hj]))
                have HB3 := Lib.hid hB3
                clear hR5 hR7 hB3 ZZ
                go_wp2_with (first
                  | (refine wpList_load_row rfl 74 (.tmp 9) rfl w2.heap.size rfl _ _ _ _ R7.out u32xW rfl (i32xW _) ?_)
                  | (refine wpList_store_row rfl 74 (.tmp 5) (.tmp 46) rfl w.heap.size (arrK .u32 32 (fun j => (B (B (Crc.unit j))).toNat)) rfl rfl _ _ R5.out (i32xW _) (by rw [arrK_size, arrK_size]) (arrK_one _ _ _) ?_))
                go_roundw
                case rel => exact ⟨_, q', R, HL2.out, by omega, rfl, rfl, setRow_heap _ _ _ _ _ _ R5.out, ST.out, below_setRow HB3.out (Nat.le_refl _) _⟩
                case measure => have := HQ.out; simp [intOf]; omega
set_option maxHeartbeats 1000000 in
theorem rjoin16_any (x y : BitVec 16) (n : Int) (w : World) :
    Calls Try.prog 19 #[.int .u16 (x.toNat : Nat), .int .u16 (y.toNat : Nat), .int .i64 n] w fun e w' => e = .returned (.tuple #[.int .u16 ((Crc.joinV16 x y n).toNat : Nat), .int .i64 (Crc.joinE n)]) ∧ Below w.heap.size w w' := by
  have B := Lib.hid (Below.refl w.heap.size w)
  by_cases h0 : n < 0
  · have e1 : Crc.joinE n = 2 := if_neg (by omega)
    have e2 : Crc.joinV16 x y n = 0#16 := if_neg (by omega)
    rw [e1, e2]
    clear e1 e2
    go_enter Try.func19, Try.ntmps19
    go_wp2_with fail
    go_ret2
    exact ⟨rfl, B.out⟩
  by_cases h1 : 1073741824 < n
  · have e1 : Crc.joinE n = 2 := if_neg (by omega)
    have e2 : Crc.joinV16 x y n = 0#16 := if_neg (by omega)
    rw [e1, e2]
    have t0 : decide (n < 0) = false := by simpa using h0
    have t1 : decide (1073741824 < n) = true := by simpa using h1
    clear e1 e2
    go_enter Try.func19, Try.ntmps19
    go_wp2_with fail
    go_ret2
    exact ⟨rfl, B.out⟩
  · have h : 0 ≤ n ∧ n ≤ 1073741824 := by omega
    have e1 : Crc.joinE n = 0 := if_pos h
    have e2 : Crc.joinV16 x y n = Crc.join16 x y n.toNat := if_pos h
    rw [e1, e2]
    obtain ⟨m, rfl⟩ : ∃ m : Nat, n = (m : Int) := ⟨n.toNat, by omega⟩
    rw [Int.toNat_natCast] at e2 ⊢
    have t0 : decide ((m : Int) < 0) = false := by simp
    have t1 : decide ((1073741824 : Int) < (m : Int)) = false := by simp; omega
    have t2 : ¬ (1073741824 : Int) < (m : Int) := h1
    have Z := Lib.hid (fun w => rzeros16_any (x ^^^ 0xffff#16) m (by omega) w)
    have ex := xor16 x 0xffff#16
    rw [show ((0xffff#16).toNat : Int) = 65535 from rfl] at ex
    have ey := xor16 y (Crc.it Crc.Z16 m (x ^^^ 0xffff#16))
    rw [show y ^^^ Crc.it Crc.Z16 m (x ^^^ 0xffff#16) = Crc.join16 x y m from rfl] at ey
    obtain ⟨x2, hx2⟩ : ∃ q, x ^^^ 0xffff#16 = q := ⟨_, rfl⟩
    rw [hx2] at ex ey Z
    obtain ⟨z, hz⟩ : ∃ q, Crc.it Crc.Z16 m x2 = q := ⟨_, rfl⟩
    obtain ⟨v, hv⟩ : ∃ q, Crc.join16 x y m = q := ⟨_, rfl⟩
    rw [hz] at Z ey
    rw [hv] at ey ⊢
    clear e1 e2 hx2 hz hv h h0 h1
    go_enter Try.func19, Try.ntmps19
    go_wp2_with fail
    (with_reducible refine (Z.out _).mono ?_)
    rintro e w1 ⟨rfl, hB⟩
    have HB := Lib.hid hB
    clear hB
    go_wp2_with fail
    go_ret2
    exact ⟨rfl, HB.out⟩
set_option maxHeartbeats 1000000 in
theorem rjoin32_any (x y : BitVec 32) (n : Int) (w : World) :
    Calls Try.prog 21 #[.int .u32 (x.toNat : Nat), .int .u32 (y.toNat : Nat), .int .i64 n] w fun e w' => e = .returned (.tuple #[.int .u32 ((Crc.joinV32 x y n).toNat : Nat), .int .i64 (Crc.joinE n)]) ∧ Below w.heap.size w w' := by
  have B := Lib.hid (Below.refl w.heap.size w)
  by_cases h0 : n < 0
  · have e1 : Crc.joinE n = 2 := if_neg (by omega)
    have e2 : Crc.joinV32 x y n = 0#32 := if_neg (by omega)
    rw [e1, e2]
    clear e1 e2
    go_enter Try.func21, Try.ntmps21
    go_wp2_with fail
    go_ret2
    exact ⟨rfl, B.out⟩
  by_cases h1 : 1073741824 < n
  · have e1 : Crc.joinE n = 2 := if_neg (by omega)
    have e2 : Crc.joinV32 x y n = 0#32 := if_neg (by omega)
    rw [e1, e2]
    have t0 : decide (n < 0) = false := by simpa using h0
    have t1 : decide (1073741824 < n) = true := by simpa using h1
    clear e1 e2
    go_enter Try.func21, Try.ntmps21
    go_wp2_with fail
    go_ret2
    exact ⟨rfl, B.out⟩
  · have h : 0 ≤ n ∧ n ≤ 1073741824 := by omega
    have e1 : Crc.joinE n = 0 := if_pos h
    have e2 : Crc.joinV32 x y n = Crc.join32 x y n.toNat := if_pos h
    rw [e1, e2]
    obtain ⟨m, rfl⟩ : ∃ m : Nat, n = (m : Int) := ⟨n.toNat, by omega⟩
    rw [Int.toNat_natCast] at e2 ⊢
    have t0 : decide ((m : Int) < 0) = false := by simp
    have t1 : decide ((1073741824 : Int) < (m : Int)) = false := by simp; omega
    have t2 : ¬ (1073741824 : Int) < (m : Int) := h1
    have Z := Lib.hid (fun w => rzeros32_any x m (by omega) w)
    have ey := xor32 y (Crc.it Crc.Z32 m x)
    rw [show y ^^^ Crc.it Crc.Z32 m x = Crc.join32 x y m from rfl] at ey
    obtain ⟨x2, hx2⟩ : ∃ q, x = q := ⟨_, rfl⟩
    obtain ⟨z, hz⟩ : ∃ q, Crc.it Crc.Z32 m x = q := ⟨_, rfl⟩
    obtain ⟨v, hv⟩ : ∃ q, Crc.join32 x y m = q := ⟨_, rfl⟩
    rw [hz] at Z ey
    rw [hv] at ey ⊢
    clear e1 e2 hx2 hz hv h h0 h1
    go_enter Try.func21, Try.ntmps21
    go_wp2_with fail
    (with_reducible refine (Z.out _).mono ?_)
    rintro e w1 ⟨rfl, hB⟩
    have HB := Lib.hid hB
    clear hB
    go_wp2_with fail
    go_ret2
    exact ⟨rfl, HB.out⟩
end Go.Proofs.Ytkgnhdggfeiheaa
