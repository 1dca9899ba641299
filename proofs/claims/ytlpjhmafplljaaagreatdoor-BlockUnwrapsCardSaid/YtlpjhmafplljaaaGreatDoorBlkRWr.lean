/- The contracts of perigeeref05's Encode (the refusal) and Wrap over this program. -/
import Derived.Test.YtlpjhmafplljaaaGreatDoorPkQ
namespace Go.Proofs.YtlpjhmafplljaaaGreatDoor
open Go.RowKit
set_option linter.unusedVariables false

theorem rencode_bad (d : ByteArray) (h : ¬ (1 ≤ d.size ∧ d.size ≤ 223)) (hs : d.size ≤ 400000) (w : World) :
    Calls Tryz.prog 8 #[.string d] w fun e w' => e = .returned (.tuple #[.string ⟨#[]⟩, .int .i64 2]) ∧ w = w' := by
  by_cases g : d.size < 1
  · clear h
    go_enter Tryz.func8, Tryz.ntmps8
    go_wp2_with fail
    go_ret2
    exact ⟨rfl, rfl⟩
  · have g2 : 223 < d.size := by omega
    clear h
    go_enter Tryz.func8, Tryz.ntmps8
    go_wp2_with fail
    go_ret2
    exact ⟨rfl, rfl⟩
theorem rwrap_bad (s : ByteArray) (z : Int) (hz : (Lit.int .i64 z).wf = true) (hs : s.size ≤ 400000) (h : ¬ (1 ≤ z ∧ z ≤ 4 ∧ z ≤ s.size ∧ (s.size : Int) ≤ 223 * z)) (w : World) :
    Calls Tryz.prog 10 #[.string s, .int .i64 z] w fun e w' => e = .returned (.tuple #[.string ⟨#[]⟩, .int .i64 2]) ∧ w = w' := by
  by_cases g1 : z < 1
  · clear h
    go_enter Tryz.func10, Tryz.ntmps10
    go_wp2_with fail
    go_ret2
    exact ⟨rfl, rfl⟩
  by_cases g2 : 4 < z
  · clear h
    go_enter Tryz.func10, Tryz.ntmps10
    go_wp2_with fail
    go_ret2
    exact ⟨rfl, rfl⟩
  by_cases g3 : (s.size : Int) < z
  · clear h
    go_enter Tryz.func10, Tryz.ntmps10
    go_wp2_with fail
    go_ret2
    exact ⟨rfl, rfl⟩
  · have m1 : IntKind.i64.wrap (223 * z) = 223 * z := by rw [IntKind.wrap_i64]; omega
    have g4 : 223 * z < (s.size : Int) := by omega
    clear h
    go_enter Tryz.func10, Tryz.ntmps10
    go_wp2_with fail
    go_ret2
    exact ⟨rfl, rfl⟩
theorem parts_223 {n j z : Nat} (hj : j < z) (h2 : n ≤ 223 * z) : Blk.parts n j z ≤ 223 := by
  apply Nat.le_of_not_lt
  intro h
  have := (Blk.parts_iff n j z 223 hj).2 h
  omega
/-- Strings as values. -/
def svl (g : Nat → ByteArray) (j : Nat) : List Value := (List.range j).map (fun i => .string (g i))
theorem svl_succ (g : Nat → ByteArray) (j : Nat) : svl g (j + 1) = svl g j ++ [.string (g j)] := by unfold svl; rw [List.range_succ, List.map_append]; rfl
theorem svl_at (g : Nat → ByteArray) {n j : Nat} (h : j < n) : (svl g n)[j]? = some (.string (g j)) := by simp [svl, h]
theorem info_str : (Tryz.prog.info? 9).map (fun i => (i.zero, i.size, i.bytes)) = some (some (.string ⟨#[]⟩), 1, 16) := by kernel_rfl
theorem enc_cut (l : List UInt8) (m : Nat) (hm : l.length = m) : (⟨(Blk.enc l).toArray⟩ : ByteArray).extract m (m + 8) = ⟨(Gal.coefs (Blk.rem l) 8).reverse.toArray⟩ := by
  apply ByteArray.ext
  rw [ByteArray.data_extract]
  apply Array.toList_inj.1
  rw [Array.toList_extract]
  show List.extract (Blk.enc l) m (m + 8) = _
  unfold Blk.enc
  rw [List.extract_eq_take_drop, ← hm, List.drop_left, Nat.add_sub_cancel_left, List.take_of_length_le (by rw [List.length_reverse, Gal.coefs_length]; exact Nat.le_refl _)]
/-- The interleaved string up to its k-th parity byte. -/
def wpre (s : ByteArray) (z k : Nat) : ByteArray := s ++ ⟨(Gal.coefs (Blk.wrp s.data.toList z z) k).toArray⟩
theorem wpre_zero (s : ByteArray) (z : Nat) : wpre s z 0 = s := by
  apply ByteArray.ext
  unfold wpre
  rw [ByteArray.data_append]
  show s.data ++ #[] = s.data
  simp
theorem wpre_size (s : ByteArray) (z k : Nat) : (wpre s z k).size = s.size + k := by
  have h := sz (Gal.coefs (Blk.wrp s.data.toList z z) k)
  rw [Gal.coefs_length] at h
  unfold wpre
  rw [ByteArray.size_append, h]
theorem wpre_succ (s : ByteArray) (z p j : Nat) (hj : j < z) (hp : p < 8) : wpre s z (p * z + j) ++ (⟨(Blk.wpar s.data.toList z j).toArray⟩ : ByteArray).extract p (p + 1) = wpre s z (p * z + j + 1) := by
  apply ByteArray.ext
  have e1 : Blk.wrp s.data.toList z z (p * z + j) = Gal.co (Blk.wpar s.data.toList z j) p := by
    unfold Blk.wrp
    rw [Nat.mul_comm p z, Nat.mul_add_mod, Nat.mod_eq_of_lt hj, if_pos hj, Nat.mul_add_div (by omega), Nat.div_eq_of_lt hj, Nat.add_zero]
  have e2 : ((⟨(Blk.wpar s.data.toList z j).toArray⟩ : ByteArray).extract p (p + 1)).data = #[UInt8.ofBitVec (Gal.co (Blk.wpar s.data.toList z j) p)] := by
    rw [ByteArray.data_extract]
    apply Array.toList_inj.1
    rw [Array.toList_extract]
    show List.extract (Blk.wpar s.data.toList z j) p (p + 1) = [_]
    have hl : p < (Blk.wpar s.data.toList z j).length := by rw [Blk.wpar_length]; exact hp
    rw [List.extract_eq_take_drop, Nat.add_sub_cancel_left, List.drop_eq_getElem_cons hl, List.take_succ_cons, List.take_zero]
    unfold Gal.co
    rw [List.getD_eq_getElem?_getD, List.getElem?_eq_getElem hl]
    rfl
  unfold wpre
  rw [ByteArray.data_append, ByteArray.data_append, ByteArray.data_append, e2, ← e1, Array.append_assoc]
  congr 1
  unfold Gal.coefs
  rw [List.range_succ, List.map_append]
  simp
set_option maxRecDepth 100000 in
set_option maxHeartbeats 1000000 in
theorem rwrap_any (s : ByteArray) (n z : Nat) (hn : s.size = n) (h1 : 1 ≤ z) (h4 : z ≤ 4) (hz : z ≤ n) (h2 : n ≤ 223 * z) (w : World) :
    Calls Tryz.prog 10 #[.string s, .int .i64 (z : Nat)] w fun e w' => e = .returned (.tuple #[.string ⟨(Blk.wrap s.data.toList z).toArray⟩, .int .i64 0]) ∧ Below w.heap.size w w' := by
  have PLEN := Lib.hid (fun j => (show (Blk.part s.data.toList j z).length = Blk.parts n j z by rw [Blk.part_length, ls, hn]))
  have PA := Lib.hid (fun j (hj : j < z) w => part_any s j z hj (by omega) (by omega) w)
  have EN := Lib.hid (fun j (hj : j < z) w => rencode_any ⟨(Blk.part s.data.toList j z).toArray⟩ (by rw [sz, PLEN.out]; have := parts_pos hj hz; omega) (by rw [sz, PLEN.out]; exact parts_223 hj h2) w)
  have HG := Lib.hid (fun j => enc_cut (Blk.part s.data.toList j z) _ (PLEN.out j))
  have P2 := Lib.hid (fun j (hj : j < z) => parts_223 hj h2)
  have W0 := Lib.hid (wpre_zero s z)
  have WS := Lib.hid (fun p j hj hp => wpre_succ s z p j hj hp)
  have WE := Lib.hid (wrap_str s z)
  have HGS := Lib.hid (fun j => (show (⟨(Blk.wpar s.data.toList z j).toArray⟩ : ByteArray).size = 8 by rw [sz, Blk.wpar_length]))
  obtain ⟨g, hg⟩ : ∃ g : Nat → ByteArray, (fun j => (⟨(Blk.wpar s.data.toList z j).toArray⟩ : ByteArray)) = g := ⟨_, rfl⟩
  have GE := Lib.hid (fun j => (show (⟨(Blk.wpar s.data.toList z j).toArray⟩ : ByteArray) = g j from congrFun hg j))
  have GS := Lib.hid (fun j => (show (g j).size = 8 by rw [← GE.out]; exact HGS.out j))
  have HX := Lib.hid (fun p j hj hp => (show wpre s z (p * z + j) ++ (g j).extract p (p + 1) = wpre s z (p * z + j + 1) by rw [← GE.out]; exact WS.out p j hj hp))
  have CX := Lib.hid (fun j => (show (⟨(Blk.enc (Blk.part s.data.toList j z)).toArray⟩ : ByteArray).extract (Blk.parts n j z) (Blk.parts n j z + 8) = g j by rw [← GE.out]; exact HG.out j))
  have ES := Lib.hid (fun j => (show (⟨(Blk.enc (Blk.part s.data.toList j z)).toArray⟩ : ByteArray).size = Blk.parts n j z + 8 by rw [sz, Blk.enc_length, PLEN.out]))
  have HN := Lib.hid hn
  have sn := hn
  have m1 : IntKind.i64.wrap (223 * (z : Int)) = 223 * (z : Int) := by rw [IntKind.wrap_i64]; omega
  have q1 : ¬ (z : Int) < 1 := by omega
  have q2 : ¬ (4 : Int) < (z : Int) := by omega
  have q3 : ¬ (n : Int) < (z : Int) := by omega
  have q4 : ¬ 223 * (z : Int) < (n : Int) := by omega
  clear hn hg PLEN HG WS HGS GE
  go_enter Tryz.func10, Tryz.ntmps10
  go_wp2_with fail
  go_loopw [6, 7] (fun o u wr => ∃ j : Nat, j ≤ z ∧ u = .int .i64 (j : Nat) ∧ wr.ownsRow w.heap.size 9 1 o j (svl g j) ∧ Below w.heap.size w wr) (fun _ u _ => z - (intOf u).toNat)
  case atStart => exact ⟨0, Nat.zero_le _, rfl, World.ownsRow_nil _ _ _ _, Below.refl _ _⟩
  case round =>
    obtain ⟨j, hj, rfl, hown, hB⟩ := hrel
    have HO := Lib.hid hown
    have HB := Lib.hid hB
    clear hown hB
    rename World => w1
    by_cases hlt : j < z
    · have PA1 := Lib.hid (PA.out j hlt w1)
      have EN1 := Lib.hid (fun w => EN.out j hlt w)
      have cx := CX.out j
      have es := ES.out j
      have m2 := P2.out j hlt
      obtain ⟨m, hm⟩ : ∃ m, Blk.parts n j z = m := ⟨_, rfl⟩
      rw [hm] at cx es m2
      obtain ⟨ps, hps⟩ : ∃ t : ByteArray, (⟨(Blk.part s.data.toList j z).toArray⟩ : ByteArray) = t := ⟨_, rfl⟩
      rw [hps] at PA1
      have EN2 := Lib.hid (fun w => (show Calls Tryz.prog 8 #[.string ps] w fun e w' => e = .returned (.tuple #[.string ⟨(Blk.enc (Blk.part s.data.toList j z)).toArray⟩, .int .i64 0]) ∧ Below w.heap.size w w' by rw [← hps]; exact EN1.out w))
      obtain ⟨et, het⟩ : ∃ t : ByteArray, (⟨(Blk.enc (Blk.part s.data.toList j z)).toArray⟩ : ByteArray) = t := ⟨_, rfl⟩
      rw [het] at EN2 cx es
      have CC := Lib.hid cx
      have SV := Lib.hid (svl_succ g j)
      obtain ⟨i0, hi0, hz0, hz1, hz2⟩ := info_parts info_str
      clear hm hps het EN1 PA EN CX ES P2 cx
      go_wp2_with fail
      (with_reducible refine PA1.out.mono ?_)
      rintro e w2 ⟨rfl, h2'⟩
      have HO2 := Lib.hid (own_below HO.out h2')
      have HB2 := Lib.hid (bt HB.out h2')
      clear h2' PA1
      go_wp2_with fail
      (with_reducible refine (EN2.out _).mono ?_)
      rintro e w3 ⟨rfl, h3⟩
      have HO3 := Lib.hid (own_below HO2.out h3)
      have HB3 := Lib.hid (bt HB2.out h3)
      clear h3 EN2
      have mi : IntKind.i64.wrap (((m + 8 : Nat) : Int) - 8) = (m : Int) := by rw [IntKind.wrap_i64]; omega
      have B1 := Lib.hid (HB3.out.alloc HB3.out.size (.cells #[.string (et.extract m (m + 8))] 9))
      go_wp2_with (at_builtin; refine wpList_append_own _ rfl _ _ 48 rfl w.heap.size 9 i0 (.string ⟨#[]⟩) 1 16 Tryz.underlying48 hi0 hz0 hz1 hz2 rfl (by decide) _ _ _ rfl (HO3.out.alloc _) ⟨w3.heap.size, 0, none⟩ 1 1 [.string (et.extract m (m + 8))] rfl rfl cell_one (by simp [Value.oneCell']) (by unfold maxLen; omega) (by omega) B1.out.size ?_; intro v' w4 hown2 hgrow _; obtain ⟨g', cap', rfl⟩ := ownsRow_succ hown2; have HO4 := Lib.hid hown2; have BW4 := Lib.hid (B1.out.grown hgrow B1.out.size (fun k e => own_block_ge HO3.out e)); clear hown2 hgrow)
      go_roundw
      case rel => exact ⟨j + 1, by omega, by go_num, by rw [SV.out, ← CC.out]; exact HO4.out, BW4.out⟩
      case measure => simp [intOf]; omega
    · obtain rfl : j = z := by omega
      obtain ⟨gb, gc, rfl⟩ := own_slice HO.out h1
      have OA := Lib.hid (fun i (hi : i < j) => ((own_at HO.out).2.2.2 i (.string (g i)) (svl_at g hi)).1)
      obtain ⟨F, hF⟩ : ∃ F, wpre s j = F := ⟨_, rfl⟩
      rw [hF] at W0 HX
      have FS := Lib.hid (fun p i (hp : p ≤ 8) (hi : i ≤ j) => (show (F (p * j + i)).size ≤ 1000 by
        rw [← hF, wpre_size, HN.out]
        have : p * j ≤ 8 * 4 := Nat.mul_le_mul hp h4
        omega))
      have WE2 := Lib.hid (show F (8 * j) = ⟨(Blk.wrap s.data.toList j).toArray⟩ by rw [← hF]; exact WE.out)
      have GH := Lib.hid GS.out
      clear hF WE HO PA EN CX ES P2 GS hlt
      go_wp2_with fail
      go_loopw [10, 11] (fun o u wr => ∃ p : Nat, p ≤ 8 ∧ u = .int .i64 (p : Nat) ∧ o = .string (F (p * j)) ∧ wr = w1) (fun _ u _ => 8 - (intOf u).toNat)
      case atStart => exact ⟨0, Nat.zero_le _, rfl, by rw [Nat.zero_mul, W0.out], by first | rfl | trivial⟩
      case round =>
        obtain ⟨p, hp, rfl, rfl, rfl⟩ := hrel
        by_cases p8 : p < 8
        · have d8 : decide ((p : Int) < 8) = true := by simp; omega
          have FP := Lib.hid (show F (p * j) = F (p * j + 0) from rfl)
          have FQ := Lib.hid (show F (p * j + j) = F ((p + 1) * j) by rw [Nat.succ_mul])
          obtain ⟨y, hy⟩ : ∃ y, F (p * j) = y := ⟨_, rfl⟩
          have HY := Lib.hid hy
          rw [hy]
          clear hy
          go_wp2_with fail
          go_loopw [10, 12] (fun o u wi => ∃ i : Nat, i ≤ j ∧ u = .int .i64 (i : Nat) ∧ o = .string (F (p * j + i)) ∧ wi = wr) (fun _ u _ => j - (intOf u).toNat)
          case atStart => exact ⟨0, Nat.zero_le _, rfl, by rw [← HY.out]; rfl, by first | rfl | trivial⟩
          case round =>
            obtain ⟨i, hi, rfl, rfl, rfl⟩ := hrel
            by_cases hij : i < j
            · have hx := HX.out p i hij p8
              have gs := GH.out i
              have sy := FS.out p i (by omega) (by omega)
              have oa := OA.out i hij
              obtain ⟨y2, hy2⟩ : ∃ y, F (p * j + i) = y := ⟨_, rfl⟩
              obtain ⟨x2, hx2⟩ : ∃ y, g i = y := ⟨_, rfl⟩
              rw [hy2, hx2] at hx
              rw [hy2] at sy
              rw [hx2] at gs oa
              rw [hy2]
              obtain ⟨p', hp'⟩ : ∃ p', p + 1 = p' := ⟨_, rfl⟩
              rw [hp'] at hx
              have pe : (p : Int) + 1 = (p' : Int) := by omega
              have p9 : p ≤ p' := by omega
              have p10 : p' ≤ 8 := by omega
              have HXX := Lib.hid hx
              have SC := Lib.hid (run_slice_string (P := Tryz.prog) (w := wr) 9 x2 .i64 .i64 (p : Nat) (p' : Nat) Tryz.underlying9 (by omega) (by omega) (by omega))
              rw [show ((p : Nat) : Int).toNat = p from rfl, show ((p' : Nat) : Int).toNat = p' from rfl] at SC
              clear hx hy2 hx2 hp'
              go_wp2_with (simp only [SC.out])
              go_roundw
              case rel => exact ⟨i + 1, by omega, by go_num, by rw [← Nat.add_assoc, ← HXX.out], by first | rfl | trivial⟩
              case measure => simp [intOf]; omega
            · obtain rfl : i = j := by omega
              have fq := FQ.out
              obtain ⟨y2, hy2⟩ : ∃ y, F (p * i + i) = y := ⟨_, rfl⟩
              rw [hy2] at fq
              rw [hy2]
              have HF := Lib.hid fq
              clear hy2 fq
              go_wp2_with fail
              go_roundw
              case rel => exact ⟨p + 1, by omega, by go_num, by rw [HF.out], by first | rfl | trivial⟩
              case measure => simp [intOf]; omega
        · obtain rfl : p = 8 := by omega
          rw [WE2.out]
          obtain ⟨y, hy⟩ : ∃ y : ByteArray, (⟨(Blk.wrap s.data.toList j).toArray⟩ : ByteArray) = y := ⟨_, rfl⟩
          rw [hy]
          have HY := Lib.hid hy
          clear hy WE2 HX W0 OA
          go_wp2_with fail
          go_ret2
          exact ⟨by rw [HY.out]; rfl, HB.out⟩
end Go.Proofs.YtlpjhmafplljaaaGreatDoor
