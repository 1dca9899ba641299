/- TpShown -/
import Derived.Test.YtgcjfiablcjfgaaTpShR
import Derived.Test.YtgcjfiablcjfgaaRegHF
/- Layer 10's laws: shown is true. -/
namespace Go.Proofs.Ytgcjfiablcjfgaa
open Go.RowKit
set_option linter.unusedVariables false
set_option maxRecDepth 100000

theorem eqlF_not (O : Addr) (w : World) : (binOp .eql 34 (.pointer (some O)) (.pointer none)).run Try.prog w = .ok (.bool false) w := by
  have h : ∀ d : Nat, (Op.equalIn (d + 1) 34 (.pointer (some O)) (.pointer none)).run Try.prog w = .ok false w := fun d => by
    simp [Op.equalIn, run_underlying Try.underlying34]
  simp only [binOp]
  simp [Op.equal, Op.maxDepth, h 9999]
theorem eqlF_nil (w : World) : (binOp .eql 34 (.pointer none) (.pointer none)).run Try.prog w = .ok (.bool true) w := by
  have h : ∀ d : Nat, (Op.equalIn (d + 1) 34 (.pointer none) (.pointer none)).run Try.prog w = .ok true w := fun d => by
    simp [Op.equalIn, run_underlying Try.underlying34]
  simp only [binOp]
  simp [Op.equal, Op.maxDepth, h 9999]
/-- The frame that shown puts. -/
def shF : Tmf := ⟨1, 2, 3, 4, 5, zs 32, 0⟩
theorem shF_ok : Tm.Ok shF := by
  have h : (zs 32).size = 32 := zs_size 32
  refine ⟨⟨⟨by show (0 : Int) ≤ 1; decide, by show (1 : Int) ≤ 255; decide⟩, ⟨by show (0 : Int) ≤ 3; decide, by show (3 : Int) ≤ 255; decide⟩, ⟨by show (0 : Int) ≤ 4; decide, by show (4 : Int) ≤ 255; decide⟩, ⟨by show (0 : Int) ≤ 2; decide, by show (2 : Int) ≤ 7; decide⟩, ?_, ?_⟩, .inl ⟨by show (0 : Int) ≤ 5; decide, ?_⟩⟩
  · show 32 ≤ (zs 32).size
    omega
  · show (zs 32).size ≤ 200
    omega
  · show (5 : Int) < ((zs 32).size : Int)
    omega
theorem shF_len : (Tm.enc shF).length = 44 := by
  rw [Tm.enc_len]
  show (zs 32).size + 12 = 44
  rw [zs_size]
theorem shF_six : (Tm.enc shF).take 6 = [0, 80, 3, 4, 0, 5] := by
  rw [Tm.enc_flat]
  rfl
theorem sh_get : Tm.get (Fld.zeros 44) = (tm0, 100) := by
  have h : ¬ (Tm.num (Fld.zeros 44) 42 = (Crc.sum16 ((Fld.zeros 44).take 42)).toNat) := by decide +kernel
  unfold Tm.get
  rw [if_neg (by decide), if_pos (show Tm.num (Fld.zeros 44) ((Fld.zeros 44).length - 2) ≠ (Crc.sum16 ((Fld.zeros 44).take ((Fld.zeros 44).length - 2))).toNat from h)]
theorem bs_extract (l : List UInt8) (i j : Nat) (h : i ≤ j) : (bs l).extract i j = bs ((l.take j).drop i) := by
  apply ByteArray.ext
  apply Array.toList_inj.1
  rw [ext_list _ _ _ h, bs_list, bs_list]
theorem beq_same (s : ByteArray) : (s == s) = true := by
  show (s.data == s.data) = true
  simp
set_option maxHeartbeats 16000000 in
theorem tshown_any (w : World) : Calls Try.prog 9 #[] w fun e w' => e = .returned (.bool true) ∧ Below w.heap.size w w' := by
  have F32 := Lib.hid (fun w => lfilled_any 32 (by omega) w)
  have F44 := Lib.hid (fun w => lfilled_any 44 (by omega) w)
  have PU := Lib.hid (fun w => tput_any shF (by show (zs 32).size ≤ _; rw [zs_size]; omega) (by decide) w)
  rw [if_pos shF_ok] at PU
  unfold shF tmVal at PU
  simp only at PU
  rw [show (⟨1, 2, 3, 4, 5, zs 32, 0⟩ : Tmf) = shF from rfl] at PU
  have GE := Lib.hid (fun w => tget_any (zs 44) (by rw [zs_size]; omega) w)
  rw [show (zs 44).data.toList = Fld.zeros 44 from rfl, sh_get] at GE
  obtain ⟨E, hE⟩ : ∃ E, bs (Tm.enc shF) = E := ⟨_, rfl⟩
  have El : E.size = 44 := by rw [← hE, bs_size, shF_len]
  have E6 : E.extract 0 6 = ⟨#[0, 80, 3, 4, 0, 5]⟩ := by rw [← hE, bs_extract _ _ _ (by omega), shF_six]; rfl
  rw [hE] at PU
  obtain ⟨z32, h32⟩ : ∃ z, zs 32 = z := ⟨_, rfl⟩
  obtain ⟨z44, h44⟩ : ∃ z, zs 44 = z := ⟨_, rfl⟩
  rw [h32] at F32 PU
  rw [h44] at F44 GE
  have s1 : ((⟨#[0, 80, 3, 4, 0, 5]⟩ : ByteArray) == ⟨#[0, 80, 3, 4, 0, 5]⟩) = true := by decide +kernel
  have s2 : ((⟨#[0, 80, 3, 4, 0, 5]⟩ : ByteArray) != ⟨#[0, 80, 3, 4, 0, 5]⟩) = false := by decide +kernel
  have s1t : ((⟨#[0, 80, 3, 4, 0, 5]⟩ : ByteArray).toList == (⟨#[0, 80, 3, 4, 0, 5]⟩ : ByteArray).toList) = true := by simp
  have s2t : ((⟨#[0, 80, 3, 4, 0, 5]⟩ : ByteArray).toList != (⟨#[0, 80, 3, 4, 0, 5]⟩ : ByteArray).toList) = false := by simp
  have M30 := Lib.hid (fun w => lmade_any 30 (by omega) (by omega) w)
  have M9 := Lib.hid (fun w => lmade_any 9 (by omega) (by omega) w)
  have L30 := mk_len 30 (by omega)
  have L9 := mk_len 9 (by omega)
  have U30 := mk_busy 30 (by omega) (by omega)
  have U9 := mk_busy 9 (by omega) (by omega)
  obtain ⟨P30, h30⟩ : ∃ z, mk 30 = z := ⟨_, rfl⟩
  obtain ⟨P9, h9⟩ : ∃ z, mk 9 = z := ⟨_, rfl⟩
  rw [h30] at M30 L30 U30
  rw [h9] at M9 L9 U9
  have PL := Lib.hid (show P30.length = 30 ∧ P9.length = 9 ∧ Pk.busy P30 = true ∧ Pk.busy P9 = true from ⟨L30, L9, U30, U9⟩)
  have NW := Lib.hid (fun w => tnew_any 32 (by omega) (by omega) w)
  have nn := fun X w => eqlF_not ⟨X, 0, none⟩ w
  have NN := Lib.hid nn
  clear hE h32 h44 L30 L9 U30 U9 h30 h9 nn
  go_enter Try.func9, Try.ntmps9
  go_wp2_with fail
  (refine (F32.out _).mono ?_)
  rintro e w1 ⟨rfl, h1⟩
  have B1 := Lib.hid h1
  clear h1
  go_wp2_with fail
  (refine (PU.out _).mono ?_)
  rintro e w2 ⟨rfl, h2⟩
  have B2 := Lib.hid (bt B1.out h2)
  clear h2
  go_wp2_with fail
  (refine (F44.out _).mono ?_)
  rintro e w3 ⟨rfl, h3⟩
  have B3 := Lib.hid (bt B2.out h3)
  clear h3
  go_wp2_with fail
  (refine (GE.out _).mono ?_)
  rintro e w4 ⟨rfl, h4⟩
  have B4 := Lib.hid (bt B3.out h4)
  clear h4
  go_wp2_with (first
    | ((with_reducible refine atList ?_); refine wpList_new rfl (.alloc 24) rfl (some 3) rfl #[.int .i64 0, .int .i64 0, .int .i64 0, .int .i64 0, .int .i64 0, .string ⟨#[]⟩, .int .u32 0] 24 (fun X => .pointer (some ⟨X, 0, none⟩)) 7 (tmCel tm0) (tm_cells tm0) (alloc_tm rfl) ?_; intro RB w5 HRB SRB CRB BRB)
    | ((with_reducible refine atList ?_); refine wpList_setAll rfl 24 (.tmp 3) (.tmp 25) rfl RB 7 [.int .i64 0, .int .i64 0, .int .i64 0, .int .i64 0, .int .i64 0, .string ⟨#[]⟩, .int .u32 0] _ (tmCel tm0) CRB.out rfl (tm_list tm0) rfl rfl tm_info (by simp [Value.oneCell']) ?_; intro w6 C6 U6 S6; have B6 := Lib.hid (But.under (bt B4.out BRB.out) U6.out (by have := HRB.out; have := B4.out.size; omega))))
  (refine (NW.out _).mono ?_)
  rintro e w7 ⟨X, rfl, P7, h7⟩
  have HP7 := Lib.hid P7
  have B7 := Lib.hid (bt B6.out h7)
  have N7 := Lib.hid h7.size
  have nq := NN.out X
  clear P7 h7
  go_wp2_with fail
  (refine (M30.out _).mono ?_)
  rintro e w8 ⟨rfl, h8⟩
  have HP8 := Lib.hid (HP7.out.below h8)
  have B8 := Lib.hid (bt B7.out h8)
  have N8 := Lib.hid (Nat.le_trans N7.out h8.size)
  clear h8
  have A1 := Lib.hid (tAdd_ok HP8.out (Nat.zero_le _) (Nat.zero_le _) (Nat.zero_le _) N8.out (bs P30) (by rw [bs_size]; have := PL.out; omega) (by rw [bs_list]; exact PL.out.2.2.1) (by rw [bs_size]; have := PL.out; simp; omega))
  go_wp2_with fail
  (refine A1.out.mono ?_)
  rintro e w9 ⟨rfl, va1, vb1, P9', K9⟩
  rw [bs_list, List.nil_append] at P9'
  have HP9 := Lib.hid P9'
  have B9 := Lib.hid (B8.out.trans (K9.below.mono B6.out.size))
  have N9 := Lib.hid (Nat.le_trans N8.out K9.below.size)
  clear P9' K9 A1
  go_wp2_with fail
  (refine (M9.out _).mono ?_)
  rintro e w10 ⟨rfl, h10⟩
  have HP10 := Lib.hid (HP9.out.below h10)
  have B10 := Lib.hid (bt B9.out h10)
  have N10 := Lib.hid (Nat.le_trans N9.out h10.size)
  clear h10
  have A2 := Lib.hid (tAdd_ok HP10.out (Nat.zero_le _) (by have := PL.out; omega) (by simp) N10.out (bs P9) (by rw [bs_size]; have := PL.out; omega) (by rw [bs_list]; exact PL.out.2.2.2) (by rw [bs_size]; have := PL.out; omega))
  go_wp2_with fail
  (refine A2.out.mono ?_)
  rintro e w11 ⟨rfl, va2, vb2, P11', K11⟩
  rw [bs_list, PL.out.1] at P11'
  have HP11 := Lib.hid (show PFl w11 w6.heap.size X 32 0 va2 vb2 (P30 ++ P9) [0, 30] from P11')
  have B11 := Lib.hid (B10.out.trans (K11.below.mono B6.out.size))
  have N11 := Lib.hid (Nat.le_trans N10.out K11.below.size)
  clear P11' K11 A2
  have L39 := Lib.hid (show (P30 ++ P9).length = 39 by rw [List.length_append]; have := PL.out; omega)
  have W11 := Lib.hid (twaiting_any HP11.out (Nat.zero_le _) (by rw [L39.out]; omega))
  rw [L39.out] at W11
  go_wp2_with fail
  (refine W11.out.mono ?_)
  rintro e w12 ⟨rfl, m12, hm12⟩
  have h12 : Below w11.heap.size w11 w12 := by rw [hm12]; exact below_drewN (Below.refl _ _) _
  have HP12 := Lib.hid (HP11.out.below h12)
  have B12 := Lib.hid (bt B11.out h12)
  have N12 := Lib.hid (Nat.le_trans N11.out h12.size)
  clear h12 hm12
  have X1 := Lib.hid (tnext_full HP12.out (Nat.zero_le _) (by rw [L39.out]; omega) (by decide) (by decide) (by omega) N12.out (by rw [L39.out]; omega) (by rw [L39.out]; omega))
  rw [L39.out, show Tm.fstAt [0, 30] 32 = 0 from by decide, show Tm.cutG [0, 30] 32 39 = [] from by decide] at X1
  obtain ⟨T1, hT1⟩ : ∃ T, bs ((P30 ++ P9).take 32) = T := ⟨_, rfl⟩
  rw [hT1] at X1
  have T1F := Lib.hid (show T1.size = 32 ∧ T1.extract 0 30 = bs P30 from ⟨by rw [← hT1, bs_size, List.length_take, L39.out]; omega, by
    rw [← hT1, bs_extract _ _ _ (by omega), List.take_take, List.drop_zero, show min 30 32 = P30.length by have := PL.out; omega, List.take_left]⟩)
  clear hT1
  go_wp2_with fail
  (refine X1.out.mono ?_)
  rintro e w13 ⟨rfl, va3, vb3, P13, K13⟩
  have HP13 := Lib.hid P13
  have B13 := Lib.hid (B12.out.trans (K13.below.mono B6.out.size))
  have N13 := Lib.hid (Nat.le_trans N12.out K13.below.size)
  clear P13 K13 X1
  have D7 := Lib.hid (show (P30 ++ P9).drop 32 = P9.drop 2 by
    rw [List.drop_append, List.drop_of_length_le (by have := PL.out; omega), List.nil_append, PL.out.1])
  rw [D7.out] at HP13
  have L7 := Lib.hid (show (P9.drop 2).length = 7 by rw [List.length_drop]; have := PL.out; omega)
  have L32 := Lib.hid (show (P9.drop 2 ++ Pk.enc (pkIdle (max (32 - (P9.drop 2).length) 7 - 6))).length = 32 by
    rw [List.length_append, idle_len _ (by omega), L7.out]
    rfl)
  have X2 := Lib.hid (tnext_idle HP13.out (Nat.zero_le _) (by rw [L7.out]; omega) (by decide) (by simp) (by omega) N13.out (by rw [L7.out]; omega) (by rw [L7.out]; omega) _ rfl)
  obtain ⟨BI, hBI⟩ : ∃ T, P9.drop 2 ++ Pk.enc (pkIdle (max (32 - (P9.drop 2).length) 7 - 6)) = T := ⟨_, rfl⟩
  rw [hBI] at X2 L32
  have BI7 : BI.take 7 = P9.drop 2 := by
    have := L7.out
    rw [← hBI, show 7 = (P9.drop 2).length by omega, List.take_left]
  have BI0 : BI.drop 32 = [] := List.drop_of_length_le (by have := L32.out; omega)
  rw [BI0, L32.out, L7.out, List.nil_append, show Tm.fstAt [7] 32 = 7 from by decide, show Tm.cutG [7] 32 32 = [] from by decide, show BI.take 32 = BI from List.take_of_length_le (by have := L32.out; omega)] at X2
  obtain ⟨T2, hT2⟩ : ∃ T, bs BI = T := ⟨_, rfl⟩
  rw [hT2] at X2
  have T2F := Lib.hid (show T2.size = 32 ∧ T2.extract 0 7 = bs (P9.drop 2) from ⟨by rw [← hT2, bs_size, L32.out], by rw [← hT2, bs_extract _ _ _ (by omega), BI7, List.drop_zero]⟩)
  clear hT2 hBI BI7 BI0
  go_wp2_with fail
  (refine X2.out.mono ?_)
  rintro e w14 ⟨rfl, va4, vb4, P14, K14⟩
  have HP14 := Lib.hid P14
  have B14 := Lib.hid (B13.out.trans (K14.below.mono B6.out.size))
  have N14 := Lib.hid (Nat.le_trans N13.out K14.below.size)
  clear P14 K14 X2
  have X3 := Lib.hid (tnext_none HP14.out (Nat.le_refl _) (Nat.zero_le _) rfl)
  go_wp2_with fail
  (refine X3.out.mono ?_)
  rintro e w15 ⟨rfl, m15, hm15⟩
  have h15 : Below w14.heap.size w14 w15 := by rw [hm15]; exact below_drewN (Below.refl _ _) _
  have HP15 := Lib.hid (HP14.out.below h15)
  have B15 := Lib.hid (bt B14.out h15)
  clear h15 hm15 X3
  go_upto_region 11 with fail
  refine tshRegion X T1 T2 (bs P30) (bs P9) (bs (P9.drop 2)) T1F.out.1 T2F.out.1 T1F.out.2 T2F.out.2 (by rw [bs_size]; exact PL.out.2.1) (by rw [bs_extract _ _ _ (by omega), List.take_of_length_le (by have := PL.out; omega)]) (beq_same _) (beq_same _) M30.out M9.out (fun w' hb => (twaiting_any (HP15.out.below hb) (Nat.le_refl _) (Nat.zero_le _)).mono (fun e w2 ⟨g1, m, g2⟩ => ⟨g1, by rw [g2]; exact below_drewN (Below.refl _ _) _⟩)) (tableHF_HG (by kernel_rfl)) rfl rfl rfl rfl rfl rfl rfl rfl rfl rfl rfl rfl rfl rfl rfl rfl rfl rfl rfl rfl rfl rfl rfl rfl rfl rfl rfl rfl rfl rfl rfl rfl rfl rfl rfl rfl rfl rfl rfl rfl rfl rfl rfl rfl rfl rfl rfl rfl rfl rfl rfl rfl rfl rfl rfl rfl rfl rfl rfl rfl rfl rfl rfl rfl rfl rfl rfl rfl rfl rfl rfl rfl rfl rfl rfl rfl rfl rfl rfl rfl rfl rfl rfl rfl rfl rfl rfl rfl rfl rfl rfl rfl rfl rfl rfl rfl rfl ?_
  intro w16 h16
  have B16 := Lib.hid (bt B15.out h16)
  clear h16
  simp only [Act.put, List.setIfInBounds_toArray, List.set_cons_succ, List.set_cons_zero, List.drop_succ_cons, List.drop_zero]
  go_wp2_with fail
  go_ret
  exact ⟨rfl, B16.out⟩
end Go.Proofs.Ytgcjfiablcjfgaa
