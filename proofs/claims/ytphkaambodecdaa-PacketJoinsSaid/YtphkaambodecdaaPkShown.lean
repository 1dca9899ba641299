/- Layer 9: shown, the calls that each law makes first. -/
import Derived.Test.YtphkaambodecdaaVarTy
namespace Go.Proofs.Ytphkaambodecdaa
open Go.RowKit
set_option linter.unusedVariables false
set_option maxRecDepth 100000

def shP : Pkt := ⟨false, 5, 3, 1, ⟨#[65]⟩⟩
def shL : List UInt8 := [97, 98, 99, 100, 101]
def shQ0 : Pkt := ⟨false, 5, 1, 16383, ⟨#[97, 98]⟩⟩
def shQ1 : Pkt := ⟨false, 5, 0, 0, ⟨#[99, 100]⟩⟩
def shQ2 : Pkt := ⟨false, 5, 2, 1, ⟨#[101]⟩⟩
def shF : Nat → Pkt := Pk.cut false 5 16383 shL 2
theorem sh_ok : Pk.Ok shP := by decide
theorem sh_enc : bs (Pk.enc shP) = ⟨#[0, 5, 192, 1, 0, 0, 65]⟩ := rfl
theorem sh_t1 : tkV (Pk.take [0, 5, 192, 1, 0, 0, 65, 66]) = .tuple #[pkVal shP, .int .i64 7, .int .i64 0] := by
  have h := Pk.take_enc sh_ok [66]
  rw [show Pk.enc shP ++ [66] = [0, 5, 192, 1, 0, 0, 65, 66] from rfl] at h
  rw [h]
  rfl
theorem sh_t2 : tkV (Pk.take [0, 5, 192]) = .tuple #[pkVal pk0, .int .i64 0, .int .i64 4] := by
  have h := Pk.take_cut sh_ok 3 (by decide)
  rw [show (Pk.enc shP).take 3 = [0, 5, 192] from rfl] at h
  rw [h]
  rfl
theorem sh_t3 : tkV (Pk.take [32]) = .tuple #[pkVal pk0, .int .i64 0, .int .i64 6] := by
  rw [Pk.take_bad (by unfold Pk.Bad; exact .inl ⟨by decide, .inl (by decide)⟩)]
  rfl
theorem sh_f0 : shF 0 = shQ0 := rfl
theorem sh_f1 : shF 1 = shQ1 := rfl
theorem sh_f2 : shF 2 = shQ2 := rfl
theorem sh_o0 : Pk.Ok shQ0 := by decide
theorem sh_o1 : Pk.Ok shQ1 := by decide
theorem sh_o2 : Pk.Ok shQ2 := by decide
theorem sh_e0 : Pk.feed none shQ0 = (⟨0, some [97, 98]⟩, ⟨false, [], 0, false⟩) := rfl
theorem sh_e1 : Pk.feed (some ⟨0, some [97, 98]⟩) shQ1 = (⟨1, some [97, 98, 99, 100]⟩, ⟨false, [], 0, false⟩) := rfl
theorem sh_e2 : Pk.feed (some ⟨1, some [97, 98, 99, 100]⟩) shQ2 = (⟨2, none⟩, ⟨true, shL, 0, false⟩) := rfl
theorem opens_none (F : Int → Option Pk.St) (h : ∀ a, Pk.opn (F a) = none) : opens F = 0 := by
  unfold opens
  rw [List.length_eq_zero_iff, List.filter_eq_nil_iff]
  intro a _
  simp [h]
/-- The joiner's state behind the three packets. -/
def shS : Int → Option Pk.St := upd (upd (upd (fun _ => none) 5 (some ⟨0, some [97, 98]⟩)) 5 (some ⟨1, some [97, 98, 99, 100]⟩)) 5 (some ⟨2, none⟩)
theorem sh_open : opens shS = 0 := opens_none _ (fun a => by
  unfold shS
  by_cases e : a = 5
  · subst e; rw [upd_same]; rfl
  · rw [upd_ne _ _ e, upd_ne _ _ e, upd_ne _ _ e]; rfl)
theorem Kp.of_but {base X : Nat} {t : TypeId} {w w' : World} (k : But X w w') (h : TyB w X t) (hb : base ≤ X) : Kp base [t] false w w' := by
  refine ⟨But.under (Below.refl base w) k hb, fun b cur t2 fr e ht => k.rest b (Array.getElem?_eq_some_iff.1 e).1 (fun q => ?_), fun _ b es c e => k.rest b (Array.getElem?_eq_some_iff.1 e).1 (fun q => ?_)⟩
  · subst q
    obtain ⟨cur2, fr2, e2⟩ := h
    rw [e2] at e
    cases e
    exact ht (by simp)
  · subst q
    obtain ⟨cur2, fr2, e2⟩ := h
    rw [e2] at e
    cases e
theorem row_some {w : World} {base n c : Nat} {sa : Option Addr} {xs : List Value} {t : TypeId} {s : Nat} (h : w.ownsRow base t s (.slice sa n c) n xs) (hn : 0 < n) : ∃ g, sa = some ⟨g, 0, none⟩ ∧ base ≤ g ∧ TyB w g t := by
  obtain ⟨_, h⟩ := h
  rcases h with ⟨q, e⟩ | ⟨g, c', cur, q1, q2, q3, _⟩
  · omega
  · cases q1
    exact ⟨g, rfl, q2, cur, _, q3⟩
theorem eqlJ_notT (O : Addr) (w : World) : (binOp .eql 42 (.pointer (some O)) (.pointer none)).run Try.prog w = .ok (.bool false) w := eqlJ_not O w
set_option maxHeartbeats 40000000 in
theorem shown_any (w : World) : Calls Try.prog 10 #[] w fun e w' => e = .returned (.bool true) ∧ Below w.heap.size w w' := by
  have PU := Lib.hid (fun w => pput_any shP (by unfold maxLen; decide) w)
  rw [if_pos sh_ok, sh_enc] at PU
  have T1 := Lib.hid (fun w => ptake_any ⟨#[0, 5, 192, 1, 0, 0, 65, 66]⟩ (by decide) w)
  rw [show (⟨#[0, 5, 192, 1, 0, 0, 65, 66]⟩ : ByteArray).data.toList = [0, 5, 192, 1, 0, 0, 65, 66] from rfl, sh_t1] at T1
  have T2 := Lib.hid (fun w => ptake_any ⟨#[0, 5, 192]⟩ (by decide) w)
  rw [show (⟨#[0, 5, 192]⟩ : ByteArray).data.toList = [0, 5, 192] from rfl, sh_t2] at T2
  have T3 := Lib.hid (fun w => ptake_any ⟨#[32]⟩ (by decide) w)
  rw [show (⟨#[32]⟩ : ByteArray).data.toList = [32] from rfl, sh_t3] at T3
  have SP := Lib.hid (fun w => psplit_ok false 5 16383 2 ⟨#[97, 98, 99, 100, 101]⟩ 5 rfl (by decide) (by decide) (by decide) (by decide) (by decide) w)
  rw [show Pk.cnt 5 2 = 3 from rfl, show Pk.cut false 5 ((16383 : Nat) : Int) (⟨#[97, 98, 99, 100, 101]⟩ : ByteArray).data.toList 2 = shF from rfl] at SP
  have NW := Lib.hid (fun w => pnew_any w)
  have NN := Lib.hid (fun O w => eqlJ_notT O w)
  have s1 : ((⟨#[0, 5, 192, 1, 0, 0, 65]⟩ : ByteArray) == ⟨#[0, 5, 192, 1, 0, 0, 65]⟩) = true := by decide +kernel
  have s2 : ((⟨#[65]⟩ : ByteArray) == ⟨#[65]⟩) = true := by decide +kernel
  have s3 : ((⟨#[97, 98, 99, 100, 101]⟩ : ByteArray) == ⟨#[97, 98, 99, 100, 101]⟩) = true := by decide +kernel
  have s1t : ((⟨#[0, 5, 192, 1, 0, 0, 65]⟩ : ByteArray).toList == (⟨#[0, 5, 192, 1, 0, 0, 65]⟩ : ByteArray).toList) = true := by simp
  have s2t : ((⟨#[65]⟩ : ByteArray).toList == (⟨#[65]⟩ : ByteArray).toList) = true := by simp
  have s3t : ((⟨#[97, 98, 99, 100, 101]⟩ : ByteArray).toList == (⟨#[97, 98, 99, 100, 101]⟩ : ByteArray).toList) = true := by simp
  go_enter Try.func10, Try.ntmps10
  go_wp2_with fail
  refine (PU.out _).mono ?_
  rintro e w1 ⟨rfl, h1⟩
  have B1 := Lib.hid h1
  clear h1
  go_wp2_with fail
  (with_reducible refine (T1.out _).mono ?_)
  rintro e w2 ⟨rfl, h2⟩
  have B2 := Lib.hid (bt B1.out h2)
  clear h2
  go_wp2_with (first
    | (refine wpList_new rfl (.alloc 23) rfl (some 3) rfl #[.bool false, .int .i64 0, .int .i64 0, .int .i64 0, .string ⟨#[]⟩] 23 (fun X => .pointer (some ⟨X, 0, none⟩)) 5 (pkCel pk0) (pk_cells pk0) (alloc_pk rfl) ?_; intro X3 w3 HX3 Sw3 CX3 Bw3)
    | (refine wpList_setAll rfl 23 (.tmp 3) (.tmp 28) rfl X3 5 [.bool shP.cmd, .int .i64 shP.ap, .int .i64 shP.fl, .int .i64 shP.ct, .string shP.da] _ (pkCel shP) CX3.out rfl (pk_list shP) rfl rfl pk_info (by simp [Value.oneCell']) ?_; intro w4 C4 U4 S4))
  have B4 := Lib.hid (But.under (bt B2.out Bw3.out) U4.out (by have := HX3.out; have := B2.out.size; omega))
  (with_reducible refine (T2.out _).mono ?_)
  rintro e w5 ⟨rfl, h5⟩
  have B5 := Lib.hid (bt B4.out h5)
  have C35 := Lib.hid (C4.out.below h5)
  clear h5
  go_wp2_with (first
    | (refine wpList_new rfl (.alloc 23) rfl (some 6) rfl #[.bool false, .int .i64 0, .int .i64 0, .int .i64 0, .string ⟨#[]⟩] 23 (fun X => .pointer (some ⟨X, 0, none⟩)) 5 (pkCel pk0) (pk_cells pk0) (alloc_pk rfl) ?_; intro X6 w6 HX6 Sw6 CX6 Bw6)
    | (refine wpList_setAll rfl 23 (.tmp 6) (.tmp 33) rfl X6 5 [.bool pk0.cmd, .int .i64 pk0.ap, .int .i64 pk0.fl, .int .i64 pk0.ct, .string pk0.da] _ (pkCel pk0) CX6.out rfl (pk_list pk0) rfl rfl pk_info (by simp [Value.oneCell']) ?_; intro w7 C7 U7 S7))
  have B7 := Lib.hid (But.under (bt B5.out Bw6.out) U7.out (by have := HX6.out; have := B5.out.size; omega))
  have C37 := Lib.hid ((C35.out.below Bw6.out).but U7.out (by have := HX6.out; have := C35.out.1; omega))
  (with_reducible refine (T3.out _).mono ?_)
  rintro e w8 ⟨rfl, h8⟩
  have B8 := Lib.hid (bt B7.out h8)
  have C38 := Lib.hid (C37.out.below h8)
  clear h8
  go_wp2_with (first
    | (refine wpList_new rfl (.alloc 23) rfl (some 9) rfl #[.bool false, .int .i64 0, .int .i64 0, .int .i64 0, .string ⟨#[]⟩] 23 (fun X => .pointer (some ⟨X, 0, none⟩)) 5 (pkCel pk0) (pk_cells pk0) (alloc_pk rfl) ?_; intro X9 w9 HX9 Sw9 CX9 Bw9)
    | (refine wpList_setAll rfl 23 (.tmp 9) (.tmp 38) rfl X9 5 [.bool pk0.cmd, .int .i64 pk0.ap, .int .i64 pk0.fl, .int .i64 pk0.ct, .string pk0.da] _ (pkCel pk0) CX9.out rfl (pk_list pk0) rfl rfl pk_info (by simp [Value.oneCell']) ?_; intro w10 C10 U10 S10))
  have B10 := Lib.hid (But.under (bt B8.out Bw9.out) U10.out (by have := HX9.out; have := B8.out.size; omega))
  have C310 := Lib.hid ((C38.out.below Bw9.out).but U10.out (by have := HX9.out; have := C38.out.1; omega))
  (refine (SP.out _).mono ?_)
  rintro e w11 ⟨sa, sc, rfl, how, h11⟩
  obtain ⟨g, rfl, hgb, hgt⟩ := row_some how (by omega)
  have OW := Lib.hid how
  have TG := Lib.hid hgt
  have B11 := Lib.hid (bt B10.out h11)
  have C311 := C310.out.below h11
  have c31 : w11.cell? ⟨X3, 1, none⟩ = some (.int .i64 5) := C311.cell (j := 1) (by omega)
  have c34 : w11.cell? ⟨X3, 4, none⟩ = some (.string ⟨#[65]⟩) := C311.cell (j := 4) (by omega)
  have cr : w11.cell? ⟨g, 8, none⟩ = some (.int .i64 0) := row_range how (k := 1) (by omega) 3 _ rfl
  clear how hgt hgb h11 C311
  go_wp2_with fail
  (with_reducible refine (NW.out _).mono ?_)
  rintro e w12 ⟨j, m, rfl, J12, h12⟩
  have BB12 := Lib.hid (bt B11.out h12)
  have HJ12 := Lib.hid J12
  have OW12 := Lib.hid (own_below OW.out h12)
  have RNG0 := Lib.hid (show w12.rangeAt g 0 [.bool false, .int .i64 5, .int .i64 1, .int .i64 16383, .string ⟨#[97, 98]⟩] from row_range OW12.out (k := 0) (by omega))
  have nn := NN.out ⟨j, 0, none⟩
  have F0 := Lib.hid (show Calls Try.prog 25 #[.pointer (some ⟨j, 0, none⟩), .agg #[.bool false, .int .i64 5, .int .i64 1, .int .i64 16383, .string ⟨#[97, 98]⟩]] w12 _ from pfeed_ok J12 h12.size (by omega) shQ0 sh_o0 (by decide))
  have N0 := Lib.hid h12.size
  clear c31 c34 cr J12 h12
  go_wp2_with (refine wpList_load_mid rfl 23 (.tmp 99) rfl g 0 rfl [.bool false, .int .i64 5, .int .i64 1, .int .i64 16383, .string ⟨#[97, 98]⟩] _ RNG0.out Try.underlying23 rfl info_pk ?_)
  (refine F0.out.mono ?_)
  rintro e w13 ⟨D1, S1, he, J13, K13⟩
  have he : e = .returned (.tuple #[pcV ⟨false, [], 0, false⟩, .int .i64 0]) := he
  subst he
  have HJ13 := Lib.hid (show PJ w13 w11.heap.size j m 1 (upd (fun _ => none) 5 (some ⟨0, some [97, 98]⟩)) D1 S1 from J13)
  have OW13 := Lib.hid (K13.own OW12.out (by decide))
  have BB13 := Lib.hid (BB12.out.trans (K13.below.mono B11.out.size))
  have N13 := Lib.hid (Nat.le_trans N0.out K13.below.size)
  clear J13 K13
  go_wp2_with (first
    | (refine wpList_newT rfl (.alloc 52) rfl (some 15) rfl #[.bool false, .string ⟨#[]⟩, .int .i64 0, .bool false] 52 (fun X => .pointer (some ⟨X, 0, none⟩)) 4 (pcC false ⟨#[]⟩ 0 false) (pc_cells false ⟨#[]⟩ 0 false) (alloc_piece rfl) ?_; intro P5 w14 HP5 Sw14 CP5 Bw14 YP5)
    | (refine wpList_setAllT rfl 52 (.tmp 15) (.tmp 102) rfl P5 4 [.bool false, .string ⟨#[]⟩, .int .i64 0, .bool false] _ (pcC false ⟨#[]⟩ 0 false) CP5.out rfl (fun j hj => by match j, hj with | 0, _ => rfl | 1, _ => rfl | 2, _ => rfl | 3, _ => rfl) rfl rfl pc_info (by simp [Value.oneCell']) ?_; intro w15 C15 U15 S15 V15; have OW15 := Lib.hid (own_but (own_below OW13.out Bw14.out) U15.out (by intro e; have := own_block_lt OW13.out e; have := HP5.out; omega)); have RNG1 := Lib.hid (show w15.rangeAt g 5 [.bool false, .int .i64 5, .int .i64 0, .int .i64 0, .string ⟨#[99, 100]⟩] from row_range OW15.out (k := 1) (by omega)))
    | (refine wpList_load_mid rfl 23 (.tmp 107) rfl g 5 rfl [.bool false, .int .i64 5, .int .i64 0, .int .i64 0, .string ⟨#[99, 100]⟩] _ RNG1.out Try.underlying23 rfl info_pk ?_))
  have TP15 := Lib.hid (V15.out _ YP5.out)
  have J15 := Lib.hid ((HJ13.out.below Bw14.out).kp (Kp.of_but (base := 0) U15.out YP5.out (Nat.zero_le _)) (by decide) (by decide))
  have N15 := Lib.hid (show w11.heap.size ≤ w15.heap.size from by have := N13.out; have := Bw14.out.size; have := S15.out; omega)
  have BB15 := Lib.hid (show Below w.heap.size w w15 from But.under (bt BB13.out Bw14.out) U15.out (by have := HP5.out; have := BB13.out.size; omega))
  have F1 := Lib.hid (show Calls Try.prog 25 #[.pointer (some ⟨j, 0, none⟩), .agg #[.bool false, .int .i64 5, .int .i64 0, .int .i64 0, .string ⟨#[99, 100]⟩]] w15 _ from pfeed_ok J15.out N15.out (by omega) shQ1 sh_o1 (by decide))
  (refine F1.out.mono ?_)
  rintro e w16 ⟨D2, S2, he, J16, K16⟩
  have he : e = .returned (.tuple #[pcV ⟨false, [], 0, false⟩, .int .i64 0]) := he
  subst he
  have HJ16 := Lib.hid (show PJ w16 w11.heap.size j m 2 (upd (upd (fun _ => none) 5 (some ⟨0, some [97, 98]⟩)) 5 (some ⟨1, some [97, 98, 99, 100]⟩)) D2 S2 from J16)
  have OW16 := Lib.hid (K16.own OW15.out (by decide))
  have BB16 := Lib.hid (BB15.out.trans (K16.below.mono B11.out.size))
  have N16 := Lib.hid (Nat.le_trans N15.out K16.below.size)
  have C516 := Lib.hid (C15.out.of_block (TP15.out.keep K16 (by decide)))
  have TP16 := Lib.hid (TP15.out.of_block (TP15.out.keep K16 (by decide)))
  clear J16 K16
  go_wp2_with (first
    | (refine wpList_newT rfl (.alloc 52) rfl (some 17) rfl #[.bool false, .string ⟨#[]⟩, .int .i64 0, .bool false] 52 (fun X => .pointer (some ⟨X, 0, none⟩)) 4 (pcC false ⟨#[]⟩ 0 false) (pc_cells false ⟨#[]⟩ 0 false) (alloc_piece rfl) ?_; intro P7 w17 HP7 Sw17 CP7 Bw17 YP7)
    | (refine wpList_setAllT rfl 52 (.tmp 17) (.tmp 110) rfl P7 4 [.bool false, .string ⟨#[]⟩, .int .i64 0, .bool false] _ (pcC false ⟨#[]⟩ 0 false) CP7.out rfl (fun j hj => by match j, hj with | 0, _ => rfl | 1, _ => rfl | 2, _ => rfl | 3, _ => rfl) rfl rfl pc_info (by simp [Value.oneCell']) ?_; intro w18 C18 U18 S18 V18; have OW18 := Lib.hid (own_but (own_below OW16.out Bw17.out) U18.out (by intro e; have := own_block_lt OW16.out e; have := HP7.out; omega)); have RNG2 := Lib.hid (show w18.rangeAt g 10 [.bool false, .int .i64 5, .int .i64 2, .int .i64 1, .string ⟨#[101]⟩] from row_range OW18.out (k := 2) (by omega)))
    | (refine wpList_load_mid rfl 23 (.tmp 115) rfl g 10 rfl [.bool false, .int .i64 5, .int .i64 2, .int .i64 1, .string ⟨#[101]⟩] _ RNG2.out Try.underlying23 rfl info_pk ?_))
  have TP18 := Lib.hid (V18.out _ YP7.out)
  have J18 := Lib.hid ((HJ16.out.below Bw17.out).kp (Kp.of_but (base := 0) U18.out YP7.out (Nat.zero_le _)) (by decide) (by decide))
  have N18 := Lib.hid (show w11.heap.size ≤ w18.heap.size from by have := N16.out; have := Bw17.out.size; have := S18.out; omega)
  have BB18 := Lib.hid (show Below w.heap.size w w18 from But.under (bt BB16.out Bw17.out) U18.out (by have := HP7.out; have := BB16.out.size; omega))
  have PN := Lib.hid (show P5 < P7 from by have := HP7.out; have := TP16.out.lt; omega)
  have C518 := Lib.hid ((C516.out.below Bw17.out).but U18.out (by have := PN.out; omega))
  have TP518 := Lib.hid ((TP16.out.below Bw17.out).but U18.out (by have := PN.out; omega))
  have F2 := Lib.hid (show Calls Try.prog 25 #[.pointer (some ⟨j, 0, none⟩), .agg #[.bool false, .int .i64 5, .int .i64 2, .int .i64 1, .string ⟨#[101]⟩]] w18 _ from pfeed_ok J18.out N18.out (by omega) shQ2 sh_o2 (by decide))
  (refine F2.out.mono ?_)
  rintro e w19 ⟨D3, S3, he, J19, K19⟩
  have he : e = .returned (.tuple #[pcV ⟨true, shL, 0, false⟩, .int .i64 0]) := he
  subst he
  have HJ19 := Lib.hid (show PJ w19 w11.heap.size j m 3 shS D3 S3 from J19)
  have BB19 := Lib.hid (BB18.out.trans (K19.below.mono B11.out.size))
  have C519 := Lib.hid (C518.out.of_block (TP518.out.keep K19 (by decide)))
  have C719 := Lib.hid (C18.out.of_block (TP18.out.keep K19 (by decide)))
  clear J19 K19
  have OPN := Lib.hid (fun w (h : PJ w w11.heap.size j m 3 shS D3 S3) => popen_any h (by omega))
  rw [sh_open] at OPN
  go_wp2_with (first
    | (refine wpList_newT rfl (.alloc 52) rfl (some 19) rfl #[.bool false, .string ⟨#[]⟩, .int .i64 0, .bool false] 52 (fun X => .pointer (some ⟨X, 0, none⟩)) 4 (pcC false ⟨#[]⟩ 0 false) (pc_cells false ⟨#[]⟩ 0 false) (alloc_piece rfl) ?_; intro P9 w20 HP9 Sw20 CP9 Bw20 YP9)
    | (refine wpList_setAllT rfl 52 (.tmp 19) (.tmp 118) rfl P9 4 [.bool true, .string ⟨#[97, 98, 99, 100, 101]⟩, .int .i64 0, .bool false] _ (pcC true ⟨#[97, 98, 99, 100, 101]⟩ 0 false) CP9.out rfl (fun j hj => by match j, hj with | 0, _ => rfl | 1, _ => rfl | 2, _ => rfl | 3, _ => rfl) rfl rfl pc_info (by simp [Value.oneCell']) ?_; intro w21 C21 U21 S21 V21; have C521 := (C519.out.below Bw20.out).but U21.out (by have := HP9.out; have := C519.out.1; omega); have C721 := (C719.out.below Bw20.out).but U21.out (by have := HP9.out; have := C719.out.1; omega); have p50 : w21.cell? ⟨P5, 0, none⟩ = some (.bool false) := C521.cell (j := 0) (by omega); have p70 : w21.cell? ⟨P7, 0, none⟩ = some (.bool false) := C721.cell (j := 0) (by omega); have p90 : w21.cell? ⟨P9, 0, none⟩ = some (.bool true) := C21.out.cell (j := 0) (by omega); have p91 : w21.cell? ⟨P9, 1, none⟩ = some (.string ⟨#[97, 98, 99, 100, 101]⟩) := C21.out.cell (j := 1) (by omega)))
  have J21 := Lib.hid ((HJ19.out.below Bw20.out).kp (Kp.of_but (base := 0) U21.out YP9.out (Nat.zero_le _)) (by decide) (by decide))
  have BB21 := Lib.hid (show Below w.heap.size w w21 from But.under (bt BB19.out Bw20.out) U21.out (by have := HP9.out; have := BB19.out.size; omega))
  (refine (OPN.out _ J21.out).mono ?_)
  rintro e w22 ⟨rfl, h22⟩
  have BB22 := Lib.hid (bt BB21.out h22)
  clear h22
  go_wp2_with fail
  go_ret
  exact ⟨rfl, BB22.out⟩
end Go.Proofs.Ytphkaambodecdaa
