/- PacketJoins: both joiners fed the same. -/
import Derived.Test.YtphkaambodecdaaPkRlink
import Derived.Test.YtphkaambodecdaaRowKit
import Derived.Test.YtphkaambodecdaaPkList
import Derived.ProofKit
import Derived.BigQuiet
namespace Go.Proofs.Ytphkaambodecdaa
open Go.ChangeShapes Go.WideShapes Go.ChangeAt Go.RowKit
set_option linter.unusedVariables false
set_option maxRecDepth 100000
theorem Cel.kp {base n X : Nat} {ts : List TypeId} {m : Bool} {w w' : World} {g : Nat → Value} {t : TypeId} (C : Cel w X n g) (h : TyB w X t) (k : Kp base ts m w w') (ht : t ∉ ts) : Cel w' X n g := C.of_block (h.keep k ht)
theorem TyB.kp {base X : Nat} {ts : List TypeId} {m : Bool} {w w' : World} {t : TypeId} (h : TyB w X t) (k : Kp base ts m w w') (ht : t ∉ ts) : TyB w' X t := h.of_block (h.keep k ht)
theorem box_rj {ev : Operand → Value} {o : Oper} {w : World} {x : Operand} (h : o.op = .box 47 x) (hx : ev x = .agg #[.slice none 0 0]) : (execOp ev o).run Try.prog w = .ok (.value (.pointer (some ⟨w.heap.size, 0, none⟩))) (w.alloc (.cells #[.slice none 0 0] 47)) := by
  simp only [execOp, h, hx]; go_simp
theorem box_pj {ev : Operand → Value} {o : Oper} {w : World} {x : Operand} (h : o.op = .box 50 x) (hx : ev x = .agg #[.pointer none, .map none]) : (execOp ev o).run Try.prog w = .ok (.value (.pointer (some ⟨w.heap.size, 0, none⟩))) (w.alloc (.cells #[.pointer none, .map none] 50)) := by
  simp only [execOp, h, hx]; go_simp
def zjC (j : Nat) : Value := match j with
  | 0 => .pointer none
  | 1 => .map none
  | _ => undef
theorem rj_cells : ∀ j, j < 1 → (#[.slice none 0 0] : Array Value)[j]? = some ((fun _ => Value.slice none 0 0) j) := fun j hj => by
  match j, hj with
  | 0, _ => rfl
theorem pj_cells : ∀ j, j < 2 → (#[.pointer none, .map none] : Array Value)[j]? = some (zjC j) := fun j hj => by
  match j, hj with
  | 0, _ => rfl
  | 1, _ => rfl
/-- Both Feeds of a packet. -/
theorem feeds_both {n0 j m cn r n : Nat} {F : Int → Option Pk.St} {f : Nat → Rk} (p : Pkt) (hs : p.da.size ≤ 2000) (hL : Lk f n F) (hcn : cn < 1000000) (hn : n ≤ 10000) :
    ∃ (wh : Bool) (ms : List UInt8) (mi : Int) (br : Bool) (c : Int) (F' : Int → Option Pk.St),
      (∀ W D S, PJ W n0 j m cn F D S → n0 ≤ W.heap.size → Calls Try.prog 25 #[.pointer (some ⟨j, 0, none⟩), pkVal p] W fun e w' => ∃ cn' D' S', e = .returned (.tuple #[.agg #[.bool wh, .string (bs ms), .int .i64 mi, .bool br], .int .i64 c]) ∧ PJ w' n0 j m cn' F' D' S' ∧ cn' ≤ cn + 1 ∧ Kp n0 [5] true W w') ∧
      (∀ W sv, RJ W n0 r sv f n → n0 ≤ W.heap.size → Calls Try.prog 26 #[.pointer (some ⟨r, 0, none⟩), pkVal p] W fun e w' => ∃ sv' f' n', e = .returned (.tuple #[.agg #[.bool wh, .string (bs ms), .int .i64 mi, .bool br], .int .i64 c]) ∧ RJ w' n0 r sv' f' n' ∧ n' ≤ n + 1 ∧ Lk f' n' F' ∧ Kp n0 [83, 47] false W w') := by
  have hs1 : p.da.size ≤ maxLen := by unfold maxLen; omega
  have hs2 : p.da.size ≤ 1000000000 := by omega
  by_cases ho : Pk.Ok p
  · by_cases hi : p.ap = 2047
    · refine ⟨false, [], 0, false, 0, F, fun W D S h hw => ?_, fun W sv h hw => ?_⟩
      · refine (pfeed_idle h p hs1 ho hi).mono ?_
        rintro e w' ⟨rfl, hb⟩
        exact ⟨cn, D, S, rfl, h.below hb, by omega, Kp.of_below hb hw⟩
      · refine (rfeed_idle h p hs2 ho hi).mono ?_
        rintro e w' ⟨rfl, hb⟩
        exact ⟨sv, f, n, rfl, h.below hb, by omega, hL, Kp.of_below hb hw⟩
    · obtain ⟨st, pc, hf⟩ : ∃ st pc, Pk.feed (F p.ap) p = (st, pc) := ⟨_, _, rfl⟩
      obtain ⟨wh, ms, mi, br⟩ := pc
      refine ⟨wh, ms, mi, br, 0, upd F p.ap (some st), fun W D S h hw => ?_, fun W sv h hw => ?_⟩
      · refine (pfeed_ok h hw hcn p ho hi).mono ?_
        rintro e w' ⟨D', S', rfl, hJ, hk⟩
        rw [hf] at hJ
        exact ⟨cn + 1, D', S', by rw [hf]; rfl, hJ, by omega, hk⟩
      · refine (rfeed_ok h hw hn hL.ok p ho hi).mono ?_
        rintro e w' ⟨i, fr, sv', n', q, hr, rfl, hJ, hk⟩
        obtain ⟨h1, h2⟩ := hL.step ho hi hr
        rw [hf] at h1 h2
        refine ⟨sv', _, n', by rw [h2]; rfl, hJ, ?_, h1, hk⟩
        rcases hr with ⟨_, rfl, _⟩ | ⟨_, _, rfl, _⟩ <;> omega
  · refine ⟨false, [], 0, false, 2, F, fun W D S h hw => ?_, fun W sv h hw => ?_⟩
    · refine (pfeed_bad h p hs1 ho).mono ?_
      rintro e w' ⟨rfl, hb⟩
      exact ⟨cn, D, S, rfl, h.below hb, by omega, Kp.of_below hb hw⟩
    · refine (rfeed_bad h p hs2 ho).mono ?_
      rintro e w' ⟨rfl, hb⟩
      exact ⟨sv, f, n, rfl, h.below hb, by omega, hL, Kp.of_below hb hw⟩
namespace packetJoins
set_option maxHeartbeats 16000000 in
theorem walk_many (ao : Option Addr) (cap : Nat) (zs : List Pkt) (hzc : zs.length ≤ cap) (hcm : cap ≤ maxLen) (w : World) (hl : 300 < zs.length) : Calls Try.prog 6 #[.slice ao zs.length cap] w fun e w' => e = .returned (.bool true) ∧ Below w.heap.size w w' := by
  have SH := Lib.hid (fun w => shown_any w)
  obtain ⟨N, hN⟩ : ∃ N, zs.length = N := ⟨_, rfl⟩
  have hNs : N ≤ 9223372036854775807 := by rw [← hN]; unfold maxLen at hcm; omega
  rw [hN]
  have t1 : decide (300 < (N : Int)) = true := decide_eq_true (by omega)
  have t1n : decide (300 < N) = true := decide_eq_true (by omega)
  clear hzc hcm hl hN
  go_enter Try.func6, Try.ntmps6
  go_wp2_with fail
  (with_reducible refine (SH.out _).mono ?_)
  rintro e w1 ⟨rfl, h1⟩
  have B1 := Lib.hid h1
  clear h1
  go_wp2_with fail
  go_ret
  exact ⟨rfl, B1.out⟩
set_option maxHeartbeats 16000000 in
theorem walk_main (ao : Option Addr) (cap : Nat) (zs : List Pkt) (hzc : zs.length ≤ cap) (hcm : cap ≤ maxLen) (w : World) (R0 : Pkts w ao zs) (hl : ¬ 300 < zs.length) : Calls Try.prog 6 #[.slice ao zs.length cap] w fun e w' => e = .returned (.bool true) ∧ Below w.heap.size w w' := by
  have SH := Lib.hid (fun w => shown_any w)
  obtain ⟨N, hN⟩ : ∃ N, zs.length = N := ⟨_, rfl⟩
  have HN := Lib.hid hN
  rw [hN]
  have t1 : decide (300 < (N : Int)) = false := decide_eq_false (by omega)
  have t1n : decide (300 < N) = false := decide_eq_false (by omega)
  have NW := Lib.hid (fun w => pnew_any w)
  have NIL := Lib.hid (fun w => popen_nil w)
  have HR0 := Lib.hid R0
  have N300 := Lib.hid (show N ≤ 300 by omega)
  have hNb : N ≤ 300 := N300.out
  clear hzc hcm hl R0 hN
  go_enter Try.func6, Try.ntmps6
  go_wp2_with fail
  (with_reducible refine (SH.out _).mono ?_)
  rintro e w1 ⟨rfl, h1⟩
  have B1 := Lib.hid h1
  clear h1
  go_wp2_with fail
  (refine (NW.out _).mono ?_)
  rintro e w2 ⟨j, m, rfl, J2, h2⟩
  have HJ2 := Lib.hid J2
  have B2 := Lib.hid h2
  clear J2 h2
  go_wp2_with ((with_reducible refine atList ?_); first
    | (refine wpList_newT rfl (.box 47 (.tmp 22)) rfl (some 23) rfl #[.slice none 0 0] 47 (fun X => .pointer (some ⟨X, 0, none⟩)) 1 (fun _ => .slice none 0 0) rj_cells (box_rj rfl rfl) ?_; intro r w3 Hr Sr Cr Lr Tr)
    | (refine wpList_newT rfl (.box 50 (.tmp 24)) rfl (some 25) rfl #[.pointer none, .map none] 50 (fun X => .pointer (some ⟨X, 0, none⟩)) 2 zjC pj_cells (box_pj rfl rfl) ?_; intro Z w4 HZ SZ CZ LZ TZ))
  have B4 := Lib.hid (bt (bt B2.out Lr.out) LZ.out)
  go_loopw [7, 8, 9, 10, 11, 12, 13, 14, 15] (fun x7 x8 x9 x10 x11 x12 x13 x14 x15 wr => ∃ (k cn n : Nat) (F : Int → Option Pk.St) (D : DataW Value) (S : Int → Value) (sv : Value) (f : Nat → Rk), x7 = .int .i64 (k : Nat) ∧ k ≤ N ∧ cn ≤ k ∧ n ≤ k ∧ PJ wr w1.heap.size j m cn F D S ∧ RJ wr w1.heap.size r sv f n ∧ Lk f n F ∧ Cel wr Z 2 zjC ∧ TyB wr Z 50 ∧ Below w1.heap.size w1 wr) (fun x7 _ _ _ _ _ _ _ _ _ => N - (intOf x7).toNat)
  case atStart => exact ⟨0, 0, 0, _, _, _, .slice none 0 0, fun _ => default, rfl, Nat.zero_le _, Nat.le_refl _, Nat.le_refl _, (HJ2.out.below Lr.out).below LZ.out, ⟨by have := Hr.out; have := B2.out.size; omega, Tr.out.below LZ.out, Cr.out.below LZ.out, World.ownsRow_nil _ _ _ _⟩, Lk.zero _, CZ.out, TZ.out, B4.out⟩
  case round =>
    obtain ⟨k, cn, n, F, D, S, sv, f, rfl, hk, hcn, hn, hJ, hR, hL, hC, hT, hB⟩ := hrel
    rename World => wr
    have B5 := Lib.hid hB
    have AT := Lib.hid (show Below w.heap.size w wr from B1.out.trans (hB.mono B1.out.size))
    have NB := Lib.hid (show w1.heap.size ≤ wr.heap.size from hB.size)
    have ZC := Lib.hid hC
    have ZT := Lib.hid hT
    by_cases hlt : k < N
    · obtain ⟨z, hz⟩ : ∃ z, zs[k]? = some z := ⟨zs[k]'(by have := HN.out; omega), List.getElem?_eq_getElem (by have := HN.out; omega)⟩
      rcases HR0.out with e0 | ⟨B, off, rfl, hBl, hz2⟩
      · rw [e0] at hz; cases hz
      obtain ⟨hz3, hz4⟩ := hz2 k z hz
      have ZR := Lib.hid (fun W (b : Below w.heap.size w W) => show W.rangeAt B (off + k * 5) [.bool z.cmd, .int .i64 z.ap, .int .i64 z.fl, .int .i64 z.ct, .string z.da] from fun j u hu => (b.cell (p := ⟨B, off + k * 5 + j, none⟩) hBl).trans (hz3 j u hu))
      have c4 : wr.cell? ⟨B, off + k * 5 + 4, none⟩ = some (.string z.da) := (AT.out.cell (p := ⟨B, off + k * 5 + 4, none⟩) hBl).trans (hz3 4 _ rfl)
      obtain ⟨s, hs⟩ : ∃ s, z.da.size = s := ⟨_, rfl⟩
      have hsm : s ≤ 9223372036854775807 := by have := hz4.2.2.2; rw [← hs]; unfold maxLen at this; omega
      have k0 : (0 : Int) ≤ (k : Int) := by omega
      have k1 : (k : Int) < (N : Int) := by omega
      have HK1 := Lib.hid (show k + 1 ≤ N from hlt)
      have HCN := Lib.hid hcn
      have HNK := Lib.hid hn
      by_cases g : 2000 < s
      · have t2 : decide (2000 < (s : Int)) = true := decide_eq_true (by omega)
        have t2n : decide (2000 < s) = true := decide_eq_true g
        clear hz hz2 hz3 hz4 hk hlt hcn hn hJ hR hL hC hT hB g
        go_wp2_with fail
        go_ret
        exact ⟨rfl, AT.out⟩
      · have t2 : decide (2000 < (s : Int)) = false := decide_eq_false (by omega)
        have t2n : decide (2000 < s) = false := decide_eq_false g
        obtain ⟨wh, ms, mi, br, c, F1, hP, hQ⟩ := feeds_both (n0 := w1.heap.size) (j := j) (m := m) (cn := cn) (r := r) z (by omega) hL (by have := N300.out; omega) (by have := N300.out; omega)
        have FP := Lib.hid hP
        have FQ := Lib.hid hQ
        have J0 := Lib.hid hJ
        have Q0 := Lib.hid hR
        obtain ⟨M, hM⟩ : ∃ M, bs ms = M := ⟨_, rfl⟩
        rw [hM] at FP FQ
        have FNIL := Lib.hid (fun w => pfeed_nil z w)
        have FZERO := Lib.hid (fun w c0 => pfeed_zero Z z w c0)
        rw [pcV0] at FNIL FZERO
        have zM : (M.toList == M.toList) = true := by simp
        have zw : (wh == wh) = true := by simp
        have zi : (mi == mi) = true := by simp
        have zb : (br == br) = true := by simp
        have zc : (c == c) = true := by simp
        have zc2 : (c != c) = false := by simp
        clear hz hz2 hz3 hz4 hk hlt hcn hn hJ hR hL hC hT hB g hP hQ hM
        go_wp2_with ((with_reducible refine atList ?_); refine wpList_load_mid rfl 23 (.tmp 43) rfl B (off + k * 5) rfl [.bool z.cmd, .int .i64 z.ap, .int .i64 z.fl, .int .i64 z.ct, .string z.da] _ (ZR.out _ AT.out) Try.underlying23 rfl info_pk ?_)
        (refine (FP.out _ _ _ J0.out NB.out).mono ?_)
        rintro e w6 ⟨cn1, D1, S1, rfl, hJ1, hc1, hK6⟩
        have J1 := Lib.hid hJ1
        have CN1 := Lib.hid hc1
        have K6 := Lib.hid hK6
        have Q1 := Lib.hid (Q0.out.kp hK6 (by decide) (by decide))
        have Z1 := Lib.hid (ZC.out.kp ZT.out hK6 (by decide))
        have Y1 := Lib.hid (ZT.out.kp hK6 (by decide))
        have B6 := Lib.hid (B5.out.trans hK6.below)
        clear hJ1 hc1 hK6 c4
        go_wp2_with (first
          | ((with_reducible refine atList ?_); refine wpList_newT rfl (.alloc 52) rfl (some 8) rfl #[.bool false, .string ⟨#[]⟩, .int .i64 0, .bool false] 52 (fun X => .pointer (some ⟨X, 0, none⟩)) 4 (pcC false ⟨#[]⟩ 0 false) (pc_cells false ⟨#[]⟩ 0 false) (alloc_piece rfl) ?_; intro P8 w7 HP8 SP8 AP8 LP8 TP8)
          | ((with_reducible refine atList ?_); refine wpList_setAllT rfl 52 (.tmp 8) (.tmp 46) rfl P8 4 [.bool wh, .string M, .int .i64 mi, .bool br] _ (pcC wh M mi br) AP8.out rfl (fun j hj => by match j, hj with | 0, _ => rfl | 1, _ => rfl | 2, _ => rfl | 3, _ => rfl) rfl rfl pc_info (by simp [Value.oneCell']) ?_; intro w8 CP8 UP8 SP8 VP8; have NP8 := Lib.hid (But.under LP8.out UP8.out (by have := HP8.out; omega)); have YP8 := Lib.hid (VP8.out _ TP8.out))
          | ((with_reducible refine atList ?_); refine wpList_load_mid rfl 23 (.tmp 52) rfl B (off + k * 5) rfl [.bool z.cmd, .int .i64 z.ap, .int .i64 z.fl, .int .i64 z.ct, .string z.da] _ (ZR.out _ (B1.out.trans ((bt B6.out NP8.out).mono B1.out.size))) Try.underlying23 rfl info_pk ?_))
        have B8 := Lib.hid (bt B6.out NP8.out)
        have Q2 := Lib.hid (Q1.out.below NP8.out)
        have J2 := Lib.hid (J1.out.below NP8.out)
        have Z2 := Lib.hid (Z1.out.below NP8.out)
        have Y2 := Lib.hid (Y1.out.below NP8.out)
        (refine (FQ.out _ _ Q2.out B8.out.size).mono ?_)
        rintro e w9 ⟨sv1, f1, n1, rfl, hQ3, hn1, hL1, hK9⟩
        have Q3 := Lib.hid hQ3
        have LK1 := Lib.hid hL1
        have HN1 := Lib.hid hn1
        have J3 := Lib.hid (J2.out.kp hK9 (by decide) (by decide))
        have Z3 := Lib.hid (Z2.out.kp Y2.out hK9 (by decide))
        have Y3 := Lib.hid (Y2.out.kp hK9 (by decide))
        have C83 := Lib.hid (CP8.out.kp YP8.out hK9 (by decide))
        have B9 := Lib.hid (B8.out.trans hK9.below)
        clear hQ3 hL1 hn1 hK9
        go_wp2_with (first
          | ((with_reducible refine atList ?_); refine wpList_newT rfl (.alloc 52) rfl (some 10) rfl #[.bool false, .string ⟨#[]⟩, .int .i64 0, .bool false] 52 (fun X => .pointer (some ⟨X, 0, none⟩)) 4 (pcC false ⟨#[]⟩ 0 false) (pc_cells false ⟨#[]⟩ 0 false) (alloc_piece rfl) ?_; intro P10 w10 HP10 SP10 AP10 LP10 TP10)
          | ((with_reducible refine atList ?_); refine wpList_setAllT rfl 52 (.tmp 10) (.tmp 55) rfl P10 4 [.bool wh, .string M, .int .i64 mi, .bool br] _ (pcC wh M mi br) AP10.out rfl (fun j hj => by match j, hj with | 0, _ => rfl | 1, _ => rfl | 2, _ => rfl | 3, _ => rfl) rfl rfl pc_info (by simp [Value.oneCell']) ?_; intro w11 CP10 UP10 SP10 VP10; have NP10 := Lib.hid (But.under LP10.out UP10.out (by have := HP10.out; omega)); have YP10 := Lib.hid (VP10.out _ TP10.out))
          | ((with_reducible refine atList ?_); refine wpList_load_mid rfl 23 (.tmp 61) rfl B (off + k * 5) rfl [.bool z.cmd, .int .i64 z.ap, .int .i64 z.fl, .int .i64 z.ct, .string z.da] _ (ZR.out _ (B1.out.trans ((bt B9.out NP10.out).mono B1.out.size))) Try.underlying23 rfl info_pk ?_))
        have B11 := Lib.hid (bt B9.out NP10.out)
        (refine (FNIL.out _).mono ?_)
        rintro e w12 ⟨rfl, h12⟩
        have N12 := Lib.hid (bt NP10.out h12)
        have B12 := Lib.hid (bt B11.out h12)
        have C10a := Lib.hid (CP10.out.below h12)
        clear h12
        go_wp2_with (first
          | ((with_reducible refine atList ?_); refine wpList_newT rfl (.alloc 52) rfl (some 12) rfl #[.bool false, .string ⟨#[]⟩, .int .i64 0, .bool false] 52 (fun X => .pointer (some ⟨X, 0, none⟩)) 4 (pcC false ⟨#[]⟩ 0 false) (pc_cells false ⟨#[]⟩ 0 false) (alloc_piece rfl) ?_; intro P12 w13 HP12 SP12 AP12 LP12 TP12)
          | ((with_reducible refine atList ?_); refine wpList_setAllT rfl 52 (.tmp 12) (.tmp 64) rfl P12 4 [.bool false, .string ⟨#[]⟩, .int .i64 0, .bool false] _ (pcC false ⟨#[]⟩ 0 false) AP12.out rfl (fun j hj => by match j, hj with | 0, _ => rfl | 1, _ => rfl | 2, _ => rfl | 3, _ => rfl) rfl rfl pc_info (by simp [Value.oneCell']) ?_; intro w14 CP12 UP12 SP12 VP12; have NP12 := Lib.hid (But.under LP12.out UP12.out (by have := HP12.out; omega)); have YP12 := Lib.hid (VP12.out _ TP12.out))
          | ((with_reducible refine atList ?_); refine wpList_load_mid rfl 23 (.tmp 70) rfl B (off + k * 5) rfl [.bool z.cmd, .int .i64 z.ap, .int .i64 z.fl, .int .i64 z.ct, .string z.da] _ (ZR.out _ (B1.out.trans ((bt B12.out NP12.out).mono B1.out.size))) Try.underlying23 rfl info_pk ?_))
        have N14 := Lib.hid (bt N12.out NP12.out)
        have B14 := Lib.hid (bt B12.out NP12.out)
        have C10b := Lib.hid (C10a.out.below NP12.out)
        have Z4 := Lib.hid (Z3.out.below N14.out)
        (refine (FZERO.out _ (Z4.out.cell (j := 0) (by omega))).mono ?_)
        rintro e w15 ⟨rfl, h15⟩
        have N15 := Lib.hid (bt N14.out h15)
        have B15 := Lib.hid (bt B14.out h15)
        have C10c := Lib.hid (C10b.out.below h15)
        have C12c := Lib.hid (CP12.out.below h15)
        clear h15
        go_wp2_with (first
          | ((with_reducible refine atList ?_); refine wpList_newT rfl (.alloc 52) rfl (some 14) rfl #[.bool false, .string ⟨#[]⟩, .int .i64 0, .bool false] 52 (fun X => .pointer (some ⟨X, 0, none⟩)) 4 (pcC false ⟨#[]⟩ 0 false) (pc_cells false ⟨#[]⟩ 0 false) (alloc_piece rfl) ?_; intro P14 w16 HP14 SP14 AP14 LP14 TP14)
          | ((with_reducible refine atList ?_); refine wpList_setAllT rfl 52 (.tmp 14) (.tmp 73) rfl P14 4 [.bool false, .string ⟨#[]⟩, .int .i64 0, .bool false] _ (pcC false ⟨#[]⟩ 0 false) AP14.out rfl (fun j hj => by match j, hj with | 0, _ => rfl | 1, _ => rfl | 2, _ => rfl | 3, _ => rfl) rfl rfl pc_info (by simp [Value.oneCell']) ?_; intro w17 CP14 UP14 SP14 VP14; have NP14 := Lib.hid (But.under LP14.out UP14.out (by have := HP14.out; omega)); have YP14 := Lib.hid (VP14.out _ TP14.out))
          | ((with_reducible refine atList ?_); refine wpList_getAll rfl 52 (.tmp 8) rfl P8 4 [.bool wh, .string M, .int .i64 mi, .bool br] _ _ (C83.out.below (bt N15.out NP14.out)) rfl (pc_list _ _ _ _) rfl Try.underlying52 rfl pc_info ?_)
          | ((with_reducible refine atList ?_); refine wpList_getAll rfl 52 (.tmp 10) rfl P10 4 [.bool wh, .string M, .int .i64 mi, .bool br] _ _ (C10c.out.below NP14.out) rfl (pc_list _ _ _ _) rfl Try.underlying52 rfl pc_info ?_))
        have N17 := Lib.hid (bt N15.out NP14.out)
        have B17 := Lib.hid (bt B15.out NP14.out)
        have J4 := Lib.hid (J3.out.below N17.out)
        have Q4 := Lib.hid (Q3.out.below N17.out)
        have Z5 := Lib.hid (Z3.out.below N17.out)
        have Y5 := Lib.hid (Y3.out.below N17.out)
        have C12d := Lib.hid (C12c.out.below NP14.out)
        (refine (popen_any J4.out (by have := CN1.out; have := HCN.out; have := N300.out; omega)).mono ?_)
        rintro e w18 ⟨rfl, h18⟩
        have Q5 := Lib.hid (Q4.out.below h18)
        have J5 := Lib.hid (J4.out.below h18)
        have Z6 := Lib.hid (Z5.out.below h18)
        have Y6 := Lib.hid (Y5.out.below h18)
        have C12e := Lib.hid (C12d.out.below h18)
        have C14e := Lib.hid (CP14.out.below h18)
        have B18 := Lib.hid (bt B17.out h18)
        clear h18
        go_wp2_with fail
        (refine (ropen_any Q5.out (by have := HN1.out; have := HNK.out; have := N300.out; omega)).mono ?_)
        rintro e w19 ⟨rfl, rfl⟩
        rw [rkOpens_is LK1.out]
        obtain ⟨op, hop⟩ : ∃ op, opens F1 = op := ⟨_, rfl⟩
        rw [hop]
        have zo : ((op : Int) != (op : Int)) = false := by simp
        clear hop
        have q120 : w18.cell? ⟨P12, 0, none⟩ = some (.bool false) := C12e.out.cell (j := 0) (by omega)
        have q121 : w18.cell? ⟨P12, 1, none⟩ = some (.string ⟨#[]⟩) := C12e.out.cell (j := 1) (by omega)
        have q122 : w18.cell? ⟨P12, 2, none⟩ = some (.int .i64 0) := C12e.out.cell (j := 2) (by omega)
        have q123 : w18.cell? ⟨P12, 3, none⟩ = some (.bool false) := C12e.out.cell (j := 3) (by omega)
        have q140 : w18.cell? ⟨P14, 0, none⟩ = some (.bool false) := C14e.out.cell (j := 0) (by omega)
        have q141 : w18.cell? ⟨P14, 1, none⟩ = some (.string ⟨#[]⟩) := C14e.out.cell (j := 1) (by omega)
        have q142 : w18.cell? ⟨P14, 2, none⟩ = some (.int .i64 0) := C14e.out.cell (j := 2) (by omega)
        have q143 : w18.cell? ⟨P14, 3, none⟩ = some (.bool false) := C14e.out.cell (j := 3) (by omega)
        go_wp2_with fail
        go_roundw
        case rel => exact ⟨k + 1, cn1, n1, F1, D1, S1, sv1, f1, by go_num, HK1.out, by have := CN1.out; have := HCN.out; omega, by have := HN1.out; have := HNK.out; omega, J5.out, Q5.out, LK1.out, Z6.out, Y6.out, B18.out⟩
        case measure => simp [intOf]; have := HK1.out; omega
    · obtain rfl : N = k := by omega
      clear hJ hR hL hC hT hB hcn hn
      go_wp2_with fail
      (refine (NIL.out _).mono ?_)
      rintro e w6 ⟨rfl, h6⟩
      have Z1 := Lib.hid (ZC.out.below h6)
      have B6 := Lib.hid (bt AT.out h6)
      clear h6
      go_wp2_with fail
      (refine (popen_zero Z _ (Z1.out.cell (j := 0) (by omega))).mono ?_)
      rintro e w7 ⟨rfl, h7⟩
      have B7 := Lib.hid (bt B6.out h7)
      clear h7
      go_wp2_with fail
      go_ret
      exact ⟨rfl, B7.out⟩
end packetJoins
end Go.Proofs.Ytphkaambodecdaa
