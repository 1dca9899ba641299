/- PacketMessage: the walk of its loop. -/
import Derived.Test.YtphkaambodecdaaPkEq
import Derived.Test.YtphkaambodecdaaRowKit
import Derived.Test.YtphkaambodecdaaPkCutArg
import Derived.Test.YtphkaambodecdaaPkSame
import Derived.Test.YtphkaambodecdaaPkList
import Derived.Test.YtphkaambodecdaaPkWhole
import Derived.ProofKit
import Derived.BigQuiet
namespace Go.Proofs.Ytphkaambodecdaa
open Go.ChangeShapes Go.WideShapes Go.ChangeAt Go.RowKit
set_option linter.unusedVariables false
namespace packetMessage
set_option maxRecDepth 100000 in
set_option maxHeartbeats 8000000 in
theorem walk_main (q : Pkt) (hq : PkWf q) (ao : Option Addr) (zs : List Pkt) (cap : Nat) (hzc : zs.length ≤ cap) (hcm : cap ≤ maxLen) (w : World) (R : Pkts w ao zs) (hl : q.da.size ≤ 16384) (hol : zs.length ≤ 100) (c mo : Nat) (hqf : q.fl = c) (hqc : q.ct = mo) (ha : 0 ≤ q.ap ∧ q.ap ≤ 2046) (hc : c ≤ 16383) (hm1 : 1 ≤ mo ∧ mo ≤ 1024) (n0 : 0 < q.da.size) (hK : Pk.cnt q.da.size mo ≤ 600) : Calls Try.prog 8 #[pkVal q, .slice ao zs.length cap] w fun e w' => e = .returned (.bool true) ∧ Below w.heap.size w w' := by
  have SH := Lib.hid (fun w => shown_any w)
  obtain ⟨n, hn⟩ : ∃ n, q.da.size = n := ⟨_, rfl⟩
  obtain ⟨no, hno⟩ : ∃ no, zs.length = no := ⟨_, rfl⟩
  have hs : n ≤ 9223372036854775807 := by have := hq.2.2.2; rw [← hn]; unfold maxLen at this; omega
  have hos : no ≤ 9223372036854775807 := by rw [← hno]; unfold maxLen at hcm; omega
  have SPL := Lib.hid (show ∀ w, Calls Try.prog 19 #[.bool q.cmd, .int .i64 q.ap, .int .i64 q.fl, .string q.da, .int .i64 q.ct] w fun e w' => ∃ sa sc, e = .returned (.tuple #[.slice sa (Pk.cnt n mo) sc, .int .i64 0]) ∧ w'.ownsRow w.heap.size 23 5 (.slice sa (Pk.cnt n mo) sc) (Pk.cnt n mo) (pkL (Pk.cut q.cmd q.ap q.fl q.da.data.toList mo) (Pk.cnt n mo)) ∧ Below w.heap.size w w' from fun w => by
    have := psplit_ok q.cmd q.ap c mo q.da n hn ha hc hm1 (by omega) (by omega) w
    rw [← hqf, ← hqc] at this
    exact this)
  have NW := Lib.hid (fun w => pnew_any w)
  have cl := fun k => Pk.cnt_lt (n := n) (most := mo) (k := k) hm1.1
  have Kp0 := Pk.cnt_pos (n := n) (most := mo) (by omega) hm1.1
  rw [hn] at hK
  obtain ⟨K, hKK⟩ : ∃ K, Pk.cnt n mo = K := ⟨_, rfl⟩
  rw [hKK] at SPL hK Kp0
  have CL := Lib.hid (show ∀ k, k < K ↔ k * mo < n from fun k => by rw [← hKK]; exact cl k)
  obtain ⟨d, hd⟩ : ∃ d, q.da.data.toList = d := ⟨_, rfl⟩
  have DL := Lib.hid (show d.length = n by rw [← hd, ls, hn])
  have BD := Lib.hid (show bs d = q.da by rw [← hd, bs_self])
  rw [hd] at SPL
  obtain ⟨K1, hK1⟩ : ∃ K1, K - 1 = K1 := ⟨_, rfl⟩
  have wk : IntKind.i64.wrap ((K : Int) - 1) = (K1 : Int) := by rw [IntKind.wrap_i64]; omega
  have HKK := Lib.hid hK1
  have t1 : decide (20000 < (n : Int)) = false := decide_eq_false (by omega)
  have t1n : decide (20000 < n) = false := decide_eq_false (by omega)
  have t2 : decide (100 < (no : Int)) = false := decide_eq_false (by omega)
  have t2n : decide (100 < no) = false := decide_eq_false (by omega)
  have t4 : decide (600 < (K : Int)) = false := decide_eq_false (by omega)
  have t4n : decide (600 < K) = false := decide_eq_false (by omega)
  have HA := Lib.hid ha
  have HM1 := Lib.hid hm1
  have HL := Lib.hid (show n ≤ 16384 by omega)
  have HR := Lib.hid R
  have HKp := Lib.hid Kp0
  have zq : (q.da.toList == q.da.toList) = true := by simp
  have hks : K ≤ 600 := hK
  clear hq hl hol hzc hcm hqf hqc ha hc hm1 n0 hK cl hKK hd R Kp0 hK1
  go_enter Try.func8, Try.ntmps8
  go_wp2_with (refine wpList_new rfl (.box 35 (.tmp 0)) rfl (some 2) rfl #[.bool q.cmd, .int .i64 q.ap, .int .i64 q.fl, .int .i64 q.ct, .string q.da] 35 (fun X => .pointer (some ⟨X, 0, none⟩)) 5 (pkCel q) (pk_cells q) (box_cut rfl rfl) ?_; intro X w0 HX Sw0 CX Bw0)
  (with_reducible refine (SH.out _).mono ?_)
  rintro e w1 ⟨rfl, h1⟩
  have B1 := Lib.hid (bt Bw0.out h1)
  have CX1 := Lib.hid (CX.out.below h1)
  have c0 : w1.cell? ⟨X, 0, none⟩ = some (.bool q.cmd) := CX1.out.cell (j := 0) (by omega)
  have c1 : w1.cell? ⟨X, 1, none⟩ = some (.int .i64 q.ap) := CX1.out.cell (j := 1) (by omega)
  have c2 : w1.cell? ⟨X, 2, none⟩ = some (.int .i64 q.fl) := CX1.out.cell (j := 2) (by omega)
  have c3 : w1.cell? ⟨X, 3, none⟩ = some (.int .i64 q.ct) := CX1.out.cell (j := 3) (by omega)
  have c4 : w1.cell? ⟨X, 4, none⟩ = some (.string q.da) := CX1.out.cell (j := 4) (by omega)
  clear h1
  go_wp2_with fail
  (refine (SPL.out _).mono ?_)
  rintro e w2 ⟨sa, sc, rfl, O1, h2⟩
  obtain ⟨g, rfl, gl, TY⟩ := row_some O1 HKp.out
  have B2 := Lib.hid (bt B1.out h2)
  have CX2 := Lib.hid (CX1.out.below h2)
  have OA2 := Lib.hid O1
  have R2 := Lib.hid (HR.out.below B2.out)
  clear h2 O1 c0 c1 c2 c3 c4 gl TY
  go_wp2_with fail
  (refine (NW.out _).mono ?_)
  rintro e w3 ⟨j, m, rfl, J3, h3⟩
  have HJ3 := Lib.hid J3
  have B3 := Lib.hid h3
  clear J3 h3
  go_wp2_with fail
  go_loopw [8, 9, 10, 11] (fun i x9 x10 x11 wr => ∃ (k cn : Nat) (F : Int → Option Pk.St) (D : DataW Value) (S : Int → Value), k ≤ K ∧ i = .int .i64 (k : Nat) ∧ PJ wr w2.heap.size j m cn F D S ∧ cn ≤ 2 * k ∧ (k < K → Pk.Inv q.fl d mo k 0 true (F q.ap)) ∧ Below w2.heap.size w2 wr) (fun i _ _ _ _ => K - (intOf i).toNat)
  case atStart => exact ⟨0, 0, _, _, _, Nat.zero_le _, rfl, HJ3.out, Nat.zero_le _, fun _ => Pk.Inv.start (fun x hx => by cases hx) (.inr rfl), B3.out⟩
  case round =>
    obtain ⟨k, cn, F, D, S, hk, rfl, hJ, hcn, hI, hB⟩ := hrel
    have HB := Lib.hid hB
    by_cases hlt : k < K
    · have HJ := Lib.hid hJ
      have hkn := (CL.out k).1 hlt
      obtain ⟨p, hp⟩ : ∃ p, Pk.cut q.cmd q.ap q.fl d mo k = p := ⟨_, rfl⟩
      obtain ⟨st, ms, hf, hms, hnx⟩ := (hI hlt).all (cmd := q.cmd) (ap := q.ap) HM1.out.1 (by rw [DL.out]; exact HL.out) (by rw [DL.out]; exact hkn)
      rw [hp, DL.out] at hf
      have OKP := Lib.hid (show Pk.Ok p by rw [← hp]; exact Pk.cut_ok (by have := HA.out; omega) HM1.out (by rw [DL.out]; exact hkn))
      have pap : p.ap = q.ap := by rw [← hp]; rfl
      have PAP := Lib.hid pap
      have HI := Lib.hid (show p.ap ≠ 2047 by rw [pap]; have := HA.out; omega)
      have RNG := Lib.hid (fun W (b : Below w2.heap.size w2 W) => show W.rangeAt g (k * 5) (pk5 p) by rw [← hp]; exact row_range (own_below OA2.out b) hlt)
      have CN := Lib.hid (show cn < 1000000 by omega)
      have CN2 := Lib.hid hcn
      have HK1 := Lib.hid (show k + 1 ≤ K from hlt)
      have NX := Lib.hid (fun (hh : k + 1 < K) => hnx (by rw [DL.out]; exact (CL.out (k + 1)).1 hh))
      have LST := CL.out (k + 1)
      rcases Nat.lt_or_ge k no with hko | hko
      · obtain ⟨z, hz⟩ : ∃ z, zs[k]? = some z := ⟨zs[k]'(by omega), List.getElem?_eq_getElem (by omega)⟩
        rcases R2.out with e0 | ⟨B, off, rfl, hBl, hz2⟩
        · rw [e0] at hz; cases hz
        obtain ⟨hz3, hz4⟩ := hz2 k z hz
        have ZC := Lib.hid (fun W (b : Below w2.heap.size w2 W) j u (hu : (pkCells z)[j]? = some u) => (b.cell (p := ⟨B, off + k * 5 + j, none⟩) hBl).trans (hz3 j u hu))
        have ZR := Lib.hid (fun W (b : Below w2.heap.size w2 W) => show W.rangeAt B (off + k * 5) [.bool z.cmd, .int .i64 z.ap, .int .i64 z.fl, .int .i64 z.ct, .string z.da] from fun j u hu => (b.cell (p := ⟨B, off + k * 5 + j, none⟩) hBl).trans (hz3 j u hu))
        have ZW := Lib.hid hz4.2.2.2
        clear hz3 hz4 hz2 hz hJ hB hI
        by_cases hap : z.ap ≠ q.ap
        · have ZN := Lib.hid hap
          by_cases lst : k + 1 = K
          · have FE := Lib.hid (fun (F' : Int → Option Pk.St) (e : F' q.ap = F q.ap) => show Pk.feed (F' p.ap) p = (st, ⟨true, ms, 0, false⟩) by rw [pap, e, hf, decide_eq_true (show n ≤ (k + 1) * mo by omega)])
            have MS := Lib.hid (show bs ms = q.da by rw [hms (by rw [DL.out]; omega), BD.out])
            clear hf hnx hms pap hp hkn hcn LST
            have t3 : decide ((k : Int) < (no : Int)) = true := decide_eq_true (by omega)
            have t3n : decide (k < no) = true := decide_eq_true (by omega)
            have k0 : (0 : Int) ≤ (k : Int) := by omega
            have k1 : (k : Int) < (no : Int) := by omega
            have y1 := ZC.out wr HB.out 1 _ rfl
            have x1 : wr.cell? ⟨X, 1, none⟩ = some (.int .i64 q.ap) := (CX2.out.below HB.out).cell (j := 1) (by omega)
            have d3 : (z.ap != q.ap) = true := by simpa using hap
            have b1 : ((k : Int) == (K1 : Int)) = true := by have := HKK.out; simp; omega
            clear hk hlt
            go_wp2_with fail
            go_quiet (fail)
            go_wp2_with (refine wpList_load_mid rfl 23 (.tmp 75) rfl B (off + k * 5) rfl [.bool z.cmd, .int .i64 z.ap, .int .i64 z.fl, .int .i64 z.ct, .string z.da] _ (ZR.out _ (below_drewN HB.out _)) Try.underlying23 rfl info_pk ?_)
            (refine (pfeed_any (HJ.out.below (below_drewN (Below.refl _ _) _)) (below_drewN HB.out _).size CN.out z ZW.out).mono ?_)
            rintro e w5 ⟨v5, c5, cn5, F5, D5, S5, rfl, J5, hc5, hF5, K5⟩
            have HJ5 := Lib.hid J5
            have B5 := Lib.hid ((below_drewN HB.out _).trans K5.below)
            have HC5 := Lib.hid hc5
            have FQ := Lib.hid (show F5 q.ap = F q.ap from hF5 _ (Ne.symm ZN.out))
            clear J5 hc5 hF5 K5
            go_wp2_with (refine wpList_load_mid rfl 23 (.tmp 82) rfl g (k * 5) rfl [.bool p.cmd, .int .i64 p.ap, .int .i64 p.fl, .int .i64 p.ct, .string p.da] _ (RNG.out _ B5.out) Try.underlying23 rfl info_pk ?_)
            (refine (pfeed_ok HJ5.out (B5.out).size (by have := HC5.out; have := CN2.out; omega) p OKP.out HI.out).mono ?_)
            rintro e w6 ⟨D6, S6, he, J6, K6⟩
            rw [FE.out _ FQ.out] at he J6
            have he : e = .returned (.tuple #[.agg #[.bool true, .string (bs ms), .int .i64 0, .bool false], .int .i64 0]) := he
            rw [MS.out] at he
            subst he
            have B6 := Lib.hid ((B5.out).trans K6.below)
            have HJ6 := Lib.hid J6
            clear J6
            go_wp2_with (first
              | (refine wpList_newT rfl (.alloc 52) rfl (some 9) rfl #[.bool false, .string ⟨#[]⟩, .int .i64 0, .bool false] 52 (fun X => .pointer (some ⟨X, 0, none⟩)) 4 (pcC false ⟨#[]⟩ 0 false) (pc_cells false ⟨#[]⟩ 0 false) (alloc_piece rfl) ?_; intro P9 w7 HP9 Sw7 CP9 Bw7 YP9)
              | (refine wpList_setAllT rfl 52 (.tmp 9) (.tmp 85) rfl P9 4 [.bool true, .string q.da, .int .i64 0, .bool false] _ (pcC true q.da 0 false) CP9.out rfl (fun j hj => by match j, hj with | 0, _ => rfl | 1, _ => rfl | 2, _ => rfl | 3, _ => rfl) rfl rfl pc_info (by simp [Value.oneCell']) ?_; intro w8 C8 U8 S8 V8; have B8 := Lib.hid (But.under (B6.out.trans (Bw7.out.mono B6.out.size)) U8.out (by have := HP9.out; have := B6.out.size; omega)); have CX8 := Lib.hid (CX2.out.below B8.out); have x3 : w8.cell? ⟨X, 4, none⟩ = some (.string q.da) := CX8.out.cell (j := 4) (by omega); have p0 : w8.cell? ⟨P9, 0, none⟩ = some (.bool true) := C8.out.cell (j := 0) (by omega); have p1 : w8.cell? ⟨P9, 1, none⟩ = some (.string q.da) := C8.out.cell (j := 1) (by omega); have p2 : w8.cell? ⟨P9, 2, none⟩ = some (.int .i64 0) := C8.out.cell (j := 2) (by omega); have p3 : w8.cell? ⟨P9, 3, none⟩ = some (.bool false) := C8.out.cell (j := 3) (by omega)))
            go_roundw
            case rel => exact ⟨k + 1, cn5 + 1, _, D6, S6, HK1.out, by go_num, (HJ6.out.below Bw7.out).kp (Kp.of_but (base := 0) U8.out YP9.out (Nat.zero_le _)) (by decide) (by decide), by have := HC5.out; have := CN2.out; omega, fun hh => by rw [PAP.out, upd_same]; exact NX.out hh, B8.out⟩
            case measure => simp [intOf]; have := HK1.out; omega
          · have FE := Lib.hid (fun (F' : Int → Option Pk.St) (e : F' q.ap = F q.ap) => show Pk.feed (F' p.ap) p = (st, ⟨false, ms, 0, false⟩) by rw [pap, e, hf, decide_eq_false (show ¬ n ≤ (k + 1) * mo by omega)])
            obtain ⟨M, hM⟩ : ∃ M, bs ms = M := ⟨_, rfl⟩
            have MS := Lib.hid hM
            clear hf hnx hms pap hp hkn hcn hM LST
            have t3 : decide ((k : Int) < (no : Int)) = true := decide_eq_true (by omega)
            have t3n : decide (k < no) = true := decide_eq_true (by omega)
            have k0 : (0 : Int) ≤ (k : Int) := by omega
            have k1 : (k : Int) < (no : Int) := by omega
            have y1 := ZC.out wr HB.out 1 _ rfl
            have x1 : wr.cell? ⟨X, 1, none⟩ = some (.int .i64 q.ap) := (CX2.out.below HB.out).cell (j := 1) (by omega)
            have d3 : (z.ap != q.ap) = true := by simpa using hap
            have b1 : ((k : Int) == (K1 : Int)) = false := by have := HKK.out; simp; omega
            clear hk hlt
            go_wp2_with fail
            go_quiet (fail)
            go_wp2_with (refine wpList_load_mid rfl 23 (.tmp 75) rfl B (off + k * 5) rfl [.bool z.cmd, .int .i64 z.ap, .int .i64 z.fl, .int .i64 z.ct, .string z.da] _ (ZR.out _ (below_drewN HB.out _)) Try.underlying23 rfl info_pk ?_)
            (refine (pfeed_any (HJ.out.below (below_drewN (Below.refl _ _) _)) (below_drewN HB.out _).size CN.out z ZW.out).mono ?_)
            rintro e w5 ⟨v5, c5, cn5, F5, D5, S5, rfl, J5, hc5, hF5, K5⟩
            have HJ5 := Lib.hid J5
            have B5 := Lib.hid ((below_drewN HB.out _).trans K5.below)
            have HC5 := Lib.hid hc5
            have FQ := Lib.hid (show F5 q.ap = F q.ap from hF5 _ (Ne.symm ZN.out))
            clear J5 hc5 hF5 K5
            go_wp2_with (refine wpList_load_mid rfl 23 (.tmp 82) rfl g (k * 5) rfl [.bool p.cmd, .int .i64 p.ap, .int .i64 p.fl, .int .i64 p.ct, .string p.da] _ (RNG.out _ B5.out) Try.underlying23 rfl info_pk ?_)
            (refine (pfeed_ok HJ5.out (B5.out).size (by have := HC5.out; have := CN2.out; omega) p OKP.out HI.out).mono ?_)
            rintro e w6 ⟨D6, S6, he, J6, K6⟩
            rw [FE.out _ FQ.out] at he J6
            have he : e = .returned (.tuple #[.agg #[.bool false, .string (bs ms), .int .i64 0, .bool false], .int .i64 0]) := he
            rw [MS.out] at he
            subst he
            have B6 := Lib.hid ((B5.out).trans K6.below)
            have HJ6 := Lib.hid J6
            clear J6
            go_wp2_with (first
              | (refine wpList_newT rfl (.alloc 52) rfl (some 9) rfl #[.bool false, .string ⟨#[]⟩, .int .i64 0, .bool false] 52 (fun X => .pointer (some ⟨X, 0, none⟩)) 4 (pcC false ⟨#[]⟩ 0 false) (pc_cells false ⟨#[]⟩ 0 false) (alloc_piece rfl) ?_; intro P9 w7 HP9 Sw7 CP9 Bw7 YP9)
              | (refine wpList_setAllT rfl 52 (.tmp 9) (.tmp 85) rfl P9 4 [.bool false, .string M, .int .i64 0, .bool false] _ (pcC false M 0 false) CP9.out rfl (fun j hj => by match j, hj with | 0, _ => rfl | 1, _ => rfl | 2, _ => rfl | 3, _ => rfl) rfl rfl pc_info (by simp [Value.oneCell']) ?_; intro w8 C8 U8 S8 V8; have B8 := Lib.hid (But.under (B6.out.trans (Bw7.out.mono B6.out.size)) U8.out (by have := HP9.out; have := B6.out.size; omega)); have CX8 := Lib.hid (CX2.out.below B8.out); have x3 : w8.cell? ⟨X, 4, none⟩ = some (.string q.da) := CX8.out.cell (j := 4) (by omega); have p0 : w8.cell? ⟨P9, 0, none⟩ = some (.bool false) := C8.out.cell (j := 0) (by omega); have p1 : w8.cell? ⟨P9, 1, none⟩ = some (.string M) := C8.out.cell (j := 1) (by omega); have p2 : w8.cell? ⟨P9, 2, none⟩ = some (.int .i64 0) := C8.out.cell (j := 2) (by omega); have p3 : w8.cell? ⟨P9, 3, none⟩ = some (.bool false) := C8.out.cell (j := 3) (by omega)))
            go_roundw
            case rel => exact ⟨k + 1, cn5 + 1, _, D6, S6, HK1.out, by go_num, (HJ6.out.below Bw7.out).kp (Kp.of_but (base := 0) U8.out YP9.out (Nat.zero_le _)) (by decide) (by decide), by have := HC5.out; have := CN2.out; omega, fun hh => by rw [PAP.out, upd_same]; exact NX.out hh, B8.out⟩
            case measure => simp [intOf]; have := HK1.out; omega
        · by_cases lst : k + 1 = K
          · have FE := Lib.hid (fun (F' : Int → Option Pk.St) (e : F' q.ap = F q.ap) => show Pk.feed (F' p.ap) p = (st, ⟨true, ms, 0, false⟩) by rw [pap, e, hf, decide_eq_true (show n ≤ (k + 1) * mo by omega)])
            have MS := Lib.hid (show bs ms = q.da by rw [hms (by rw [DL.out]; omega), BD.out])
            clear hf hnx hms pap hp hkn hcn LST
            have t3 : decide ((k : Int) < (no : Int)) = true := decide_eq_true (by omega)
            have t3n : decide (k < no) = true := decide_eq_true (by omega)
            have k0 : (0 : Int) ≤ (k : Int) := by omega
            have k1 : (k : Int) < (no : Int) := by omega
            have y1 := ZC.out wr HB.out 1 _ rfl
            have x1 : wr.cell? ⟨X, 1, none⟩ = some (.int .i64 q.ap) := (CX2.out.below HB.out).cell (j := 1) (by omega)
            have d3 : (z.ap != q.ap) = false := by simpa using hap
            have b1 : ((k : Int) == (K1 : Int)) = true := by have := HKK.out; simp; omega
            clear hk hlt
            go_wp2_with fail
            go_quiet (fail)
            go_wp2_with (refine wpList_load_mid rfl 23 (.tmp 82) rfl g (k * 5) rfl [.bool p.cmd, .int .i64 p.ap, .int .i64 p.fl, .int .i64 p.ct, .string p.da] _ (RNG.out _ (below_drewN HB.out _)) Try.underlying23 rfl info_pk ?_)
            (refine (pfeed_ok (HJ.out.below (below_drewN (Below.refl _ _) _)) ((below_drewN HB.out _)).size CN.out p OKP.out HI.out).mono ?_)
            rintro e w6 ⟨D6, S6, he, J6, K6⟩
            rw [FE.out _ rfl] at he J6
            have he : e = .returned (.tuple #[.agg #[.bool true, .string (bs ms), .int .i64 0, .bool false], .int .i64 0]) := he
            rw [MS.out] at he
            subst he
            have B6 := Lib.hid (((below_drewN HB.out _)).trans K6.below)
            have HJ6 := Lib.hid J6
            clear J6
            go_wp2_with (first
              | (refine wpList_newT rfl (.alloc 52) rfl (some 9) rfl #[.bool false, .string ⟨#[]⟩, .int .i64 0, .bool false] 52 (fun X => .pointer (some ⟨X, 0, none⟩)) 4 (pcC false ⟨#[]⟩ 0 false) (pc_cells false ⟨#[]⟩ 0 false) (alloc_piece rfl) ?_; intro P9 w7 HP9 Sw7 CP9 Bw7 YP9)
              | (refine wpList_setAllT rfl 52 (.tmp 9) (.tmp 85) rfl P9 4 [.bool true, .string q.da, .int .i64 0, .bool false] _ (pcC true q.da 0 false) CP9.out rfl (fun j hj => by match j, hj with | 0, _ => rfl | 1, _ => rfl | 2, _ => rfl | 3, _ => rfl) rfl rfl pc_info (by simp [Value.oneCell']) ?_; intro w8 C8 U8 S8 V8; have B8 := Lib.hid (But.under (B6.out.trans (Bw7.out.mono B6.out.size)) U8.out (by have := HP9.out; have := B6.out.size; omega)); have CX8 := Lib.hid (CX2.out.below B8.out); have x3 : w8.cell? ⟨X, 4, none⟩ = some (.string q.da) := CX8.out.cell (j := 4) (by omega); have p0 : w8.cell? ⟨P9, 0, none⟩ = some (.bool true) := C8.out.cell (j := 0) (by omega); have p1 : w8.cell? ⟨P9, 1, none⟩ = some (.string q.da) := C8.out.cell (j := 1) (by omega); have p2 : w8.cell? ⟨P9, 2, none⟩ = some (.int .i64 0) := C8.out.cell (j := 2) (by omega); have p3 : w8.cell? ⟨P9, 3, none⟩ = some (.bool false) := C8.out.cell (j := 3) (by omega)))
            go_roundw
            case rel => exact ⟨k + 1, cn + 1, _, D6, S6, HK1.out, by go_num, (HJ6.out.below Bw7.out).kp (Kp.of_but (base := 0) U8.out YP9.out (Nat.zero_le _)) (by decide) (by decide), by have := CN2.out; omega, fun hh => by rw [PAP.out, upd_same]; exact NX.out hh, B8.out⟩
            case measure => simp [intOf]; have := HK1.out; omega
          · have FE := Lib.hid (fun (F' : Int → Option Pk.St) (e : F' q.ap = F q.ap) => show Pk.feed (F' p.ap) p = (st, ⟨false, ms, 0, false⟩) by rw [pap, e, hf, decide_eq_false (show ¬ n ≤ (k + 1) * mo by omega)])
            obtain ⟨M, hM⟩ : ∃ M, bs ms = M := ⟨_, rfl⟩
            have MS := Lib.hid hM
            clear hf hnx hms pap hp hkn hcn hM LST
            have t3 : decide ((k : Int) < (no : Int)) = true := decide_eq_true (by omega)
            have t3n : decide (k < no) = true := decide_eq_true (by omega)
            have k0 : (0 : Int) ≤ (k : Int) := by omega
            have k1 : (k : Int) < (no : Int) := by omega
            have y1 := ZC.out wr HB.out 1 _ rfl
            have x1 : wr.cell? ⟨X, 1, none⟩ = some (.int .i64 q.ap) := (CX2.out.below HB.out).cell (j := 1) (by omega)
            have d3 : (z.ap != q.ap) = false := by simpa using hap
            have b1 : ((k : Int) == (K1 : Int)) = false := by have := HKK.out; simp; omega
            clear hk hlt
            go_wp2_with fail
            go_quiet (fail)
            go_wp2_with (refine wpList_load_mid rfl 23 (.tmp 82) rfl g (k * 5) rfl [.bool p.cmd, .int .i64 p.ap, .int .i64 p.fl, .int .i64 p.ct, .string p.da] _ (RNG.out _ (below_drewN HB.out _)) Try.underlying23 rfl info_pk ?_)
            (refine (pfeed_ok (HJ.out.below (below_drewN (Below.refl _ _) _)) ((below_drewN HB.out _)).size CN.out p OKP.out HI.out).mono ?_)
            rintro e w6 ⟨D6, S6, he, J6, K6⟩
            rw [FE.out _ rfl] at he J6
            have he : e = .returned (.tuple #[.agg #[.bool false, .string (bs ms), .int .i64 0, .bool false], .int .i64 0]) := he
            rw [MS.out] at he
            subst he
            have B6 := Lib.hid (((below_drewN HB.out _)).trans K6.below)
            have HJ6 := Lib.hid J6
            clear J6
            go_wp2_with (first
              | (refine wpList_newT rfl (.alloc 52) rfl (some 9) rfl #[.bool false, .string ⟨#[]⟩, .int .i64 0, .bool false] 52 (fun X => .pointer (some ⟨X, 0, none⟩)) 4 (pcC false ⟨#[]⟩ 0 false) (pc_cells false ⟨#[]⟩ 0 false) (alloc_piece rfl) ?_; intro P9 w7 HP9 Sw7 CP9 Bw7 YP9)
              | (refine wpList_setAllT rfl 52 (.tmp 9) (.tmp 85) rfl P9 4 [.bool false, .string M, .int .i64 0, .bool false] _ (pcC false M 0 false) CP9.out rfl (fun j hj => by match j, hj with | 0, _ => rfl | 1, _ => rfl | 2, _ => rfl | 3, _ => rfl) rfl rfl pc_info (by simp [Value.oneCell']) ?_; intro w8 C8 U8 S8 V8; have B8 := Lib.hid (But.under (B6.out.trans (Bw7.out.mono B6.out.size)) U8.out (by have := HP9.out; have := B6.out.size; omega)); have CX8 := Lib.hid (CX2.out.below B8.out); have x3 : w8.cell? ⟨X, 4, none⟩ = some (.string q.da) := CX8.out.cell (j := 4) (by omega); have p0 : w8.cell? ⟨P9, 0, none⟩ = some (.bool false) := C8.out.cell (j := 0) (by omega); have p1 : w8.cell? ⟨P9, 1, none⟩ = some (.string M) := C8.out.cell (j := 1) (by omega); have p2 : w8.cell? ⟨P9, 2, none⟩ = some (.int .i64 0) := C8.out.cell (j := 2) (by omega); have p3 : w8.cell? ⟨P9, 3, none⟩ = some (.bool false) := C8.out.cell (j := 3) (by omega)))
            go_roundw
            case rel => exact ⟨k + 1, cn + 1, _, D6, S6, HK1.out, by go_num, (HJ6.out.below Bw7.out).kp (Kp.of_but (base := 0) U8.out YP9.out (Nat.zero_le _)) (by decide) (by decide), by have := CN2.out; omega, fun hh => by rw [PAP.out, upd_same]; exact NX.out hh, B8.out⟩
            case measure => simp [intOf]; have := HK1.out; omega
      · clear hJ hB hI
        by_cases lst : k + 1 = K
        · have FE := Lib.hid (fun (F' : Int → Option Pk.St) (e : F' q.ap = F q.ap) => show Pk.feed (F' p.ap) p = (st, ⟨true, ms, 0, false⟩) by rw [pap, e, hf, decide_eq_true (show n ≤ (k + 1) * mo by omega)])
          have MS := Lib.hid (show bs ms = q.da by rw [hms (by rw [DL.out]; omega), BD.out])
          clear hf hnx hms pap hp hkn hcn LST
          have t3 : decide ((k : Int) < (no : Int)) = false := decide_eq_false (by omega)
          have t3n : decide (k < no) = false := decide_eq_false (by omega)
          have b1 : ((k : Int) == (K1 : Int)) = true := by have := HKK.out; simp; omega
          clear hk hlt
          go_wp2_with fail
          go_quiet (fail)
          go_wp2_with (refine wpList_load_mid rfl 23 (.tmp 82) rfl g (k * 5) rfl [.bool p.cmd, .int .i64 p.ap, .int .i64 p.fl, .int .i64 p.ct, .string p.da] _ (RNG.out _ (below_drewN HB.out _)) Try.underlying23 rfl info_pk ?_)
          (refine (pfeed_ok (HJ.out.below (below_drewN (Below.refl _ _) _)) ((below_drewN HB.out _)).size CN.out p OKP.out HI.out).mono ?_)
          rintro e w6 ⟨D6, S6, he, J6, K6⟩
          rw [FE.out _ rfl] at he J6
          have he : e = .returned (.tuple #[.agg #[.bool true, .string (bs ms), .int .i64 0, .bool false], .int .i64 0]) := he
          rw [MS.out] at he
          subst he
          have B6 := Lib.hid (((below_drewN HB.out _)).trans K6.below)
          have HJ6 := Lib.hid J6
          clear J6
          go_wp2_with (first
            | (refine wpList_newT rfl (.alloc 52) rfl (some 9) rfl #[.bool false, .string ⟨#[]⟩, .int .i64 0, .bool false] 52 (fun X => .pointer (some ⟨X, 0, none⟩)) 4 (pcC false ⟨#[]⟩ 0 false) (pc_cells false ⟨#[]⟩ 0 false) (alloc_piece rfl) ?_; intro P9 w7 HP9 Sw7 CP9 Bw7 YP9)
            | (refine wpList_setAllT rfl 52 (.tmp 9) (.tmp 85) rfl P9 4 [.bool true, .string q.da, .int .i64 0, .bool false] _ (pcC true q.da 0 false) CP9.out rfl (fun j hj => by match j, hj with | 0, _ => rfl | 1, _ => rfl | 2, _ => rfl | 3, _ => rfl) rfl rfl pc_info (by simp [Value.oneCell']) ?_; intro w8 C8 U8 S8 V8; have B8 := Lib.hid (But.under (B6.out.trans (Bw7.out.mono B6.out.size)) U8.out (by have := HP9.out; have := B6.out.size; omega)); have CX8 := Lib.hid (CX2.out.below B8.out); have x3 : w8.cell? ⟨X, 4, none⟩ = some (.string q.da) := CX8.out.cell (j := 4) (by omega); have p0 : w8.cell? ⟨P9, 0, none⟩ = some (.bool true) := C8.out.cell (j := 0) (by omega); have p1 : w8.cell? ⟨P9, 1, none⟩ = some (.string q.da) := C8.out.cell (j := 1) (by omega); have p2 : w8.cell? ⟨P9, 2, none⟩ = some (.int .i64 0) := C8.out.cell (j := 2) (by omega); have p3 : w8.cell? ⟨P9, 3, none⟩ = some (.bool false) := C8.out.cell (j := 3) (by omega)))
          go_roundw
          case rel => exact ⟨k + 1, cn + 1, _, D6, S6, HK1.out, by go_num, (HJ6.out.below Bw7.out).kp (Kp.of_but (base := 0) U8.out YP9.out (Nat.zero_le _)) (by decide) (by decide), by have := CN2.out; omega, fun hh => by rw [PAP.out, upd_same]; exact NX.out hh, B8.out⟩
          case measure => simp [intOf]; have := HK1.out; omega
        · have FE := Lib.hid (fun (F' : Int → Option Pk.St) (e : F' q.ap = F q.ap) => show Pk.feed (F' p.ap) p = (st, ⟨false, ms, 0, false⟩) by rw [pap, e, hf, decide_eq_false (show ¬ n ≤ (k + 1) * mo by omega)])
          obtain ⟨M, hM⟩ : ∃ M, bs ms = M := ⟨_, rfl⟩
          have MS := Lib.hid hM
          clear hf hnx hms pap hp hkn hcn hM LST
          have t3 : decide ((k : Int) < (no : Int)) = false := decide_eq_false (by omega)
          have t3n : decide (k < no) = false := decide_eq_false (by omega)
          have b1 : ((k : Int) == (K1 : Int)) = false := by have := HKK.out; simp; omega
          clear hk hlt
          go_wp2_with fail
          go_quiet (fail)
          go_wp2_with (refine wpList_load_mid rfl 23 (.tmp 82) rfl g (k * 5) rfl [.bool p.cmd, .int .i64 p.ap, .int .i64 p.fl, .int .i64 p.ct, .string p.da] _ (RNG.out _ (below_drewN HB.out _)) Try.underlying23 rfl info_pk ?_)
          (refine (pfeed_ok (HJ.out.below (below_drewN (Below.refl _ _) _)) ((below_drewN HB.out _)).size CN.out p OKP.out HI.out).mono ?_)
          rintro e w6 ⟨D6, S6, he, J6, K6⟩
          rw [FE.out _ rfl] at he J6
          have he : e = .returned (.tuple #[.agg #[.bool false, .string (bs ms), .int .i64 0, .bool false], .int .i64 0]) := he
          rw [MS.out] at he
          subst he
          have B6 := Lib.hid (((below_drewN HB.out _)).trans K6.below)
          have HJ6 := Lib.hid J6
          clear J6
          go_wp2_with (first
            | (refine wpList_newT rfl (.alloc 52) rfl (some 9) rfl #[.bool false, .string ⟨#[]⟩, .int .i64 0, .bool false] 52 (fun X => .pointer (some ⟨X, 0, none⟩)) 4 (pcC false ⟨#[]⟩ 0 false) (pc_cells false ⟨#[]⟩ 0 false) (alloc_piece rfl) ?_; intro P9 w7 HP9 Sw7 CP9 Bw7 YP9)
            | (refine wpList_setAllT rfl 52 (.tmp 9) (.tmp 85) rfl P9 4 [.bool false, .string M, .int .i64 0, .bool false] _ (pcC false M 0 false) CP9.out rfl (fun j hj => by match j, hj with | 0, _ => rfl | 1, _ => rfl | 2, _ => rfl | 3, _ => rfl) rfl rfl pc_info (by simp [Value.oneCell']) ?_; intro w8 C8 U8 S8 V8; have B8 := Lib.hid (But.under (B6.out.trans (Bw7.out.mono B6.out.size)) U8.out (by have := HP9.out; have := B6.out.size; omega)); have CX8 := Lib.hid (CX2.out.below B8.out); have x3 : w8.cell? ⟨X, 4, none⟩ = some (.string q.da) := CX8.out.cell (j := 4) (by omega); have p0 : w8.cell? ⟨P9, 0, none⟩ = some (.bool false) := C8.out.cell (j := 0) (by omega); have p1 : w8.cell? ⟨P9, 1, none⟩ = some (.string M) := C8.out.cell (j := 1) (by omega); have p2 : w8.cell? ⟨P9, 2, none⟩ = some (.int .i64 0) := C8.out.cell (j := 2) (by omega); have p3 : w8.cell? ⟨P9, 3, none⟩ = some (.bool false) := C8.out.cell (j := 3) (by omega)))
          go_roundw
          case rel => exact ⟨k + 1, cn + 1, _, D6, S6, HK1.out, by go_num, (HJ6.out.below Bw7.out).kp (Kp.of_but (base := 0) U8.out YP9.out (Nat.zero_le _)) (by decide) (by decide), by have := CN2.out; omega, fun hh => by rw [PAP.out, upd_same]; exact NX.out hh, B8.out⟩
          case measure => simp [intOf]; have := HK1.out; omega
    · obtain rfl : K = k := by omega
      clear hB
      go_wp2_with fail
      go_ret
      exact ⟨rfl, B2.out.trans (HB.out.mono B2.out.size)⟩
end packetMessage
end Go.Proofs.Ytphkaambodecdaa
