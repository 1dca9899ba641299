/- ViterbiCorrects: whichever four symbols of a message (of at most 200 bytes) are inverted, it is decoded. No condition. -/
import Derived.Test.YtgfihljledmaaaaRowKit
import Derived.Test.YtgfihljledmaaaaVitAwake
import Derived.Test.YtgfihljledmaaaaVitCor
import Derived.Test.YtgfihljledmaaaaPickKit
namespace Go.Proofs.Ytgfihljledmaaaa
open Go.ChangeShapes Go.WideShapes Go.ChangeAt Go.RowKit
set_option linter.unusedVariables false

namespace viterbiCorrects
theorem cells_int : Try.prog.cellsOf 3 = 1 := by kernel_rfl
theorem one_less (v : Nat) (h : v < 2) : IntKind.u8.wrap (1 - (v : Int)) = ((1 - v : Nat) : Int) := by
  rw [IntKind.wrap_u8]
  omega
set_option maxRecDepth 100000 in
set_option maxHeartbeats 1000000 in
theorem walk (d : ByteArray) (hd : d.size ≤ maxLen) (ao : Option Addr) (cap : Nat) (zs : List Int) (hl : zs.length ≤ cap) (hm : cap ≤ maxLen) (hw : ∀ n ∈ zs, (Lit.int .i64 n).wf = true) (w : World) (hr : Reads .i64 w ao zs) :
    Calls Try.prog 7 #[.string d, .slice ao zs.length cap] w fun e w' => e = .returned (.bool true) ∧ Below w.heap.size w w' := by
  unfold maxLen at hm hd
  have AW := Lib.hid (fun w => awake_any w)
  have R0 := Lib.hid (show Ints w ao zs from hr)
  obtain ⟨K, hK⟩ : ∃ N, zs.length = N := ⟨_, rfl⟩
  obtain ⟨n, hn⟩ : ∃ k, d.size = k := ⟨_, rfl⟩
  rw [hK] at hl ⊢
  rw [hn] at hd
  have HK := Lib.hid hK
  have HW := Lib.hid (fun i (hi : i < K) => hw (zs.getD i 0) (by rw [getD_at zs (by rw [hK]; exact hi)]; exact List.getElem_mem _))
  clear hr hw hK
  by_cases h1 : 200 < n
  · have h1' : decide ((200 : Int) < (n : Int)) = true := by simp; omega
    clear R0
    go_enter Try.func7, Try.ntmps7
    go_wp2_with fail
    (with_reducible refine (AW.out _).mono ?_)
    rintro e w1 ⟨rfl, h1⟩
    go_wp2_with fail
    go_ret
    exact ⟨rfl, h1⟩
  have h1' : decide ((200 : Int) < (n : Int)) = false := by simp; omega
  have E := Lib.hid (fun w => rencode_any d n hn (by omega) w)
  have sX : (encS d n).size = 16 * n + 12 := coefs_size _ _
  have EA := Lib.hid (fun i hi => encS_at d n i hi)
  have EL : ∀ i, i < 16 * n + 12 → (Gal.co (encS d n).data.toList i).toNat < 2 := fun i hi => by rw [EA.out i hi]; exact Cv.sym_lt _ _
  have ME := Lib.hid (fun (f : Nat → BitVec 8) (D : ByteArray) hD h2 h4 ht => mended (f := f) (d := d) (D := D) (n := n) hn hD h2 h4 ht)
  have DO := Lib.hid (fun (zs : List Int) hl hs => dcOk_of (zs := zs) (n := n) (by omega) hl hs)
  obtain ⟨X, hX⟩ : ∃ x, encS d n = x := ⟨_, rfl⟩
  rw [hX] at E sX EL EA
  obtain ⟨g, hg⟩ : ∃ g, Cv.sym (Cv.mb (Gal.co d.data.toList) n) = g := ⟨_, rfl⟩
  rw [hg] at EA ME
  obtain ⟨N, hN⟩ : ∃ N, 16 * n + 12 = N := ⟨_, rfl⟩
  rw [hN] at sX EA EL ME DO
  have N2 : N ≤ 3212 := by omega
  have N0 : 12 ≤ N := by omega
  have W0 := Lib.hid (wrong_zero (f := Gal.co X.data.toList) (g := g) N (fun i hi => EA.out i hi))
  have EL0 := Lib.hid EL
  clear hX hg hN EA EL
  have SX := Lib.hid sX
  go_enter Try.func7, Try.ntmps7
  go_wp2_with fail
  (with_reducible refine (E.out _).mono ?_)
  rintro e w1 ⟨rfl, hb1⟩
  have c1 := run_bytes_of_string (P := Try.prog) w1 9 37 5 X Try.underlying9 Try.underlying37 Try.underlying5
  obtain ⟨C, hcap⟩ : ∃ C, grownCap w1 X.size 0 5 = C := ⟨_, rfl⟩
  rw [hcap, sX] at c1
  have H1 := nums_new X C 5 w1.drew
  rw [sX] at H1
  have B2 := ba hb1.drew (.cells (bytesRow X C) 5 ((bytesRow X C).size, (bytesRow X C).size + 1))
  obtain ⟨w2, hw2⟩ : ∃ w4, w1.drew.alloc (.cells (bytesRow X C) 5 ((bytesRow X C).size, (bytesRow X C).size + 1)) = w4 := ⟨_, rfl⟩
  rw [hw2] at c1 H1 B2
  have ge := hb1.size
  obtain ⟨lb, hlb⟩ : ∃ lb, w1.heap.size = lb := ⟨_, rfl⟩
  rw [show w1.drew.heap.size = lb from hlb] at H1
  rw [hlb] at c1 ge
  have C1 := Lib.hid c1
  have HN := Lib.hid H1
  have HB := Lib.hid B2
  have GE := Lib.hid ge
  clear hcap c1 H1 hlb ge B2 hw2 hb1 E
  go_wp2_with (simp only [C1.out])
  clear C1
  go_loopw [8] (fun x wr => ∃ (i : Nat) (f : Nat → BitVec 8), i ≤ K ∧ i ≤ 4 ∧ x = .int .i64 (i : Nat) ∧ NumsK .u8 wr lb N (fun j => (f j).toNat) ∧ (∀ j, j < N → (f j).toNat < 2) ∧ wrong f g N ≤ i ∧ Below w.heap.size w wr) (fun x _ => 4 - (intOf x).toNat)
  case atStart => exact ⟨0, Gal.co X.data.toList, Nat.zero_le _, by omega, rfl, HN.out, EL0.out, by rw [W0.out]; omega, HB.out⟩
  case round =>
    obtain ⟨i, f, hi, hi4, rfl, hI, hf2, hwr, hB⟩ := hrel
    have I1 := Lib.hid hI
    have F2 := Lib.hid hf2
    have WR := Lib.hid hwr
    have B1 := Lib.hid hB
    clear hI hf2 hwr hB HN HB W0 EL0
    by_cases hlt : i < K ∧ i < 4
    · obtain ⟨iK, i4⟩ := hlt
      have t1 : decide ((i : Int) < (K : Int)) = true := by simp; omega
      have t2 : decide ((i : Int) < 4) = true := by simp; omega
      obtain ⟨pb, po, rfl, hpb, hc⟩ := R0.out.cell (by rw [HK.out]; omega)
      have cz := (B1.out.cell (p := ⟨pb, po + i, none⟩) hpb).trans (hc i (by rw [HK.out]; exact iK))
      obtain ⟨z, hz⟩ : ∃ z, zs.getD i 0 = z := ⟨_, rfl⟩
      have zw := HW.out i iK
      rw [hz] at cz zw
      have PK := Lib.hid (fun w => pick_any z zw N (by omega) (by omega) w)
      have kN : (z % (N : Int)).toNat < N := by
        have := Int.emod_nonneg z (show (N : Int) ≠ 0 by omega)
        have := Int.emod_lt_of_pos z (show 0 < (N : Int) by omega)
        omega
      obtain ⟨k, hk⟩ : ∃ k, (z % (N : Int)).toNat = k := ⟨_, rfl⟩
      rw [hk] at PK kN
      have il : (i : Int) < (K : Int) := by omega
      have kl : (k : Int) < (N : Int) := by omega
      clear hk hz zw hc
      go_wp2_with fail
      (with_reducible refine (PK.out _).mono ?_)
      rintro e w4 ⟨rfl, rfl⟩
      clear PK cz
      have cp := I1.out.cell kN
      have fp := I1.out.frozen kN
      have v2 := F2.out k kN
      have S := Lib.hid (I1.out.set (g := fun p => ((fun p => if p = k then BitVec.ofNat 8 (1 - (f k).toNat) else f p) p).toNat) k (1 - (f k).toNat) kN (by show (if k = k then _ else _ : BitVec 8).toNat = _; rw [if_pos rfl, BitVec.toNat_ofNat]; omega) (fun p _ hp => by show (if p = k then _ else _ : BitVec 8).toNat = _; rw [if_neg hp]))
      have F3 := Lib.hid (show ∀ j, j < N → ((fun p => if p = k then BitVec.ofNat 8 (1 - (f k).toNat) else f p) j).toNat < 2 from fun j hj => by
        show (if j = k then _ else _ : BitVec 8).toNat < 2
        by_cases e : j = k
        · rw [if_pos e, BitVec.toNat_ofNat]; omega
        · rw [if_neg e]; exact F2.out j hj)
      have W3 := Lib.hid (show wrong (fun p => if p = k then BitVec.ofNat 8 (1 - (f k).toNat) else f p) g N ≤ i + 1 from by
        have a := wrong_set (f := f) (e := fun p => if p = k then BitVec.ofNat 8 (1 - (f k).toNat) else f p) (g := g) k (fun p hp => by show (if p = k then _ else _ : BitVec 8) = _; rw [if_neg hp]) N
        have b := WR.out
        rw [if_pos kN] at a
        omega)
      obtain ⟨f3, hf3⟩ : ∃ f3 : Nat → BitVec 8, (fun p => if p = k then BitVec.ofNat 8 (1 - (f k).toNat) else f p) = f3 := ⟨_, rfl⟩
      rw [hf3] at S F3 W3
      obtain ⟨v, hv⟩ : ∃ v, (f k).toNat = v := ⟨_, rfl⟩
      rw [hv] at cp S v2
      have w8 := one_less v v2
      have v3 : (v : Int) < 2 := by omega
      have B3 := Lib.hid (B1.out.setCell (p := ⟨lb, k, none⟩) GE.out (.int .u8 ((1 - v : Nat) : Int)))
      clear hf3 hv F2 WR
      go_wp2_with fail
      go_roundw
      case rel => exact ⟨i + 1, f3, by omega, by omega, by go_num, S.out, F3.out, W3.out, B3.out⟩
      case measure => simp [intOf]; omega
    · obtain ⟨Y, hY⟩ : ∃ Y, ByteArray.mk (Gal.coefs f N).toArray = Y := ⟨_, rfl⟩
      have CV := Lib.hid (show (convert 37 9 (.slice (some ⟨lb, 0, none⟩) N C)).run Try.prog wr = .ok (.string Y) wr by rw [← hY]; exact nums_back C I1.out)
      have SA := Lib.hid (show listOk Y.data.toList = true by rw [← hY]; exact (soft_symbols F2.out).1)
      have SB := Lib.hid (DO.out (zof (sft Y.data.toList) N) (zof_len _ _) (by rw [← hY]; exact (soft_symbols F2.out).2))
      have MD := Lib.hid (show ∀ (D : ByteArray), D.size = n → Vit.Top (fz (zof (sft Y.data.toList) N)) n (Gal.co D.data.toList) → D = d from fun D hD ht => ME.out f D hD F2.out (Nat.le_trans WR.out hi4) (by rw [← hY] at ht; exact ht))
      have sY : Y.size = N := by rw [← hY]; exact coefs_size _ _
      have SF := Lib.hid (fun w => soften_any Y N sY (by omega) w)
      have DE := Lib.hid (fun a c w R hc => decode_any a c (zof (sft Y.data.toList) N) N (zof_len _ _) (by omega) (n : Int) w R hc)
      clear hY I1 F2 WR ME HW HK sY DO
      by_cases c : i < K
      · have t1 : decide ((i : Int) < (K : Int)) = true := by simp; omega
        have t2 : decide ((i : Int) < 4) = false := by simp; omega
        go_wp2_with (simp only [CV.out])
        (with_reducible refine (SF.out _).mono ?_)
        intro e w5 hs
        rcases softA_cases hs with ⟨_, sa, sc, rfl, ⟨si, sic⟩, h5⟩ | ⟨q, _⟩
        rotate_left
        · exact absurd SA.out (by rw [q]; simp)
        have B5 := Lib.hid (bt B1.out h5)
        have SI := Lib.hid si
        have SIC := Lib.hid sic
        clear hs h5 si sic B1
        go_wp2_with fail
        (with_reducible refine (DE.out sa sc _ SI.out SIC.out).mono ?_)
        rintro e w6 ⟨hd6, h6⟩
        rcases decA_cases hd6 with ⟨_, D, g1, g2, rfl⟩ | ⟨q, _⟩
        rotate_left
        · exact absurd SB.out q
        obtain rfl := MD.out D (by rw [g1]; rfl) g2
        obtain ⟨y, hy⟩ : ∃ y, Vit.msum (fz (zof (sft Y.data.toList) N)) (n : Int).toNat (Gal.co D.data.toList) = y := ⟨_, rfl⟩
        rw [hy]
        have ee : (D == D) = true := by show (D.data == D.data) = true; simp
        have B6 := Lib.hid (bt B5.out h6)
        clear hd6 h6 g1 g2 hy B5 SI DE MD
        go_wp2_with fail
        (with_reducible refine (AW.out _).mono ?_)
        rintro e w7 ⟨rfl, h7⟩
        have B7 := Lib.hid (bt B6.out h7)
        clear h7 B6
        go_wp2_with fail
        go_ret
        exact ⟨rfl, B7.out⟩
      · have t1 : decide ((i : Int) < (K : Int)) = false := by simp; omega
        go_wp2_with (simp only [CV.out])
        (with_reducible refine (SF.out _).mono ?_)
        intro e w5 hs
        rcases softA_cases hs with ⟨_, sa, sc, rfl, ⟨si, sic⟩, h5⟩ | ⟨q, _⟩
        rotate_left
        · exact absurd SA.out (by rw [q]; simp)
        have B5 := Lib.hid (bt B1.out h5)
        have SI := Lib.hid si
        have SIC := Lib.hid sic
        clear hs h5 si sic B1
        go_wp2_with fail
        (with_reducible refine (DE.out sa sc _ SI.out SIC.out).mono ?_)
        rintro e w6 ⟨hd6, h6⟩
        rcases decA_cases hd6 with ⟨_, D, g1, g2, rfl⟩ | ⟨q, _⟩
        rotate_left
        · exact absurd SB.out q
        obtain rfl := MD.out D (by rw [g1]; rfl) g2
        obtain ⟨y, hy⟩ : ∃ y, Vit.msum (fz (zof (sft Y.data.toList) N)) (n : Int).toNat (Gal.co D.data.toList) = y := ⟨_, rfl⟩
        rw [hy]
        have ee : (D == D) = true := by show (D.data == D.data) = true; simp
        have B6 := Lib.hid (bt B5.out h6)
        clear hd6 h6 g1 g2 hy B5 SI DE MD
        go_wp2_with fail
        (with_reducible refine (AW.out _).mono ?_)
        rintro e w7 ⟨rfl, h7⟩
        have B7 := Lib.hid (bt B6.out h7)
        clear h7 B6
        go_wp2_with fail
        go_ret
        exact ⟨rfl, B7.out⟩

set_option maxRecDepth 100000 in
theorem lifted (os : Os) (started : os.Started) (H : Type) (enc : TypeId × Value → H) :
    ReturnsInHanded {} Try.checked os 7 .any (Rows.viterbiCorrectsSpec.pre6 enc Try.prog Try.f7 Rows.viterbiCorrectsRow.domain false) (Rows.viterbiCorrectsSpec.post enc Try.prog Try.f7 false true false false) := by
  refine returnsInHanded_of_change (C := Try.checked) own started (by kernel_rfl) Try.func7
    (ChangeSpec.witness6 (enc := enc) (C := Try.checked) false ⟨#[], #[.string { data := #[] }, .slice none 0 0], []⟩ 8 (by kernel_rfl) (by kernel_rfl) (by kernel_rfl) (by kernel_rfl)) ?_
  intro W base args ds gs before hval0 hW _ _
  have hval : ∀ (j : Nat) t v, Try.f7.params[j]? = some t → args[j]? = some v → Value.okWide Try.prog W .any base t v := hval0
  have hW' := hW
  obtain ⟨p, q, hA0, hV, rfl, hfz, hnd⟩ := hW
  have hA : DataW.TrodAll enc Try.prog W 0 (fun _ => true) true Try.f7.params.toList args.toList ds p := hA0
  rw [Try.params7] at hA hval
  obtain ⟨v0, vs0, d0, ds0, p0, q0, hargs, rfl, rfl, h0, r0⟩ := trodAll_cons hA
  obtain ⟨v1, vs1, d1, ds1, p1, q1, rfl, rfl, rfl, h1, r1⟩ := trodAll_cons r0
  obtain ⟨rfl, rfl, rfl⟩ := trodAll_nil r1
  obtain rfl : args = #[v0, v1] := by cases args; simp_all
  obtain ⟨rfl, rfl⟩ := trodVars_none hV
  obtain ⟨a0, rfl, rfl, rfl, w0⟩ := ChangeMaps.open_string Try.underlying9 (hval 0 9 v0 rfl rfl) h0
  obtain ⟨x1, y1, z1, e1⟩ := okWide_slice Try.underlying22 (hval 1 22 v1 rfl rfl)
  obtain ⟨zs1, S1⟩ := slice_arg (k := .i64) Try.underlying22 Try.underlying3 cells_int (by rw [e1]; rfl) h1
  clear e1
  obtain ⟨⟨ao1, cap1, rfl, l1, m1, R1⟩, w1, shut1⟩ := S1
  clear hA0 hval0
  simp only [List.append_nil] at hW'
  refine (walk a0 w0 ao1 cap1 zs1 l1 m1 w1 W R1).mono fun e W' ⟨he, hg⟩ => ?_
  subst he
  exact ⟨_, rfl, post_of_below (pa := ([] ++ (p1 ++ []))) (pv := []) hW' (fun _ _ _ => trodAll_cons_mk (shut_bool Try.underlying4 _) trodAll_mk0) (fun sp hsp => (trodAll_cons_mk (ChangeMaps.shut_string Try.underlying9 w0) (trodAll_cons_mk (shut1 W' hg sp (fun q hq => hsp q (by simp [hq]))) trodAll_mk0))) (fun _ _ => rfl) (by simp)
    hg (ok_one (by kernel_rfl) rfl (okWide_bool_mk Try.underlying4 _))⟩

theorem proved : Rows.ViterbiCorrectsSaid :=
  OpenClaim.holds_of_wide 7 Try.f7 rfl rfl rfl rfl rfl rfl rfl ⟨rfl, rfl, rfl, rfl, rfl⟩ rfl rfl rfl rfl rfl (by kernel_rfl) Try.func7 (by kernel_rfl)
    (of_decide_eq_true (by kernel_rfl)) (by unfold Func.isWrapper; first | (rw [if_pos (by decide +kernel)]; kernel_rfl) | (rw [if_neg (by decide +kernel)]; exact ⟨rfl, rfl⟩))
    (fun os started H enc _ => lifted os started H enc)
#print axioms proved
end viterbiCorrects
end Go.Proofs.Ytgfihljledmaaaa
