/- ViterbiShifts: if all values are doubled, the message of the greatest sum stays, and its sum is doubled (of messages of at most 200 bytes). No condition. -/
import Derived.Test.YtgfihljledmaaaaRowKit
import Derived.Test.YtgfihljledmaaaaVitAwake
import Derived.Test.YtgfihljledmaaaaVitCor
import Derived.Test.YtgfihljledmaaaaPickKit
namespace Go.Proofs.Ytgfihljledmaaaa
open Go.ChangeShapes Go.WideShapes Go.ChangeAt Go.RowKit
set_option linter.unusedVariables false

namespace viterbiShifts
theorem cells_i8 : Try.prog.cellsOf 59 = 1 := by kernel_rfl
/-- A value halved, then doubled. -/
theorem half (x : Int) (h : sOk x) : sOk (x.tdiv 2) ∧ sOk (2 * x.tdiv 2) ∧ x.tdiv 2 ≤ 3 ∧ -4 ≤ x.tdiv 2 := by
  unfold sOk at h
  have : x = -8 ∨ x = -7 ∨ x = -6 ∨ x = -5 ∨ x = -4 ∨ x = -3 ∨ x = -2 ∨ x = -1 ∨ x = 0 ∨ x = 1 ∨ x = 2 ∨ x = 3 ∨ x = 4 ∨ x = 5 ∨ x = 6 ∨ x = 7 := by omega
  rcases this with rfl | rfl | rfl | rfl | rfl | rfl | rfl | rfl | rfl | rfl | rfl | rfl | rfl | rfl | rfl | rfl <;> decide
set_option maxRecDepth 100000 in
set_option maxHeartbeats 1000000 in
theorem walk (d : ByteArray) (hd : d.size ≤ maxLen) (ao : Option Addr) (cap : Nat) (zs : List Int) (hl : zs.length ≤ cap) (hm : cap ≤ maxLen) (hw : ∀ n ∈ zs, (Lit.int .i8 n).wf = true) (w : World) (hr : Reads .i8 w ao zs) :
    Calls Try.prog 8 #[.string d, .slice ao zs.length cap] w fun e w' => e = .returned (.bool true) ∧ Below w.heap.size w w' := by
  unfold maxLen at hm hd
  have AW := Lib.hid (fun w => awake_any w)
  have R0 := Lib.hid (noise_arg hr hw)
  obtain ⟨K, hK⟩ : ∃ N, zs.length = N := ⟨_, rfl⟩
  obtain ⟨m, hn⟩ : ∃ k, d.size = k := ⟨_, rfl⟩
  rw [hK] at hl ⊢
  rw [hn] at hd
  clear hr hw
  by_cases h1 : 200 < m
  · have h1' : decide ((200 : Int) < (m : Int)) = true := by simp; omega
    clear R0
    go_enter Try.func8, Try.ntmps8
    go_wp2_with fail
    (with_reducible refine (AW.out _).mono ?_)
    rintro e w1 ⟨rfl, h1⟩
    go_wp2_with fail
    go_ret
    exact ⟨rfl, h1⟩
  have h1' : decide ((200 : Int) < (m : Int)) = false := by simp; omega
  by_cases h2 : 5000 < K
  · have h2' : decide ((5000 : Int) < (K : Int)) = true := by simp; omega
    clear R0
    go_enter Try.func8, Try.ntmps8
    go_wp2_with fail
    (with_reducible refine (AW.out _).mono ?_)
    rintro e w1 ⟨rfl, h1⟩
    go_wp2_with fail
    go_ret
    exact ⟨rfl, h1⟩
  have h2' : decide ((5000 : Int) < (K : Int)) = false := by simp; omega
  have RC := Lib.hid (received_any d m hn (by omega) ao cap zs K hK (by omega) w R0.out)
  obtain ⟨i0, hi0, hz0, hz1, hz2⟩ := info_parts info_i64
  clear R0 hK
  go_enter Try.func8, Try.ntmps8
  go_wp2_with fail
  (with_reducible refine RC.out.mono ?_)
  rintro e w1 ⟨lb, lc, f, rfl, ge, iw, so, hb1⟩
  have B1 := Lib.hid hb1
  have I1 := Lib.hid iw
  have SO := Lib.hid so
  have GE := Lib.hid ge.1
  have GC := Lib.hid ge.2
  have LB := Lib.hid iw.1
  have TP := Lib.hid (fun (D E : ByteArray) (h : Nat → Int) hD hE td te => doubled (h := h) (N := 16 * m + 12) (n := m) (D := D) (E := E) hD hE td te)
  have BN := Lib.hid (fun (h : Nat → Int) (q : ∀ i, i < 16 * m + 12 → sOk (h i)) (D : ByteArray) => msum_bound (n := m) (f := fz (zof h (16 * m + 12))) (fun i hi => by rw [fz_zof hi]; exact q i hi) (Gal.co D.data.toList))
  have OK := Lib.hid (fun (h : Nat → Int) (q : ∀ i, i < 16 * m + 12 → sOk (h i)) => dcOk_of (zs := zof h (16 * m + 12)) (n := m) (by omega) (zof_len _ _) (softOk_zof q))
  clear ge iw so hb1 RC
  obtain ⟨N, hN⟩ : ∃ N, 16 * m + 12 = N := ⟨_, rfl⟩
  rw [hN] at I1 SO TP BN OK GC ⊢
  have N2 : N ≤ 3212 := by omega
  have N0 : 12 ≤ N := by omega
  go_wp2_with (at_make; refine wpList_make_full _ rfl _ _ 22 rfl w1.heap.size 3 i0 (.int .i64 0) 1 Try.underlying22 hi0 hz0 hz1 .i64 .i64 _ _ N rfl rfl rfl rfl (by rw [hz2]; omega) (by unfold maxLen; omega) (Nat.le_refl _) ?_; intro w2 hown hgrow)
  have hb2 := (Below.refl w1.heap.size w1).grown hgrow (Nat.le_refl _) (fun k e => by cases e)
  have I2 := Lib.hid (I1.out.below hb2)
  have J2 := Lib.hid (IntsW.of_own (f := fun _ => 0) (by
    have := hown
    rw [show (madeCells (Value.int IntKind.i64 0).cells (N * 1)).toList = zlist (fun _ => 0) N from by rw [Nat.mul_one]; exact (toList_madeCells_one _ _).trans (by unfold zlist; simp [List.map_const'])] at this
    exact this))
  have B2 := Lib.hid (bt B1.out hb2)
  have NE := Lib.hid (show w1.heap.size ≠ lb from fun e => Nat.lt_irrefl _ (e ▸ LB.out))
  have GB := Lib.hid B1.out.size
  obtain ⟨db, hdb⟩ : ∃ x, w1.heap.size = x := ⟨_, rfl⟩
  rw [hdb] at J2 NE GB ⊢
  have HF := Lib.hid (fun i (hi : i < N) => half (f i) (SO.out i hi))
  obtain ⟨hf, hhf⟩ : ∃ hf : Nat → Int, (fun i => (f i).tdiv 2) = hf := ⟨_, rfl⟩
  have HE := Lib.hid (fun i => congrFun hhf i)
  clear hhf hdb hown hgrow hb2 hi0 hz0 hz1 hz2 I1 B1 LB
  go_wp2_with fail
  go_loopw [7] (fun x wr => ∃ (i : Nat), i ≤ N ∧ x = .int .i64 (i : Nat) ∧ IntsW wr lb N (fun j => if j < i then hf j else f j) ∧ IntsW wr db N (fun j => if j < i then 2 * hf j else 0) ∧ Below w.heap.size w wr) (fun x _ => N - (intOf x).toNat)
  case atStart => exact ⟨0, Nat.zero_le _, rfl, I2.out.congr (fun j _ => by rw [if_neg (Nat.not_lt_zero j)]), J2.out.congr (fun j _ => by rw [if_neg (Nat.not_lt_zero j)]), B2.out⟩
  case round =>
    obtain ⟨i, hi, rfl, hI, hJ, hB⟩ := hrel
    have I3 := Lib.hid hI
    have J3 := Lib.hid hJ
    have B3 := Lib.hid hB
    clear hI hJ hB I2 J2 B2
    by_cases hlt : i < N
    · have t1 : decide ((i : Int) < (N : Int)) = true := by simp; omega
      have il : (i : Int) < (N : Int) := by omega
      have c1 := I3.out.cell hlt
      rw [if_neg (Nat.lt_irrefl i)] at c1
      have fz1 := I3.out.frozen hlt
      have fz2 := J3.out.frozen hlt
      have c2 := J3.out.cell hlt
      obtain ⟨s1, s2, s3, s4⟩ := HF.out i hlt
      have he : (f i).tdiv 2 = hf i := HE.out i
      obtain ⟨x, hx⟩ : ∃ x, f i = x := ⟨_, rfl⟩
      obtain ⟨y, hy⟩ : ∃ x, hf i = x := ⟨_, rfl⟩
      rw [he] at s3 s4
      rw [hx] at c1 he
      rw [hy] at he s3 s4
      have w4 : IntKind.i64.wrap (2 * y) = 2 * y := by rw [IntKind.wrap_i64]; omega
      have w5 : IntKind.i64.wrap y = y := by rw [IntKind.wrap_i64]; omega
      have t3 : decide (3 < y) = false := by simp; omega
      have I4 := Lib.hid (((I3.out.set i y).congr (g := fun j => if j < i + 1 then hf j else f j) (fun j hj => by
        by_cases e : j = i
        · subst e; rw [if_pos rfl, if_pos (Nat.lt_succ_self _), hy]
        · rw [if_neg e]
          by_cases q : j < i
          · rw [if_pos q, if_pos (show j < i + 1 by omega)]
          · rw [if_neg q, if_neg (show ¬ j < i + 1 by omega)])).setOther (c := db) (i := i) NE.out (.int .i64 (2 * y)))
      have J4 := Lib.hid (((J3.out.setOther (c := lb) (i := i) (fun e => NE.out e.symm) (.int .i64 y)).set i (2 * y)).congr (g := fun j => if j < i + 1 then 2 * hf j else 0) (fun j hj => by
        by_cases e : j = i
        · subst e; rw [if_pos rfl, if_pos (Nat.lt_succ_self _), hy]
        · rw [if_neg e]
          by_cases q : j < i
          · rw [if_pos q, if_pos (show j < i + 1 by omega)]
          · rw [if_neg q, if_neg (show ¬ j < i + 1 by omega)]))
      have B4 := Lib.hid ((B3.out.setCell (p := ⟨lb, i, none⟩) GE.out (.int .i64 y)).setCell (p := ⟨db, i, none⟩) GB.out (.int .i64 (2 * y)))
      have c3 := (I3.out.set i y).cell hlt
      rw [if_pos rfl] at c3
      have fz3 := (J3.out.setOther (c := lb) (i := i) (fun e => NE.out e.symm) (.int .i64 y)).frozen hlt
      have c4 := (J3.out.setOther (c := lb) (i := i) (fun e => NE.out e.symm) (.int .i64 y)).cell hlt
      rw [if_neg (Nat.lt_irrefl i)] at c4
      clear hx hy s1 s2
      go_wp2_with fail
      go_roundw
      case rel => exact ⟨i + 1, by omega, by go_num, I4.out, J4.out, B4.out⟩
      case measure => simp [intOf]; omega
    · have t1 : decide ((i : Int) < (N : Int)) = false := by simp; omega
      have G1 := Lib.hid ((I3.out.congr (g := hf) (fun j hj => by rw [if_pos (show j < i by omega)])).ints)
      have G2 := Lib.hid ((J3.out.congr (g := fun j => 2 * hf j) (fun j hj => by rw [if_pos (show j < i by omega)])).ints)
      have B4 := B3
      have Q1 := Lib.hid (show ∀ i, i < N → sOk (hf i) from fun i hi => by rw [← HE.out i]; exact (HF.out i hi).1)
      have Q2 := Lib.hid (show ∀ i, i < N → sOk ((fun j => 2 * hf j) i) from fun i hi => by show sOk (2 * hf i); rw [← HE.out i]; exact (HF.out i hi).2.1)
      have OK1 := Lib.hid (OK.out hf Q1.out)
      have OK2 := Lib.hid (OK.out (fun j => 2 * hf j) Q2.out)
      have BN := Lib.hid (BN.out hf Q1.out)
      have P1 := Lib.hid (fun c w R hc => decode_any (some ⟨lb, 0, none⟩) c (zof hf N) N (zof_len _ _) (by omega) (m : Int) w R hc)
      have P2 := Lib.hid (fun c w R hc => decode_any (some ⟨db, 0, none⟩) c (zof (fun j => 2 * hf j) N) N (zof_len _ _) (by omega) (m : Int) w R hc)
      clear I3 J3 B3 HF HE Q1 Q2 OK SO TP
      go_wp2_with fail
      (with_reducible refine (P1.out lc _ G1.out GC.out).mono ?_)
      rintro e w5 ⟨q5, h5⟩
      rcases decA_cases q5 with ⟨_, D, g1, g2, rfl⟩ | ⟨q, _⟩
      rotate_left
      · exact absurd OK1.out q
      have S1 := Lib.hid (show D.size = m from by rw [g1]; rfl)
      have T1 := Lib.hid g2
      have BD := Lib.hid (BN.out D)
      obtain ⟨y, hy⟩ : ∃ y, Vit.msum (fz (zof hf N)) (m : Int).toNat (Gal.co D.data.toList) = y := ⟨_, rfl⟩
      have HY := Lib.hid hy
      rw [show (m : Int).toNat = m from rfl] at hy
      rw [hy] at BD
      have bd := BD.out
      rw [HY.out]
      have B5 := Lib.hid (bt B4.out h5)
      have K5 := Lib.hid (G2.out.below h5)
      clear q5 h5 g1 g2 B4 G1 G2 P1 hy
      go_wp2_with fail
      (with_reducible refine (P2.out N _ K5.out (Nat.le_refl _)).mono ?_)
      rintro e w6 ⟨q6, h6⟩
      rcases decA_cases q6 with ⟨_, E, f1, f2, rfl⟩ | ⟨q, _⟩
      rotate_left
      · exact absurd OK2.out q
      obtain ⟨rfl, dm⟩ := doubled S1.out (show E.size = m from by rw [f1]; rfl) T1.out f2
      rw [show Vit.msum (fz (zof (fun j => 2 * hf j) N)) (m : Int).toNat (Gal.co E.data.toList) = 2 * y from by rw [← HY.out]; exact dm]
      have ee : (E == E) = true := by show (E.data == E.data) = true; simp
      have B6 := Lib.hid (bt B5.out h6)
      have iy : IntKind.i64.wrap (2 * y) = 2 * y := by rw [IntKind.wrap_i64]; omega
      have yy : ((2 * y : Int) == 2 * y) = true := by simp
      clear q6 h6 f1 f2 B5 K5 P2 OK1 OK2 T1 S1 BD HY dm bd
      go_wp2_with fail
      (with_reducible refine (AW.out _).mono ?_)
      rintro e w7 ⟨rfl, h7⟩
      have B7 := Lib.hid (bt B6.out h7)
      clear h7 B6
      go_wp2_with fail
      go_ret
      exact ⟨rfl, B7.out⟩

set_option maxRecDepth 100000 in
theorem lifted (os : Os) (started : os.Started) (H : Type) (enc : TypeId × Value → H) :
    ReturnsInHanded {} Try.checked os 8 .any (Rows.viterbiShiftsSpec.pre6 enc Try.prog Try.f8 Rows.viterbiShiftsRow.domain false) (Rows.viterbiShiftsSpec.post enc Try.prog Try.f8 false true false false) := by
  refine returnsInHanded_of_change (C := Try.checked) own started (by kernel_rfl) Try.func8
    (ChangeSpec.witness6 (enc := enc) (C := Try.checked) false ⟨#[], #[.string { data := #[] }, .slice none 0 0], []⟩ 8 (by kernel_rfl) (by kernel_rfl) (by kernel_rfl) (by kernel_rfl)) ?_
  intro W base args ds gs before hval0 hW _ _
  have hval : ∀ (j : Nat) t v, Try.f8.params[j]? = some t → args[j]? = some v → Value.okWide Try.prog W .any base t v := hval0
  have hW' := hW
  obtain ⟨p, q, hA0, hV, rfl, hfz, hnd⟩ := hW
  have hA : DataW.TrodAll enc Try.prog W 0 (fun _ => true) true Try.f8.params.toList args.toList ds p := hA0
  rw [Try.params8] at hA hval
  obtain ⟨v0, vs0, d0, ds0, p0, q0, hargs, rfl, rfl, h0, r0⟩ := trodAll_cons hA
  obtain ⟨v1, vs1, d1, ds1, p1, q1, rfl, rfl, rfl, h1, r1⟩ := trodAll_cons r0
  obtain ⟨rfl, rfl, rfl⟩ := trodAll_nil r1
  obtain rfl : args = #[v0, v1] := by cases args; simp_all
  obtain ⟨rfl, rfl⟩ := trodVars_none hV
  obtain ⟨a0, rfl, rfl, rfl, w0⟩ := ChangeMaps.open_string Try.underlying9 (hval 0 9 v0 rfl rfl) h0
  obtain ⟨x1, y1, z1, e1⟩ := okWide_slice Try.underlying35 (hval 1 35 v1 rfl rfl)
  obtain ⟨zs1, S1⟩ := slice_arg (k := .i8) Try.underlying35 Try.underlying59 cells_i8 (by rw [e1]; rfl) h1
  clear e1
  obtain ⟨⟨ao1, cap1, rfl, l1, m1, R1⟩, w1, shut1⟩ := S1
  clear hA0 hval0
  simp only [List.append_nil] at hW'
  refine (walk a0 w0 ao1 cap1 zs1 l1 m1 w1 W R1).mono fun e W' ⟨he, hg⟩ => ?_
  subst he
  exact ⟨_, rfl, post_of_below (pa := ([] ++ (p1 ++ []))) (pv := []) hW' (fun _ _ _ => trodAll_cons_mk (shut_bool Try.underlying4 _) trodAll_mk0) (fun sp hsp => (trodAll_cons_mk (ChangeMaps.shut_string Try.underlying9 w0) (trodAll_cons_mk (shut1 W' hg sp (fun q hq => hsp q (by simp [hq]))) trodAll_mk0))) (fun _ _ => rfl) (by simp)
    hg (ok_one (by kernel_rfl) rfl (okWide_bool_mk Try.underlying4 _))⟩

theorem proved : Rows.ViterbiShiftsSaid :=
  OpenClaim.holds_of_wide 8 Try.f8 rfl rfl rfl rfl rfl rfl rfl ⟨rfl, rfl, rfl, rfl, rfl⟩ rfl rfl rfl rfl rfl (by kernel_rfl) Try.func8 (by kernel_rfl)
    (of_decide_eq_true (by kernel_rfl)) (by unfold Func.isWrapper; first | (rw [if_pos (by decide +kernel)]; kernel_rfl) | (rw [if_neg (by decide +kernel)]; exact ⟨rfl, rfl⟩))
    (fun os started H enc _ => lifted os started H enc)
#print axioms proved
end viterbiShifts
end Go.Proofs.Ytgfihljledmaaaa
