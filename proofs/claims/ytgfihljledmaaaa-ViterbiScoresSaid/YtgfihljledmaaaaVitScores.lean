/- ViterbiScores: of any values and symbols (at most 2000) and messages (at most 1200 bytes), the program's Score and Soften return what the document says. No condition. -/
import Derived.Test.YtgfihljledmaaaaRowKit
import Derived.Test.YtgfihljledmaaaaVitAwake
namespace Go.Proofs.Ytgfihljledmaaaa
open Go.ChangeShapes Go.WideShapes Go.ChangeAt Go.RowKit
set_option linter.unusedVariables false

namespace viterbiScores
theorem cells_int : Try.prog.cellsOf 3 = 1 := by kernel_rfl
set_option maxRecDepth 100000 in
set_option maxHeartbeats 1000000 in
theorem walk (ao : Option Addr) (cap : Nat) (zs : List Int) (hl : zs.length ≤ cap) (hm : cap ≤ maxLen) (hw : ∀ n ∈ zs, (Lit.int .i64 n).wf = true) (d : ByteArray) (hd : d.size ≤ maxLen) (s : ByteArray) (hs : s.size ≤ maxLen) (w : World) (hr : Reads .i64 w ao zs) :
    Calls Try.prog 4 #[.slice ao zs.length cap, .string d, .string s] w fun e w' => e = .returned (.bool true) ∧ Below w.heap.size w w' := by
  unfold maxLen at hm hd hs
  have AW := Lib.hid (fun w => awake_any w)
  have R0 := Lib.hid (show Ints w ao zs from hr)
  obtain ⟨N, hN⟩ : ∃ N, zs.length = N := ⟨_, rfl⟩
  obtain ⟨k, hk⟩ : ∃ k, d.size = k := ⟨_, rfl⟩
  obtain ⟨m, hm'⟩ : ∃ k, s.size = k := ⟨_, rfl⟩
  rw [hN] at hl ⊢
  rw [hk] at hd
  rw [hm'] at hs
  clear hr hw
  by_cases h1 : 2000 < N
  · have h1' : decide ((2000 : Int) < (N : Int)) = true := by simp; omega
    clear R0 hN
    go_enter Try.func4, Try.ntmps4
    go_wp2_with fail
    (with_reducible refine (AW.out _).mono ?_)
    rintro e w1 ⟨rfl, h1⟩
    go_wp2_with fail
    go_ret
    exact ⟨rfl, h1⟩
  have h1' : decide ((2000 : Int) < (N : Int)) = false := by simp; omega
  by_cases h2 : 1200 < k
  · have h2' : decide ((1200 : Int) < (k : Int)) = true := by simp; omega
    clear R0 hN
    go_enter Try.func4, Try.ntmps4
    go_wp2_with fail
    (with_reducible refine (AW.out _).mono ?_)
    rintro e w1 ⟨rfl, h1⟩
    go_wp2_with fail
    go_ret
    exact ⟨rfl, h1⟩
  have h2' : decide ((1200 : Int) < (k : Int)) = false := by simp; omega
  by_cases h3 : 2000 < m
  · have h3' : decide ((2000 : Int) < (m : Int)) = true := by simp; omega
    clear R0 hN
    go_enter Try.func4, Try.ntmps4
    go_wp2_with fail
    (with_reducible refine (AW.out _).mono ?_)
    rintro e w1 ⟨rfl, h1⟩
    go_wp2_with fail
    go_ret
    exact ⟨rfl, h1⟩
  have h3' : decide ((2000 : Int) < (m : Int)) = false := by simp; omega
  have S1 := Lib.hid (fun w R => score_any ao cap zs N hN (by omega) d w R)
  have S2 := Lib.hid (fun w R => rscore_any ao cap zs N hN (by omega) d w R)
  obtain ⟨x, y, hxy⟩ := scV_tup zs d
  rw [hxy] at S1 S2
  have xx : (x == x) = true := by simp
  have yy : (y == y) = true := by simp
  have F1 := Lib.hid (fun w => soften_any s m hm' (by omega) w)
  have F2 := Lib.hid (fun w => rsoften_any s m hm' (by omega) w)
  clear hxy hN
  by_cases lo : listOk s.data.toList = true
  · have LO := Lib.hid lo
    clear lo
    go_enter Try.func4, Try.ntmps4
    go_wp2_with fail
    (with_reducible refine (S1.out _ R0.out).mono ?_)
    rintro e w1 ⟨rfl, h1⟩
    have H1 := Lib.hid h1
    clear h1
    go_wp2_with fail
    (with_reducible refine (S2.out _ (R0.out.below H1.out)).mono ?_)
    rintro e w2 ⟨rfl, h2⟩
    have H2 := Lib.hid (bt H1.out h2)
    clear h2 H1 R0
    go_wp2_with fail
    (with_reducible refine (F1.out _).mono ?_)
    intro e w3 s3
    rcases softA_cases s3 with ⟨_, a3, c3, rfl, ⟨i3, _⟩, h3⟩ | ⟨q, _⟩
    rotate_left
    · exact absurd LO.out (by rw [q]; simp)
    have I3 := Lib.hid i3
    clear i3
    have H3 := Lib.hid (bt H2.out h3)
    clear s3 h3 H2
    go_wp2_with fail
    (with_reducible refine (F2.out _).mono ?_)
    intro e w4 s4
    rcases softA_cases (softA_of s4) with ⟨_, a4, c4, rfl, ⟨i4, _⟩, h4⟩ | ⟨q, _⟩
    rotate_left
    · exact absurd LO.out (by rw [q]; simp)
    have SI := Lib.hid (sameInts_any a3 a4 c3 c4 _ m (zof_len _ _) (by omega) _ (I3.out.below h4) i4)
    clear i4 I3
    have H4 := Lib.hid (bt H3.out h4)
    clear h4 s4 H3
    go_wp2_with fail
    (with_reducible refine SI.out.mono ?_)
    rintro e w5 ⟨rfl, h5⟩
    have H5 := Lib.hid (bt H4.out h5)
    clear h5 H4 SI
    go_wp2_with fail
    (with_reducible refine (AW.out _).mono ?_)
    rintro e w6 ⟨rfl, h6⟩
    have H6 := Lib.hid (bt H5.out h6)
    clear h6 H5
    go_wp2_with fail
    go_ret
    exact ⟨rfl, H6.out⟩
  · have LO := Lib.hid (show listOk s.data.toList = false by simpa using lo)
    clear lo
    go_enter Try.func4, Try.ntmps4
    go_wp2_with fail
    (with_reducible refine (S1.out _ R0.out).mono ?_)
    rintro e w1 ⟨rfl, h1⟩
    have H1 := Lib.hid h1
    clear h1
    go_wp2_with fail
    (with_reducible refine (S2.out _ (R0.out.below H1.out)).mono ?_)
    rintro e w2 ⟨rfl, h2⟩
    have H2 := Lib.hid (bt H1.out h2)
    clear h2 H1 R0
    go_wp2_with fail
    (with_reducible refine (F1.out _).mono ?_)
    intro e w3 s3
    rcases softA_cases s3 with ⟨q, _⟩ | ⟨_, rfl, h3⟩
    · exact absurd q (by rw [LO.out]; simp)
    have H3 := Lib.hid (bt H2.out h3)
    clear s3 h3 H2
    go_wp2_with fail
    (with_reducible refine (F2.out _).mono ?_)
    intro e w4 s4
    rcases softA_cases (softA_of s4) with ⟨q, _⟩ | ⟨_, rfl, h4⟩
    · exact absurd q (by rw [LO.out]; simp)
    have SI := Lib.hid (sameInts_any none none 0 0 [] 0 rfl (by omega) w4 (.inl rfl) (.inl rfl))
    have H4 := Lib.hid (bt H3.out h4)
    clear h4 s4 H3
    go_wp2_with fail
    (with_reducible refine SI.out.mono ?_)
    rintro e w5 ⟨rfl, h5⟩
    have H5 := Lib.hid (bt H4.out h5)
    clear h5 H4 SI
    go_wp2_with fail
    (with_reducible refine (AW.out _).mono ?_)
    rintro e w6 ⟨rfl, h6⟩
    have H6 := Lib.hid (bt H5.out h6)
    clear h6 H5
    go_wp2_with fail
    go_ret
    exact ⟨rfl, H6.out⟩

set_option maxRecDepth 100000 in
theorem lifted (os : Os) (started : os.Started) (H : Type) (enc : TypeId × Value → H) :
    ReturnsInHanded {} Try.checked os 4 .any (Rows.viterbiScoresSpec.pre6 enc Try.prog Try.f4 Rows.viterbiScoresRow.domain false) (Rows.viterbiScoresSpec.post enc Try.prog Try.f4 false true false false) := by
  refine returnsInHanded_of_change (C := Try.checked) own started (by kernel_rfl) Try.func4
    (ChangeSpec.witness6 (enc := enc) (C := Try.checked) false ⟨#[], #[.slice none 0 0, .string { data := #[] }, .string { data := #[] }], []⟩ 8 (by kernel_rfl) (by kernel_rfl) (by kernel_rfl) (by kernel_rfl)) ?_
  intro W base args ds gs before hval0 hW _ _
  have hval : ∀ (j : Nat) t v, Try.f4.params[j]? = some t → args[j]? = some v → Value.okWide Try.prog W .any base t v := hval0
  have hW' := hW
  obtain ⟨p, q, hA0, hV, rfl, hfz, hnd⟩ := hW
  have hA : DataW.TrodAll enc Try.prog W 0 (fun _ => true) true Try.f4.params.toList args.toList ds p := hA0
  rw [Try.params4] at hA hval
  obtain ⟨v0, vs0, d0, ds0, p0, q0, hargs, rfl, rfl, h0, r0⟩ := trodAll_cons hA
  obtain ⟨v1, vs1, d1, ds1, p1, q1, rfl, rfl, rfl, h1, r1⟩ := trodAll_cons r0
  obtain ⟨v2, vs2, d2, ds2, p2, q2, rfl, rfl, rfl, h2, r2⟩ := trodAll_cons r1
  obtain ⟨rfl, rfl, rfl⟩ := trodAll_nil r2
  obtain rfl : args = #[v0, v1, v2] := by cases args; simp_all
  obtain ⟨rfl, rfl⟩ := trodVars_none hV
  obtain ⟨x0, y0, z0, e0⟩ := okWide_slice Try.underlying22 (hval 0 22 v0 rfl rfl)
  obtain ⟨zs0, S0⟩ := slice_arg (k := .i64) Try.underlying22 Try.underlying3 cells_int (by rw [e0]; rfl) h0
  clear e0
  obtain ⟨⟨ao0, cap0, rfl, l0, m0, R0⟩, w0, shut0⟩ := S0
  obtain ⟨a1, rfl, rfl, rfl, w1⟩ := ChangeMaps.open_string Try.underlying9 (hval 1 9 v1 rfl rfl) h1
  obtain ⟨a2, rfl, rfl, rfl, w2⟩ := ChangeMaps.open_string Try.underlying9 (hval 2 9 v2 rfl rfl) h2
  clear hA0 hval0
  simp only [List.append_nil] at hW'
  refine (walk ao0 cap0 zs0 l0 m0 w0 a1 w1 a2 w2 W R0).mono fun e W' ⟨he, hg⟩ => ?_
  subst he
  exact ⟨_, rfl, post_of_below (pa := (p0 ++ ([] ++ ([] ++ [])))) (pv := []) hW' (fun _ _ _ => trodAll_cons_mk (shut_bool Try.underlying4 _) trodAll_mk0) (fun sp hsp => (trodAll_cons_mk (shut0 W' hg sp (fun q hq => hsp q (by simp [hq]))) (trodAll_cons_mk (ChangeMaps.shut_string Try.underlying9 w1) (trodAll_cons_mk (ChangeMaps.shut_string Try.underlying9 w2) trodAll_mk0)))) (fun _ _ => rfl) (by simp)
    hg (ok_one (by kernel_rfl) rfl (okWide_bool_mk Try.underlying4 _))⟩

theorem proved : Rows.ViterbiScoresSaid :=
  OpenClaim.holds_of_wide 4 Try.f4 rfl rfl rfl rfl rfl rfl rfl ⟨rfl, rfl, rfl, rfl, rfl⟩ rfl rfl rfl rfl rfl (by kernel_rfl) Try.func4 (by kernel_rfl)
    (of_decide_eq_true (by kernel_rfl)) (by unfold Func.isWrapper; first | (rw [if_pos (by decide +kernel)]; kernel_rfl) | (rw [if_neg (by decide +kernel)]; exact ⟨rfl, rfl⟩))
    (fun os started H enc _ => lifted os started H enc)
#print axioms proved
end viterbiScores
end Go.Proofs.Ytgfihljledmaaaa
