/- ViterbiDecodes: of any values (at most 500) and any number of bytes, the program's Decode returns what the document says, and leaves its argument as it was. No condition. -/
import Derived.Test.YtgfihljledmaaaaRowKit
import Derived.Test.YtgfihljledmaaaaVitAwake
namespace Go.Proofs.Ytgfihljledmaaaa
open Go.ChangeShapes Go.WideShapes Go.ChangeAt Go.RowKit
set_option linter.unusedVariables false

namespace viterbiDecodes
theorem cells_int : Try.prog.cellsOf 3 = 1 := by kernel_rfl
theorem decA_same {zs : List Int} {n : Int} {e1 e2 : Ending} (h1 : DecA zs n e1) (h2 : DecA zs n e2) : e1 = e2 := by
  rcases decA_cases h1 with ⟨k, D, g1, g2, rfl⟩ | ⟨k, rfl⟩
  · rcases decA_cases h2 with ⟨_, E, f1, f2, rfl⟩ | ⟨q, _⟩
    · obtain ⟨t1, t2⟩ := Vit.top_unique g2 f2
      have hDE : D = E := by
        apply ByteArray.ext
        apply Array.toList_inj.1
        refine Gal.ext (by rw [ls, ls, g1, f1]) (fun i hi => ?_)
        rw [ls, g1] at hi
        exact t1 i hi
      rw [hDE]
    · exact absurd k q
  · rcases decA_cases h2 with ⟨q, _⟩ | ⟨_, rfl⟩
    · exact absurd q k
    · rfl
/-- What Decode returns: a message, a sum, a code. -/
theorem decA_tup {zs : List Int} {n : Int} {e : Ending} (h : DecA zs n e) : ∃ (D : ByteArray) (y c : Int), e = .returned (.tuple #[.string D, .int .i64 y, .int .i64 c]) := by
  rcases decA_cases h with ⟨_, D, _, _, rfl⟩ | ⟨_, rfl⟩
  · exact ⟨_, _, _, rfl⟩
  · exact ⟨_, _, _, rfl⟩
set_option maxRecDepth 100000 in
set_option maxHeartbeats 1000000 in
theorem walk (ao : Option Addr) (cap : Nat) (zs : List Int) (hl : zs.length ≤ cap) (hm : cap ≤ maxLen) (hw : ∀ n ∈ zs, (Lit.int .i64 n).wf = true) (n : Int) (hn : (Lit.int .i64 n).wf = true) (w : World) (hr : Reads .i64 w ao zs) :
    Calls Try.prog 3 #[.slice ao zs.length cap, .int .i64 n] w fun e w' => e = .returned (.bool true) ∧ Below w.heap.size w w' := by
  unfold maxLen at hm
  have AW := Lib.hid (fun w => awake_any w)
  have RA : Ints w ao zs := hr
  obtain ⟨N, hN⟩ : ∃ N, zs.length = N := ⟨_, rfl⟩
  rw [hN] at hl ⊢
  clear hr hw hn
  by_cases h1 : 500 < N
  · have h1' : decide ((500 : Int) < (N : Int)) = true := by simp; omega
    clear RA hN
    go_enter Try.func3, Try.ntmps3
    go_wp2_with fail
    (with_reducible refine (AW.out _).mono ?_)
    rintro e w1 ⟨rfl, h1⟩
    go_wp2_with fail
    go_ret
    exact ⟨rfl, h1⟩
  have h1' : decide ((500 : Int) < (N : Int)) = false := by simp; omega
  have P := Lib.hid (fun a c w R hc => decode_any a c zs N hN (by omega) n w R hc)
  have Q := Lib.hid (fun a c w R => rdecode_any a c zs N hN (by omega) n w R)
  have R0 := Lib.hid RA
  have HN := Lib.hid hN
  have SM := Lib.hid (fun e1 e2 (q1 : DecA zs n e1) (q2 : DecA zs n e2) => decA_same q1 q2)
  have TU := Lib.hid (fun e (q : DecA zs n e) => decA_tup q)
  cases ao with
  | none =>
    obtain rfl : zs = [] := by
      rcases RA with h | ⟨_, _, h, _⟩
      · exact h
      · cases h
    obtain rfl : N = 0 := by rw [← hN]; rfl
    clear RA hN h1
    go_enter Try.func3, Try.ntmps3
    go_wp2_with fail
    (with_reducible refine (lend_nil cap _).mono ?_)
    rintro e w1 ⟨rfl, rfl⟩
    go_wp2_with fail
    (with_reducible refine (P.out none 0 _ R0.out (Nat.le_refl _)).mono ?_)
    rintro e w2 ⟨d2, h2⟩
    have H2 := Lib.hid h2
    have D2 := Lib.hid d2
    obtain ⟨D, y, c, rfl⟩ := TU.out _ d2
    have ee : (D == D) = true := by show (D.data == D.data) = true; simp
    clear h2 d2
    go_wp2_with fail
    (with_reducible refine (Q.out none cap _ (R0.out.below H2.out)).mono ?_)
    rintro e w3 ⟨d3, h3⟩
    obtain rfl := SM.out _ _ D2.out d3
    have H3 := Lib.hid (bt H2.out h3)
    clear h3 d3 H2
    go_wp2_with fail
    (with_reducible refine (kept_nil 0 cap _).mono ?_)
    rintro e w4 ⟨rfl, h4⟩
    have H4 := Lib.hid (bt H3.out h4)
    clear h4 H3
    go_wp2_with fail
    (with_reducible refine (AW.out _).mono ?_)
    rintro e w5 ⟨rfl, h5⟩
    have H5 := Lib.hid (bt H4.out h5)
    clear h5 H4
    go_wp2_with fail
    go_ret
    exact ⟨rfl, H5.out⟩
  | some a =>
    clear RA hN
    go_enter Try.func3, Try.ntmps3
    go_wp2_with fail
    (with_reducible refine (lend_some a cap zs N HN.out (by omega) hl _ R0.out).mono ?_)
    rintro e w1 ⟨g, rfl, hlent, h1⟩
    have H1 := Lib.hid h1
    have L1 := Lib.hid hlent
    clear hlent h1
    go_wp2_with fail
    (with_reducible refine (P.out (some ⟨g, 0, none⟩) (N + 1) _ L1.out.reads (Nat.le_succ _)).mono ?_)
    rintro e w2 ⟨d2, h2⟩
    have H2 := Lib.hid (bt H1.out h2)
    have L2 := Lib.hid (L1.out.below h2)
    have D2 := Lib.hid d2
    obtain ⟨D, y, c, rfl⟩ := TU.out _ d2
    have ee : (D == D) = true := by show (D.data == D.data) = true; simp
    clear h2 d2 H1 L1
    go_wp2_with fail
    (with_reducible refine (Q.out (some a) cap _ (R0.out.below H2.out)).mono ?_)
    rintro e w3 ⟨d3, h3⟩
    obtain rfl := SM.out _ _ D2.out d3
    have H3 := Lib.hid (bt H2.out h3)
    have L3 := Lib.hid (L2.out.below h3)
    clear h3 d3 H2 L2
    go_wp2_with fail
    (with_reducible refine (kept_some g a cap zs N HN.out (by omega) _ L3.out (R0.out.below H3.out)).mono ?_)
    rintro e w4 ⟨rfl, h4⟩
    have H4 := Lib.hid (bt H3.out h4)
    clear h4 H3
    go_wp2_with fail
    (with_reducible refine (AW.out _).mono ?_)
    rintro e w5 ⟨rfl, h5⟩
    have H5 := Lib.hid (bt H4.out h5)
    clear h5 H4
    go_wp2_with fail
    go_ret
    exact ⟨rfl, H5.out⟩

set_option maxRecDepth 100000 in
theorem lifted (os : Os) (started : os.Started) (H : Type) (enc : TypeId × Value → H) :
    ReturnsInHanded {} Try.checked os 3 .any (Rows.viterbiDecodesSpec.pre6 enc Try.prog Try.f3 Rows.viterbiDecodesRow.domain false) (Rows.viterbiDecodesSpec.post enc Try.prog Try.f3 false true false false) := by
  refine returnsInHanded_of_change (C := Try.checked) own started (by kernel_rfl) Try.func3
    (ChangeSpec.witness6 (enc := enc) (C := Try.checked) false ⟨#[], #[.slice none 0 0, .int .i64 0], []⟩ 8 (by kernel_rfl) (by kernel_rfl) (by kernel_rfl) (by kernel_rfl)) ?_
  intro W base args ds gs before hval0 hW _ _
  have hval : ∀ (j : Nat) t v, Try.f3.params[j]? = some t → args[j]? = some v → Value.okWide Try.prog W .any base t v := hval0
  have hW' := hW
  obtain ⟨p, q, hA0, hV, rfl, hfz, hnd⟩ := hW
  have hA : DataW.TrodAll enc Try.prog W 0 (fun _ => true) true Try.f3.params.toList args.toList ds p := hA0
  rw [Try.params3] at hA hval
  obtain ⟨v0, vs0, d0, ds0, p0, q0, hargs, rfl, rfl, h0, r0⟩ := trodAll_cons hA
  obtain ⟨v1, vs1, d1, ds1, p1, q1, rfl, rfl, rfl, h1, r1⟩ := trodAll_cons r0
  obtain ⟨rfl, rfl, rfl⟩ := trodAll_nil r1
  obtain rfl : args = #[v0, v1] := by cases args; simp_all
  obtain ⟨rfl, rfl⟩ := trodVars_none hV
  obtain ⟨x0, y0, z0, e0⟩ := okWide_slice Try.underlying22 (hval 0 22 v0 rfl rfl)
  obtain ⟨zs0, S0⟩ := slice_arg (k := .i64) Try.underlying22 Try.underlying3 cells_int (by rw [e0]; rfl) h0
  clear e0
  obtain ⟨⟨ao0, cap0, rfl, l0, m0, R0⟩, w0, shut0⟩ := S0
  obtain ⟨a1, rfl, rfl, rfl, w1⟩ := open_int Try.underlying3 (hval 1 3 v1 rfl rfl) h1
  clear hA0 hval0
  simp only [List.append_nil] at hW'
  refine (walk ao0 cap0 zs0 l0 m0 w0 a1 w1 W R0).mono fun e W' ⟨he, hg⟩ => ?_
  subst he
  exact ⟨_, rfl, post_of_below (pa := (p0 ++ ([] ++ []))) (pv := []) hW' (fun _ _ _ => trodAll_cons_mk (shut_bool Try.underlying4 _) trodAll_mk0) (fun sp hsp => (trodAll_cons_mk (shut0 W' hg sp (fun q hq => hsp q (by simp [hq]))) (trodAll_cons_mk (shut_int Try.underlying3 w1) trodAll_mk0))) (fun _ _ => rfl) (by simp)
    hg (ok_one (by kernel_rfl) rfl (okWide_bool_mk Try.underlying4 _))⟩

theorem proved : Rows.ViterbiDecodesSaid :=
  OpenClaim.holds_of_wide 3 Try.f3 rfl rfl rfl rfl rfl rfl rfl ⟨rfl, rfl, rfl, rfl, rfl⟩ rfl rfl rfl rfl rfl (by kernel_rfl) Try.func3 (by kernel_rfl)
    (of_decide_eq_true (by kernel_rfl)) (by unfold Func.isWrapper; first | (rw [if_pos (by decide +kernel)]; kernel_rfl) | (rw [if_neg (by decide +kernel)]; exact ⟨rfl, rfl⟩))
    (fun os started H enc _ => lifted os started H enc)
#print axioms proved
end viterbiDecodes
end Go.Proofs.Ytgfihljledmaaaa
