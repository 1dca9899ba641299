/- FieldsPuts: of every string of at most 70000 bytes, every place and every number the program's Put and PutSigned return what the document says. No condition. -/
import Derived.Test.YtgfjmolihobaeaaFldChg
namespace Go.Proofs.Ytgfjmolihobaeaa
open Go.ChangeShapes Go.WideShapes Go.ChangeAt Go.RowKit
set_option linter.unusedVariables false


namespace fieldsPuts
set_option maxRecDepth 100000 in
set_option maxHeartbeats 2000000 in
theorem walk (s : ByteArray) (hs : s.size ≤ maxLen) (p wd v : Int) (hv : (Lit.int .u64 v).wf = true) (w : World) :
    Calls Try.prog 4 #[.agg #[.string s, .int .i64 p, .int .i64 wd, .int .u64 v]] w fun e w' => e = .returned (.bool true) ∧ Below w.heap.size w w' := by
  obtain ⟨v0, v1⟩ := bounds_u64 hv
  unfold maxLen at hs
  clear hv
  obtain ⟨n, rfl⟩ := Int.eq_ofNat_of_zero_le v0
  have AW := Lib.hid (fun w => awake_any w)
  have H0 := Lib.hid ((Below.refl w.heap.size w).alloc (Nat.le_refl _) (.cells #[.string s, .int .i64 p, .int .i64 wd, .int .u64 (n : Int)] 31))
  have X0 := Lib.hid (Chg.new w s p wd n 31)
  by_cases h : 70000 < s.size
  · go_enter Try.func4, Try.ntmps4
    go_wp2_with fail
    (with_reducible refine (AW.out _).mono ?_)
    rintro e w1 ⟨rfl, h1⟩
    go_wp2_with fail
    go_ret
    exact ⟨rfl, bt H0.out h1⟩
  · have h' : s.size ≤ 70000 := by omega
    obtain ⟨u, hu⟩ : ∃ u, wrap64 (n : Int) = u := ⟨_, rfl⟩
    have u0 : -9223372036854775808 ≤ u ∧ u ≤ 9223372036854775807 := by rw [← hu]; unfold wrap64; omega
    have P := Lib.hid (fun w => put_any s p wd n h' (by omega) w)
    have RP := Lib.hid (fun w => rput_any s p wd n h' (by omega) w)
    have Q := Lib.hid (fun w => putSigned_any s p wd u h' w)
    have RQ := Lib.hid (fun w => rputSigned_any s p wd u h' u0.1 u0.2 w)
    obtain ⟨x, hx⟩ : ∃ x : ByteArray, (⟨(Fld.putV s.data.toList p wd n).toArray⟩ : ByteArray) = x := ⟨_, rfl⟩
    obtain ⟨y, hy⟩ : ∃ y : ByteArray, (⟨(Fld.putVS s.data.toList p wd u).toArray⟩ : ByteArray) = y := ⟨_, rfl⟩
    obtain ⟨c, hc⟩ : ∃ c, Fld.chkP s.size p wd n = c := ⟨_, rfl⟩
    obtain ⟨d, hd⟩ : ∃ c, Fld.chkPS s.size p wd u = c := ⟨_, rfl⟩
    rw [hx, hc] at P RP
    rw [hy, hd] at Q RQ
    clear hx hy hc hd u0
    go_enter Try.func4, Try.ntmps4
    go_wp2_with fail
    (with_reducible refine (P.out _).mono ?_)
    rintro e w1 ⟨rfl, h1⟩
    have H1 := Lib.hid (bt H0.out h1)
    have X1 := Lib.hid (X0.out.below h1)
    obtain ⟨⟨c0, c1⟩, c2, c3, c4⟩ := X1.out
    clear h1 H0
    go_wp2_with fail
    (with_reducible refine (RP.out _).mono ?_)
    rintro e w2 ⟨rfl, h2⟩
    have H2 := Lib.hid (bt H1.out h2)
    have X2 := Lib.hid (X1.out.below h2)
    obtain ⟨⟨c0, c1⟩, c2, c3, c4⟩ := X2.out
    clear h2 H1
    go_wp2_with fail
    (with_reducible refine (Q.out _).mono ?_)
    rintro e w3 ⟨rfl, h3⟩
    have H3 := Lib.hid (bt H2.out h3)
    have X3 := Lib.hid (X2.out.below h3)
    obtain ⟨⟨c0, c1⟩, c2, c3, c4⟩ := X3.out
    clear h3 H2
    go_wp2_with fail
    (with_reducible refine (RQ.out _).mono ?_)
    rintro e w4 ⟨rfl, h4⟩
    have H4 := Lib.hid (bt H3.out h4)
    have X4 := Lib.hid (X3.out.below h4)
    obtain ⟨⟨c0, c1⟩, c2, c3, c4⟩ := X4.out
    clear h4 H3
    go_wp2_with fail
    (with_reducible refine (AW.out _).mono ?_)
    rintro e w5 ⟨rfl, h5⟩
    have H5 := Lib.hid (bt H4.out h5)
    have X5 := Lib.hid (X4.out.below h5)
    obtain ⟨⟨c0, c1⟩, c2, c3, c4⟩ := X5.out
    clear h5 H4
    go_wp2_with fail
    go_ret
    exact ⟨rfl, H5.out⟩

set_option maxRecDepth 100000 in
theorem lifted (os : Os) (started : os.Started) (H : Type) (enc : TypeId × Value → H) :
    ReturnsInHanded {} Try.checked os 4 .any (Rows.fieldsPutsSpec.pre6 enc Try.prog Try.f4 Rows.fieldsPutsRow.domain false) (Rows.fieldsPutsSpec.post enc Try.prog Try.f4 false true false false) := by
  refine returnsInHanded_of_change (C := Try.checked) own started (by kernel_rfl) Try.func4
    (ChangeSpec.witness6 (enc := enc) (C := Try.checked) false ⟨#[], #[.agg #[.string { data := #[] }, .int .i64 0, .int .i64 0, .int .u64 0]], []⟩ 8 (by kernel_rfl) (by kernel_rfl) (by kernel_rfl) (by kernel_rfl)) ?_
  intro W base args ds gs before hval0 hW _ _
  have hval : ∀ (j : Nat) t v, Try.f4.params[j]? = some t → args[j]? = some v → Value.okWide Try.prog W .any base t v := hval0
  have hW' := hW
  obtain ⟨p, q, hA0, hV, rfl, hfz, hnd⟩ := hW
  have hA : DataW.TrodAll enc Try.prog W 0 (fun _ => true) true Try.f4.params.toList args.toList ds p := hA0
  rw [Try.params4] at hA hval
  obtain ⟨v0, vs0, d0, ds0, p0, q0, hargs, rfl, rfl, h0, r0⟩ := trodAll_cons hA
  obtain ⟨rfl, rfl, rfl⟩ := trodAll_nil r0
  obtain rfl : args = #[v0] := by cases args; simp_all
  obtain ⟨rfl, rfl⟩ := trodVars_none hV
  obtain ⟨s, p, wd, v, rfl, rfl, rfl, ws, wp, ww, wv⟩ := open_chg (hval 0 31 v0 rfl rfl) h0
  clear hA0 hval0
  simp only [List.append_nil] at hW'
  refine (walk s ws p wd v wv W).mono fun e W' ⟨he, hg⟩ => ?_
  subst he
  exact ⟨_, rfl, post_of_below (pa := []) (pv := []) hW' (fun _ _ _ => trodAll_cons_mk (shut_bool Try.underlying4 _) trodAll_mk0) (fun sp _ => (trodAll_cons_mk (shut_chg ws wp ww wv) trodAll_mk0)) (fun _ _ => rfl) rfl
    hg (ok_one (by kernel_rfl) rfl (okWide_bool_mk Try.underlying4 _))⟩

theorem proved : Rows.FieldsPutsSaid :=
  OpenClaim.holds_of_wide 4 Try.f4 rfl rfl rfl rfl rfl rfl rfl ⟨rfl, rfl, rfl, rfl, rfl⟩ rfl rfl rfl rfl rfl (by kernel_rfl) Try.func4 (by kernel_rfl)
    (of_decide_eq_true (by kernel_rfl)) (by unfold Func.isWrapper; first | (rw [if_pos (by decide +kernel)]; kernel_rfl) | (rw [if_neg (by decide +kernel)]; exact ⟨rfl, rfl⟩))
    (fun os started H enc _ => lifted os started H enc)
#print axioms proved
end fieldsPuts
end Go.Proofs.Ytgfjmolihobaeaa
