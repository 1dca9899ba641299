/- FieldsKeeps: of every string of at most 5000 bytes, every place and every number: what the program's Put writes, its Get reads; the bits outside stay; two fields without a common bit can be put in any order. No condition. -/
import Derived.Test.YtgfjmolihobaeaaFldKeeps
namespace Go.Proofs.Ytgfjmolihobaeaa
open Go.ChangeShapes Go.WideShapes Go.ChangeAt Go.RowKit
set_option linter.unusedVariables false
namespace fieldsKeeps
theorem walk (s : ByteArray) (hs : s.size ≤ maxLen) (p wd v : Int) (hv : (Lit.int .u64 v).wf = true) (t : ByteArray) (p2 wd2 v2 : Int) (hv2 : (Lit.int .u64 v2).wf = true) (w : World) :
    Calls Try.prog 6 #[.agg #[.string s, .int .i64 p, .int .i64 wd, .int .u64 v], .agg #[.string t, .int .i64 p2, .int .i64 wd2, .int .u64 v2]] w fun e w' => e = .returned (.bool true) ∧ Below w.heap.size w w' := by
  by_cases h : 5000 < s.size
  · exact walk_long s t p wd p2 wd2 v v2 hs h w
  · obtain ⟨a0, a1⟩ := bounds_u64 hv
    obtain ⟨b0, b1⟩ := bounds_u64 hv2
    obtain ⟨m, rfl⟩ := Int.eq_ofNat_of_zero_le a0
    obtain ⟨n, rfl⟩ := Int.eq_ofNat_of_zero_le b0
    by_cases k : Fld.chkP s.size p wd m = 0
    · obtain ⟨⟨⟨k1, k2⟩, k3, k4⟩, k5, k6⟩ := Fld.chkP_cases k
      obtain ⟨a, rfl⟩ := Int.eq_ofNat_of_zero_le k3
      obtain ⟨b, rfl⟩ := Int.eq_ofNat_of_zero_le (show 0 ≤ wd by omega)
      exact walk_ok s t a b p2 wd2 m n (by omega) (by omega) (by omega) (by omega) (by omega) k6 w
    · exact walk_bad s t p wd p2 wd2 m n (by omega) (by omega) (by omega) k w

set_option maxRecDepth 100000 in
theorem lifted (os : Os) (started : os.Started) (H : Type) (enc : TypeId × Value → H) :
    ReturnsInHanded {} Try.checked os 6 .any (Rows.fieldsKeepsSpec.pre6 enc Try.prog Try.f6 Rows.fieldsKeepsRow.domain false) (Rows.fieldsKeepsSpec.post enc Try.prog Try.f6 false true false false) := by
  refine returnsInHanded_of_change (C := Try.checked) own started (by kernel_rfl) Try.func6
    (ChangeSpec.witness6 (enc := enc) (C := Try.checked) false ⟨#[], #[.agg #[.string { data := #[] }, .int .i64 0, .int .i64 0, .int .u64 0], .agg #[.string { data := #[] }, .int .i64 0, .int .i64 0, .int .u64 0]], []⟩ 8 (by kernel_rfl) (by kernel_rfl) (by kernel_rfl) (by kernel_rfl)) ?_
  intro W base args ds gs before hval0 hW _ _
  have hval : ∀ (j : Nat) t v, Try.f6.params[j]? = some t → args[j]? = some v → Value.okWide Try.prog W .any base t v := hval0
  have hW' := hW
  obtain ⟨p, q, hA0, hV, rfl, hfz, hnd⟩ := hW
  have hA : DataW.TrodAll enc Try.prog W 0 (fun _ => true) true Try.f6.params.toList args.toList ds p := hA0
  rw [Try.params6] at hA hval
  obtain ⟨v0, vs0, d0, ds0, p0, q0, hargs, rfl, rfl, h0, r0⟩ := trodAll_cons hA
  obtain ⟨v1, vs1, d1, ds1, p1, q1, rfl, rfl, rfl, h1, r1⟩ := trodAll_cons r0
  obtain ⟨rfl, rfl, rfl⟩ := trodAll_nil r1
  obtain rfl : args = #[v0, v1] := by cases args; simp_all
  obtain ⟨rfl, rfl⟩ := trodVars_none hV
  obtain ⟨s, p, wd, v, rfl, rfl, rfl, ws, wp, ww, wv⟩ := open_chg (hval 0 31 v0 rfl rfl) h0
  obtain ⟨t, p', wd', v', rfl, rfl, rfl, xs, xp, xw, xv⟩ := open_chg (hval 1 31 v1 rfl rfl) h1
  clear hA0 hval0
  simp only [List.append_nil] at hW'
  refine (walk s ws p wd v wv t p' wd' v' xv W).mono fun e W' ⟨he, hg⟩ => ?_
  subst he
  exact ⟨_, rfl, post_of_below (pa := []) (pv := []) hW' (fun _ _ _ => trodAll_cons_mk (shut_bool Try.underlying4 _) trodAll_mk0) (fun sp _ => (trodAll_cons_mk (shut_chg ws wp ww wv) (trodAll_cons_mk (shut_chg xs xp xw xv) trodAll_mk0))) (fun _ _ => rfl) rfl
    hg (ok_one (by kernel_rfl) rfl (okWide_bool_mk Try.underlying4 _))⟩

theorem proved : Rows.FieldsKeepsSaid :=
  OpenClaim.holds_of_wide 6 Try.f6 rfl rfl rfl rfl rfl rfl rfl ⟨rfl, rfl, rfl, rfl, rfl⟩ rfl rfl rfl rfl rfl (by kernel_rfl) Try.func6 (by kernel_rfl)
    (of_decide_eq_true (by kernel_rfl)) (by unfold Func.isWrapper; first | (rw [if_pos (by decide +kernel)]; kernel_rfl) | (rw [if_neg (by decide +kernel)]; exact ⟨rfl, rfl⟩))
    (fun os started H enc _ => lifted os started H enc)
#print axioms proved
end fieldsKeeps
end Go.Proofs.Ytgfjmolihobaeaa
