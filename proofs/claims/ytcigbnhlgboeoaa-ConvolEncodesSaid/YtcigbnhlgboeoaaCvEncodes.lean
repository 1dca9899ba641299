/- ConvolEncodes: of all strings, and of those of at most 1200 bytes beyond a few results, the program's Encode returns what the document says. No condition. -/
import Derived.Test.YtcigbnhlgboeoaaRowKit
import Derived.Test.YtcigbnhlgboeoaaCvAwake
namespace Go.Proofs.Ytcigbnhlgboeoaa
open Go.ChangeShapes Go.WideShapes Go.ChangeAt Go.RowKit
set_option linter.unusedVariables false

namespace convolEncodes
set_option maxRecDepth 100000 in
theorem walk (s : ByteArray) (hs : s.size ≤ maxLen) (w : World) :
    Calls Try.prog 4 #[.string s] w fun e w' => e = .returned (.bool true) ∧ Below w.heap.size w w' := by
  unfold maxLen at hs
  have AW := Lib.hid (fun w => awake_any w)
  obtain ⟨n, hn⟩ : ∃ n, s.size = n := ⟨_, rfl⟩
  rw [hn] at hs
  by_cases h1 : 1200 < n
  · have h1' : decide ((1200 : Int) < (n : Int)) = true := by simp; omega
    go_enter Try.func4, Try.ntmps4
    go_wp2_with fail
    (with_reducible refine (AW.out _).mono ?_)
    rintro e w1 ⟨rfl, h1⟩
    go_wp2_with fail
    go_ret
    exact ⟨rfl, h1⟩
  have h1' : decide ((1200 : Int) < (n : Int)) = false := by simp; omega
  by_cases h2 : 1100 < n
  · have A1 := Lib.hid (fun w => encode_long s n hn h2 w)
    have A2 := Lib.hid (fun w => rencode_long s n hn h2 w)
    clear h2
    go_enter Try.func4, Try.ntmps4
    go_wp2_with fail
    (with_reducible refine (A1.out _).mono ?_)
    rintro e w' ⟨rfl, rfl⟩
    go_wp2_with fail
    (with_reducible refine (A2.out _).mono ?_)
    rintro e w' ⟨rfl, rfl⟩
    go_wp2_with fail
    (with_reducible refine (AW.out _).mono ?_)
    rintro e w1 ⟨rfl, h1⟩
    have H1 := Lib.hid (h1)
    clear h1
    go_wp2_with fail
    go_ret
    exact ⟨rfl, H1.out⟩
  have A1 := Lib.hid (fun w => encode_any s n hn (by omega) w)
  have A2 := Lib.hid (fun w => rencode_any s n hn (by omega) w)
  obtain ⟨v, hv⟩ : ∃ v, encS s n = v := ⟨_, rfl⟩
  rw [hv] at A1 A2
  have ee : (v == v) = true := by show (v.data == v.data) = true; simp
  clear hv
  go_enter Try.func4, Try.ntmps4
  go_wp2_with fail
  (with_reducible refine (A1.out _).mono ?_)
  rintro e w1 ⟨rfl, h1⟩
  have H1 := Lib.hid (h1)
  clear h1
  go_wp2_with fail
  (with_reducible refine (A2.out _).mono ?_)
  rintro e w2 ⟨rfl, h2⟩
  have H2 := Lib.hid (bt H1.out h2)
  clear h2 H1
  go_wp2_with fail
  (with_reducible refine (AW.out _).mono ?_)
  rintro e w3 ⟨rfl, h3⟩
  have H3 := Lib.hid (bt H2.out h3)
  clear h3 H2
  go_wp2_with fail
  go_ret
  exact ⟨rfl, H3.out⟩

set_option maxRecDepth 100000 in
theorem lifted (os : Os) (started : os.Started) (H : Type) (enc : TypeId × Value → H) :
    ReturnsInHanded {} Try.checked os 4 .any (Rows.convolEncodesSpec.pre6 enc Try.prog Try.f4 Rows.convolEncodesRow.domain false) (Rows.convolEncodesSpec.post enc Try.prog Try.f4 false true false false) := by
  refine returnsInHanded_of_change (C := Try.checked) own started (by kernel_rfl) Try.func4
    (ChangeSpec.witness6 (enc := enc) (C := Try.checked) false ⟨#[], #[.string { data := #[] }], []⟩ 8 (by kernel_rfl) (by kernel_rfl) (by kernel_rfl) (by kernel_rfl)) ?_
  intro W base args ds gs before hval0 hW _ _
  have hval : ∀ (j : Nat) t v, Try.f4.params[j]? = some t → args[j]? = some v → Value.okWide Try.prog W .any base t v := hval0
  have hW' := hW
  obtain ⟨p, q, hA0, hV, rfl, hfz, hnd⟩ := hW
  have hA : DataW.TrodAll enc Try.prog W 0 (fun _ => true) true Try.f4.params.toList args.toList ds p := hA0
  rw [Try.params4] at hA hval
  obtain ⟨v0, vs0, d0, ds0, p0, q0, hargs, rfl, rfl, h0, r0⟩ := trodAll_cons hA
  obtain ⟨rfl, rfl, rfl⟩ := trodAll_nil r0
  obtain rfl : args = #[v0] := by cases args; simp_all
  obtain ⟨rfl, rfl⟩ := trodVars_none hV
  obtain ⟨a0, rfl, rfl, rfl, w0⟩ := ChangeMaps.open_string Try.underlying9 (hval 0 9 v0 rfl rfl) h0
  clear hA0 hval0
  simp only [List.append_nil] at hW'
  refine (walk a0 w0 W).mono fun e W' ⟨he, hg⟩ => ?_
  subst he
  exact ⟨_, rfl, post_of_below (pa := []) (pv := []) hW' (fun _ _ _ => trodAll_cons_mk (shut_bool Try.underlying4 _) trodAll_mk0) (fun sp _ => (trodAll_cons_mk (ChangeMaps.shut_string Try.underlying9 w0) trodAll_mk0)) (fun _ _ => rfl) rfl
    hg (ok_one (by kernel_rfl) rfl (okWide_bool_mk Try.underlying4 _))⟩

theorem proved : Rows.ConvolEncodesSaid :=
  OpenClaim.holds_of_wide 4 Try.f4 rfl rfl rfl rfl rfl rfl rfl ⟨rfl, rfl, rfl, rfl, rfl⟩ rfl rfl rfl rfl rfl (by kernel_rfl) Try.func4 (by kernel_rfl)
    (of_decide_eq_true (by kernel_rfl)) (by unfold Func.isWrapper; first | (rw [if_pos (by decide +kernel)]; kernel_rfl) | (rw [if_neg (by decide +kernel)]; exact ⟨rfl, rfl⟩))
    (fun os started H enc _ => lifted os started H enc)
#print axioms proved
end convolEncodes
end Go.Proofs.Ytcigbnhlgboeoaa
