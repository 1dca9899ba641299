/- MarkerPortions: how a stream is divided makes no difference to a finder of layer 8, its blocks do not overlap and consist of the values behind their places, and a value that is none changes nothing, for every input. -/
import Derived.Test.YtlfnglinalmpjaaMkAwake
import Derived.Test.YtlfnglinalmpjaaMkPortW
namespace Go.Proofs.Ytlfnglinalmpjaa
open Go.ChangeShapes Go.WideShapes Go.ChangeAt Go.RowKit
set_option linter.unusedVariables false

namespace markerPortions
theorem cells_int' : Try.prog.cellsOf 3 = 1 := by kernel_rfl
theorem walk (ao : Option Addr) (cap : Nat) (l : List PartV) (hl : l.length ≤ cap) (hm : cap ≤ maxLen) (len : Int) (hlen : (Lit.int .i64 len).wf = true) (ap : Option Addr) (pc : Nat) (ps : List Int) (hpl : ps.length ≤ pc) (hpm : pc ≤ maxLen) (hpw : ∀ n ∈ ps, (Lit.int .i64 n).wf = true) (w : World) (R : Parts w ao l) (RP : Reads .i64 w ap ps) :
    Calls Try.prog 5 #[.slice ao l.length cap, .int .i64 len, .slice ap ps.length pc] w fun e w' => e = .returned (.bool true) ∧ Below w.heap.size w w' :=
  mportions_walk (fun w => awake_any w) ao cap l hl hm len ap pc ps hpl hpm hpw w R RP

set_option maxRecDepth 100000 in
theorem lifted (os : Os) (started : os.Started) (H : Type) (enc : TypeId × Value → H) :
    ReturnsInHanded {} Try.checked os 5 .any (Rows.markerPortionsSpec.pre6 enc Try.prog Try.f5 Rows.markerPortionsRow.domain false) (Rows.markerPortionsSpec.post enc Try.prog Try.f5 false true false false) := by
  refine returnsInHanded_of_change (C := Try.checked) own started (by kernel_rfl) Try.func5
    (ChangeSpec.witness6 (enc := enc) (C := Try.checked) false ⟨#[], #[.slice none 0 0, .int .i64 0, .slice none 0 0], []⟩ 8 (by kernel_rfl) (by kernel_rfl) (by kernel_rfl) (by kernel_rfl)) ?_
  intro W base args ds gs before hval0 hW _ _
  have hval : ∀ (j : Nat) t v, Try.f5.params[j]? = some t → args[j]? = some v → Value.okWide Try.prog W .any base t v := hval0
  have hW' := hW
  obtain ⟨p, q, hA0, hV, rfl, hfz, hnd⟩ := hW
  have hA : DataW.TrodAll enc Try.prog W 0 (fun _ => true) true Try.f5.params.toList args.toList ds p := hA0
  rw [Try.params5] at hA hval
  obtain ⟨v0, vs0, d0, ds0, p0, q0, hargs, rfl, rfl, h0, r0⟩ := trodAll_cons hA
  obtain ⟨v1, vs1, d1, ds1, p1, q1, rfl, rfl, rfl, h1, r1⟩ := trodAll_cons r0
  obtain ⟨v2, vs2, d2, ds2, p2, q2, rfl, rfl, rfl, h2, r2⟩ := trodAll_cons r1
  obtain ⟨rfl, rfl, rfl⟩ := trodAll_nil r2
  obtain rfl : args = #[v0, v1, v2] := by cases args; simp_all
  obtain ⟨rfl, rfl⟩ := trodVars_none hV
  obtain ⟨x0, y0, z0, e0⟩ := okWide_slice Try.underlying28 (hval 0 28 v0 rfl rfl)
  have S0 := parts_arg (by rw [e0]; rfl) h0
  clear e0
  obtain ⟨ao0, zs0, cap0, rfl, l0, m0, R0, shut0⟩ := S0
  obtain ⟨a1, rfl, rfl, rfl, w1⟩ := open_int Try.underlying3 (hval 1 3 v1 rfl rfl) h1
  obtain ⟨x2, y2, z2, e2⟩ := okWide_slice Try.underlying29 (hval 2 29 v2 rfl rfl)
  obtain ⟨zs2, S2⟩ := slice_arg (k := .i64) Try.underlying29 Try.underlying3 cells_int' (by rw [e2]; rfl) h2
  clear e2
  obtain ⟨⟨ao2, cap2, rfl, l2, m2, R2⟩, w2, shut2⟩ := S2
  clear hA0 hval0
  simp only [List.append_nil] at hW'
  refine (walk ao0 cap0 zs0 l0 m0 a1 w1 ao2 cap2 zs2 l2 m2 w2 W R0 R2).mono fun e W' ⟨he, hg⟩ => ?_
  subst he
  exact ⟨_, rfl, post_of_below (pa := (p0 ++ ([] ++ (p2 ++ [])))) (pv := []) hW' (fun _ _ _ => trodAll_cons_mk (shut_bool Try.underlying4 _) trodAll_mk0) (fun sp hsp => (trodAll_cons_mk (shut0 W' hg sp (fun q hq => hsp q (by simp [hq]))) (trodAll_cons_mk (shut_int Try.underlying3 w1) (trodAll_cons_mk (shut2 W' hg sp (fun q hq => hsp q (by simp [hq]))) trodAll_mk0)))) (fun _ _ => rfl) (by simp)
    hg (ok_one (by kernel_rfl) rfl (okWide_bool_mk Try.underlying4 _))⟩

theorem proved : Rows.MarkerPortionsSaid :=
  OpenClaim.holds_of_wide 5 Try.f5 rfl rfl rfl rfl rfl rfl rfl ⟨rfl, rfl, rfl, rfl, rfl⟩ rfl rfl rfl rfl rfl (by kernel_rfl) Try.func5 (by kernel_rfl)
    (of_decide_eq_true (by kernel_rfl)) (by unfold Func.isWrapper; first | (rw [if_pos (by decide +kernel)]; kernel_rfl) | (rw [if_neg (by decide +kernel)]; exact ⟨rfl, rfl⟩))
    (fun os started H enc _ => lifted os started H enc)
#print axioms proved
end markerPortions
end Go.Proofs.Ytlfnglinalmpjaa
