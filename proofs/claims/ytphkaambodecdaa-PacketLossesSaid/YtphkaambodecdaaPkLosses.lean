/- PacketLosses: of several messages some of whose packets are lost, exactly those arrive of which no packet is lost. No condition. -/
import Derived.Test.YtphkaambodecdaaPkLoss
import Derived.ProofKit
namespace Go.Proofs.Ytphkaambodecdaa
open Go.ChangeShapes Go.WideShapes Go.ChangeAt Go.RowKit
set_option linter.unusedVariables false

namespace packetLosses
theorem walk (ao : Option Addr) (cap : Nat) (zs : List ByteArray) (hzc : zs.length ≤ cap) (hcm : cap ≤ maxLen) (a : Int) (ha : (Lit.int .i64 a).wf = true) (bo : Option Addr) (capb : Nat) (bl : List Bool) (hbc : bl.length ≤ capb) (hbm : capb ≤ maxLen) (w : World) (R0 : Strs w ao zs) (R2 : Bls w bo bl) : Calls Try.prog 9 #[.slice ao zs.length cap, .int .i64 a, .slice bo bl.length capb] w fun e w' => e = .returned (.bool true) ∧ Below w.heap.size w w' := by
  by_cases hl : 30 < zs.length
  · exact packetLosses.walk_many ao cap zs hzc hcm a ha bo capb bl hbc hbm w hl
  · cases hv : lgV zs 6000 with
    | true => exact packetLosses.walk_long ao cap zs hzc hcm a ha bo capb bl hbc hbm w R0 hl hv
    | false => exact packetLosses.walk_main ao cap zs hzc hcm a ha bo capb bl hbc hbm w R0 R2 hl hv

set_option maxRecDepth 100000 in
theorem lifted (os : Os) (started : os.Started) (H : Type) (enc : TypeId × Value → H) :
    ReturnsInHanded {} Try.checked os 9 .any (Rows.packetLossesSpec.pre6 enc Try.prog Try.f9 Rows.packetLossesRow.domain false) (Rows.packetLossesSpec.post enc Try.prog Try.f9 false true false false) := by
  refine returnsInHanded_of_change (C := Try.checked) own started (by kernel_rfl) Try.func9
    (ChangeSpec.witness6 (enc := enc) (C := Try.checked) false ⟨#[], #[.slice none 0 0, .int .i64 0, .slice none 0 0], []⟩ 8 (by kernel_rfl) (by kernel_rfl) (by kernel_rfl) (by kernel_rfl)) ?_
  intro W base args ds gs before hval0 hW _ _
  have hval : ∀ (j : Nat) t v, Try.f9.params[j]? = some t → args[j]? = some v → Value.okWide Try.prog W .any base t v := hval0
  have hW' := hW
  obtain ⟨p, q, hA0, hV, rfl, hfz, hnd⟩ := hW
  have hA : DataW.TrodAll enc Try.prog W 0 (fun _ => true) true Try.f9.params.toList args.toList ds p := hA0
  rw [Try.params9] at hA hval
  obtain ⟨v0, vs0, d0, ds0, p0, q0, hargs, rfl, rfl, h0, r0⟩ := trodAll_cons hA
  obtain ⟨v1, vs1, d1, ds1, p1, q1, rfl, rfl, rfl, h1, r1⟩ := trodAll_cons r0
  obtain ⟨v2, vs2, d2, ds2, p2, q2, rfl, rfl, rfl, h2, r2⟩ := trodAll_cons r1
  obtain ⟨rfl, rfl, rfl⟩ := trodAll_nil r2
  obtain rfl : args = #[v0, v1, v2] := by cases args; simp_all
  obtain ⟨rfl, rfl⟩ := trodVars_none hV
  obtain ⟨x0, y0, z0, e0⟩ := okWide_slice Try.underlying60 (hval 0 60 v0 rfl rfl)
  have S0 := strs_arg (by rw [e0]; rfl) h0
  clear e0
  obtain ⟨ao0, zs0, cap0, rfl, l0, m0, R0, shut0⟩ := S0
  obtain ⟨a1, rfl, rfl, rfl, w1⟩ := open_int Try.underlying3 (hval 1 3 v1 rfl rfl) h1
  obtain ⟨x2, y2, z2, e2⟩ := okWide_slice Try.underlying61 (hval 2 61 v2 rfl rfl)
  have S2 := bools_arg (by rw [e2]; rfl) h2
  clear e2
  obtain ⟨ao2, zs2, cap2, rfl, l2, m2, R2, shut2⟩ := S2
  clear hA0 hval0
  simp only [List.append_nil] at hW'
  refine (walk ao0 cap0 zs0 l0 m0 a1 w1 ao2 cap2 zs2 l2 m2 W R0 R2).mono fun e W' ⟨he, hg⟩ => ?_
  subst he
  exact ⟨_, rfl, post_of_below (pa := (p0 ++ ([] ++ (p2 ++ [])))) (pv := []) hW' (fun _ _ _ => trodAll_cons_mk (shut_bool Try.underlying4 _) trodAll_mk0) (fun sp hsp => (trodAll_cons_mk (shut0 W' hg sp (fun q hq => hsp q (by simp [hq]))) (trodAll_cons_mk (shut_int Try.underlying3 w1) (trodAll_cons_mk (shut2 W' hg sp (fun q hq => hsp q (by simp [hq]))) trodAll_mk0)))) (fun _ _ => rfl) (by simp)
    hg (ok_one (by kernel_rfl) rfl (okWide_bool_mk Try.underlying4 _))⟩

theorem proved : Rows.PacketLossesSaid :=
  OpenClaim.holds_of_wide 9 Try.f9 rfl rfl rfl rfl rfl rfl rfl ⟨rfl, rfl, rfl, rfl, rfl⟩ rfl rfl rfl rfl rfl (by kernel_rfl) Try.func9 (by kernel_rfl)
    (of_decide_eq_true (by kernel_rfl)) (by unfold Func.isWrapper; first | (rw [if_pos (by decide +kernel)]; kernel_rfl) | (rw [if_neg (by decide +kernel)]; exact ⟨rfl, rfl⟩))
    (fun os started H enc _ => lifted os started H enc)
#print axioms proved
end packetLosses
end Go.Proofs.Ytphkaambodecdaa
