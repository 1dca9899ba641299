/- GaloisElements: of all bytes a, b and numbers n the products, quotients, powers and logarithms are those of the reference. No condition. -/
import Derived.Test.YtinjppijcmhhbaaDoorGalLaw
import Derived.Test.YtinjppijcmhhbaaDoorGalRefEl
namespace Go.Proofs.YtinjppijcmhhbaaDoor
open Go.ChangeShapes Go.WideShapes Go.ChangeAt Go.RowKit
set_option linter.unusedVariables false

namespace galoisElements
set_option maxRecDepth 100000 in
theorem walk (a : Int) (ha : (Lit.int .u8 a).wf = true) (b : Int) (hb : (Lit.int .u8 b).wf = true) (n : Int) (hn : (Lit.int .i64 n).wf = true) (w : World) :
    Calls Tryd.prog 3 #[.int .u8 a, .int .u8 b, .int .i64 n] w fun e w' => e = .returned (.bool true) ∧ Below w.heap.size w w' := by
  obtain ⟨a, rfl⟩ := bounds8 ha
  obtain ⟨b, rfl⟩ := bounds8 hb
  have AW := Lib.hid (fun w => awake_any w)
  have D1 := Lib.hid (fun w => div_any a b w)
  have D2 := Lib.hid (fun w => rdiv_any a b w)
  have P1 := Lib.hid (fun w => pow_any a n w)
  have P2 := Lib.hid (fun w => rpow_any a n w)
  have L1 := Lib.hid (fun w => log2_any a w)
  have L2 := Lib.hid (fun w => rlog_any a w)
  have M1 := Lib.hid (fun w => mul_any a b w)
  have M2 := Lib.hid (fun w => rmul_any a b w)
  obtain ⟨v1, hv1⟩ : ∃ v, (Gal.divV a b).toNat = v := ⟨_, rfl⟩
  obtain ⟨v2, hv2⟩ : ∃ v, Gal.divE b = v := ⟨_, rfl⟩
  obtain ⟨v3, hv3⟩ : ∃ v, (Gal.powV a n).toNat = v := ⟨_, rfl⟩
  obtain ⟨v4, hv4⟩ : ∃ v, Gal.powE a n = v := ⟨_, rfl⟩
  obtain ⟨v5, hv5⟩ : ∃ v, Gal.lg a = v := ⟨_, rfl⟩
  obtain ⟨v6, hv6⟩ : ∃ v, Gal.logOk a = v := ⟨_, rfl⟩
  obtain ⟨v7, hv7⟩ : ∃ v, (Gal.mul a b).toNat = v := ⟨_, rfl⟩
  rw [hv1, hv2] at D1 D2
  rw [hv3, hv4] at P1 P2
  rw [hv5, hv6] at L1 L2
  rw [hv7] at M1 M2
  obtain ⟨A, hA⟩ : ∃ v, a.toNat = v := ⟨_, rfl⟩
  obtain ⟨B, hB⟩ : ∃ v, b.toNat = v := ⟨_, rfl⟩
  rw [hA] at D1 D2 P1 P2 L1 L2 M1 M2 ⊢
  rw [hB] at D1 D2 M1 M2 ⊢
  clear hv1 hv2 hv3 hv4 hv5 hv6 hv7 hA hB ha hb hn
  go_enter Tryd.func3, Tryd.ntmps3
  go_wp2_with fail
  (with_reducible refine (D1.out _).mono ?_)
  rintro e w1 ⟨rfl, h1⟩
  have H1 := Lib.hid (h1)
  clear h1
  go_wp2_with fail
  (with_reducible refine (D2.out _).mono ?_)
  rintro e w2 ⟨rfl, rfl⟩
  go_wp2_with fail
  (with_reducible refine (P1.out _).mono ?_)
  rintro e w3 ⟨rfl, h3⟩
  have H3 := Lib.hid (bt H1.out h3)
  clear h3 H1
  go_wp2_with fail
  (with_reducible refine (P2.out _).mono ?_)
  rintro e w4 ⟨rfl, rfl⟩
  go_wp2_with fail
  (with_reducible refine (L1.out _).mono ?_)
  rintro e w5 ⟨rfl, h5⟩
  have H5 := Lib.hid (bt H3.out h5)
  clear h5 H3
  go_wp2_with fail
  (with_reducible refine (L2.out _).mono ?_)
  rintro e w6 ⟨rfl, rfl⟩
  go_wp2_with fail
  (with_reducible refine (M1.out _).mono ?_)
  rintro e w7 ⟨rfl, h7⟩
  have H7 := Lib.hid (bt H5.out h7)
  clear h7 H5
  go_wp2_with fail
  (with_reducible refine (M2.out _).mono ?_)
  rintro e w8 ⟨rfl, rfl⟩
  go_wp2_with fail
  (with_reducible refine (AW.out _).mono ?_)
  rintro e w9 ⟨rfl, h9⟩
  have H9 := Lib.hid (bt H7.out h9)
  clear h9 H7
  go_wp2_with fail
  go_ret
  exact ⟨rfl, H9.out⟩

set_option maxRecDepth 100000 in
theorem lifted (os : Os) (started : os.Started) (H : Type) (enc : TypeId × Value → H) :
    ReturnsInHanded {} Tryd.checked os 3 .any (fun w args => (Rows.galoisElementsSpec.pre enc Tryd.prog Tryd.f3 [] false w args ∧ laidMetH Tryd.prog laidL w) ∧ sizedMet enc Tryd.prog Tryd.f3 (OpenSpec.ofChange Rows.galoisElementsSpec) false w args)
      (Rows.galoisElementsSpec.post enc Tryd.prog Tryd.f3 false true false false) := by
  refine returnsInHanded_of_change_and (C := Tryd.checked) (X := fun w _ => laidMetH Tryd.prog laidL w) (fun _ _ _ hh h => h.of_heap hh) own started (by kernel_rfl) Tryd.func3
    (ChangeSpec.witness_shaped (enc := enc) (C := Tryd.checked) (os := os) (X := fun w _ => laidMetH Tryd.prog laidL w) false (World.laidAll Tryd.prog os laidL) #[.int .u8 0, .int .u8 0, .int .i64 0] 8 (World.laidAll_os _ _ _)
      (World.shaped_of_ZipB (by kernel_rfl) (by kernel_rfl)) (by kernel_rfl) (by kernel_rfl) (by kernel_rfl) (laid_met os _)) ?_
  intro W base args ds gs before hval0 hW _ _ _ _
  have hval : ∀ (j : Nat) t v, Tryd.f3.params[j]? = some t → args[j]? = some v → Value.okWide Tryd.prog W .any base t v := hval0
  have hW' := hW
  obtain ⟨p, q, hA0, hV, rfl, hfz, hnd⟩ := hW
  have hA : DataW.TrodAll enc Tryd.prog W 0 (fun _ => true) true Tryd.f3.params.toList args.toList ds p := hA0
  rw [Tryd.params3] at hA hval
  obtain ⟨v0, vs0, d0, ds0, p0, q0, hargs, rfl, rfl, h0, r0⟩ := trodAll_cons hA
  obtain ⟨v1, vs1, d1, ds1, p1, q1, rfl, rfl, rfl, h1, r1⟩ := trodAll_cons r0
  obtain ⟨v2, vs2, d2, ds2, p2, q2, rfl, rfl, rfl, h2, r2⟩ := trodAll_cons r1
  obtain ⟨rfl, rfl, rfl⟩ := trodAll_nil r2
  obtain rfl : args = #[v0, v1, v2] := by cases args; simp_all
  obtain ⟨rfl, rfl⟩ := trodVars_none hV
  obtain ⟨a0, rfl, rfl, rfl, w0⟩ := open_int Tryd.underlying5 (hval 0 5 v0 rfl rfl) h0
  obtain ⟨a1, rfl, rfl, rfl, w1⟩ := open_int Tryd.underlying5 (hval 1 5 v1 rfl rfl) h1
  obtain ⟨a2, rfl, rfl, rfl, w2⟩ := open_int Tryd.underlying3 (hval 2 3 v2 rfl rfl) h2
  clear hA0 hval0
  simp only [List.append_nil] at hW'
  refine (walk a0 w0 a1 w1 a2 w2 W).mono fun e W' ⟨he, hg⟩ => ?_
  subst he
  exact ⟨_, rfl, post_of_below (pa := []) (pv := []) hW' (fun _ _ _ => trodAll_cons_mk (shut_bool Tryd.underlying4 _) trodAll_mk0) (fun sp _ => (trodAll_cons_mk (shut_int Tryd.underlying5 w0) (trodAll_cons_mk (shut_int Tryd.underlying5 w1) (trodAll_cons_mk (shut_int Tryd.underlying3 w2) trodAll_mk0)))) (fun _ _ => rfl) rfl
    hg (ok_one (by kernel_rfl) rfl (okWide_bool_mk Tryd.underlying4 _))⟩

theorem over : Rows.GaloisElementsSaid :=
  OpenClaim.holds_of_wide 3 Tryd.f3 rfl rfl rfl rfl rfl rfl rfl ⟨rfl, rfl, rfl, rfl, rfl⟩ rfl rfl rfl rfl rfl (by kernel_rfl) Tryd.func3 (by kernel_rfl)
    (of_decide_eq_true (by kernel_rfl)) (by unfold Func.isWrapper; first | (rw [if_pos (by decide +kernel)]; kernel_rfl) | (rw [if_neg (by decide +kernel)]; exact ⟨rfl, rfl⟩))
    (fun os started H enc _ => lifted os started H enc)

theorem proved : Rows.GaloisElementsCardSaid :=
  Claim7.holds_tied_plain_at .later [] [.data, .pinned] true Rows.galoisElementsCard.stood.harness false
    over (fun _ h => by cases h) (by kernel_rfl) (fun _ h => by cases h) galoisElements_row_tie rfl ⟨rfl, rfl⟩ (by kernel_rfl) rfl
    (fun f fn hf hfn => by
      obtain rfl : f = 3 := Option.some.inj ((show Tryd.prog.funcNamed "perigee/perigeelaw04.GaloisElements" = some 3 by kernel_rfl).symm.trans hf) |>.symm
      obtain rfl : fn = Tryd.f3 := (Option.some.inj (Tryd.func3.symm.trans hfn)).symm
      exact ⟨by kernel_rfl, fun j t ht => by
        have hall : (Tryd.f3.params.toList.all fun u => !Tryd.prog.wantsStandIn u) = true := by kernel_rfl
        have hm : t ∈ Tryd.f3.params.toList := by simpa using Array.mem_of_getElem? ht
        exact (show Tryd.prog.wantsStandIn t = false by simpa using List.all_eq_true.1 hall t hm)⟩)
    (by kernel_rfl)
#print axioms proved
end galoisElements
end Go.Proofs.YtinjppijcmhhbaaDoor
