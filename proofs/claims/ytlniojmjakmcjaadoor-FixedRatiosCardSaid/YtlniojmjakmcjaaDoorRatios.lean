/- FixedRatios: of all int64 numbers the program's Mul, Div and Ratio return the nearest integers and the errors that the document says, and Clamp is as specified (both compared with the document's own answers). The condition: the package's table of coefficients starts as the program's text lays it (tied by the card). -/
import Derived.Test.YtlniojmjakmcjaaDoorRatio
import Derived.Test.YtlniojmjakmcjaaDoorLaid
import Derived.Test.YtlniojmjakmcjaaDoorCards
import Derived.Test.YtlniojmjakmcjaaDoorTie
namespace Go.Proofs.YtlniojmjakmcjaaDoor
open Go.ChangeShapes Go.WideShapes Go.ChangeAt Go.RowKit
set_option linter.unusedVariables false

theorem bigClamp_any (a l h : Int) (w : World) :
    Calls Tryd.prog 14 #[.int .i64 a, .int .i64 l, .int .i64 h] w fun e w' => e = .returned (.int .i64 (min (max a l) h)) ∧ w = w' := by
  by_cases h1 : a < l
  · have m : max a l = l := by omega
    rw [m]
    by_cases h2 : h < l
    · have m2 : min l h = h := by omega
      rw [m2]
      clear m m2
      go_enter Tryd.func14, Tryd.ntmps14
      go_wp2
      go_ret
      exact ⟨rfl, rfl⟩
    · have m2 : min l h = l := by omega
      rw [m2]
      have d : decide (h < l) = false := by simpa using h2
      clear m m2
      go_enter Tryd.func14, Tryd.ntmps14
      go_wp2
      go_ret
      exact ⟨rfl, rfl⟩
  · have m : max a l = a := by omega
    have d1 : decide (a < l) = false := by simpa using h1
    rw [m]
    by_cases h2 : h < a
    · have m2 : min a h = h := by omega
      rw [m2]
      clear m m2
      go_enter Tryd.func14, Tryd.ntmps14
      go_wp2
      go_ret
      exact ⟨rfl, rfl⟩
    · have m2 : min a h = a := by omega
      rw [m2]
      have d : decide (h < a) = false := by simpa using h2
      clear m m2
      go_enter Tryd.func14, Tryd.ntmps14
      go_wp2
      go_ret
      exact ⟨rfl, rfl⟩

set_option maxHeartbeats 4000000 in
set_option maxRecDepth 100000 in
theorem ratios_any (a b c : Int) (ha : Fix.fits a) (hb : Fix.fits b) (hc : Fix.fits c) (w : World) (hs : Ser w) :
    Calls Tryd.prog 3 #[.int .i64 a, .int .i64 b, .int .i64 c] w fun e w' => e = .returned (.bool true) ∧ Below w.heap.size w w' := by
  have M1 := Lib.hid (fun w => mul_any a b ha hb w)
  have M2 := Lib.hid (fun w => bigMul_any a b ha hb w)
  have D1 := Lib.hid (fun w => div_any a b ha hb w)
  have D2 := Lib.hid (fun w => bigDiv_any a b ha hb w)
  have R1 := Lib.hid (fun w => ratio_any a b c ha hb hc w)
  have R2 := Lib.hid (fun w => bigRatio_any a b c ha hb hc w)
  have C1 := Lib.hid (fun w => clamp_any a b c w)
  have C2 := Lib.hid (fun w => bigClamp_any a b c w)
  have AW := Lib.hid (fun w hs => awake_any w hs)
  have HS := Lib.hid hs
  clear hs ha hb hc
  generalize min (max a b) c = k at *
  generalize Fix.ratioV a 1073741824 b = d at *
  generalize Fix.ratioE a 1073741824 b = dE at *
  generalize Fix.ratioV a b c = r at *
  generalize Fix.ratioE a b c = rE at *
  generalize mulV a b = p at *
  generalize mulE a b = pE at *
  have x1 : (k == k) = true := by simp
  have x2 : (d == d) = true := by simp
  have x3 : (dE == dE) = true := by simp
  have x4 : (r == r) = true := by simp
  have x5 : (rE == rE) = true := by simp
  have x6 : (p == p) = true := by simp
  have x7 : (pE == pE) = true := by simp
  go_enter Tryd.func3, Tryd.ntmps3
  go_wp2_with fail
  refine (M1.out _).mono ?_
  rintro e w1 ⟨rfl, n1, rfl⟩
  go_wp2_with fail
  refine (M2.out _).mono ?_
  rintro e w2 ⟨rfl, b2⟩
  have B2 := Lib.hid (show Below w.heap.size w w2 from (below_drewN (Below.refl _ _) _).trans b2)
  clear b2
  go_wp2_with fail
  refine (D1.out _).mono ?_
  rintro e w3 ⟨rfl, n3, rfl⟩
  go_wp2_with fail
  refine (D2.out _).mono ?_
  rintro e w4 ⟨rfl, b4⟩
  have B4 := Lib.hid (show Below w.heap.size w w4 from (below_drewN B2.out n3).trans (b4.mono (below_drewN B2.out n3).size))
  clear b4
  go_wp2_with fail
  refine (R1.out _).mono ?_
  rintro e w5 ⟨rfl, n5, rfl⟩
  go_wp2_with fail
  refine (R2.out _).mono ?_
  rintro e w6 ⟨rfl, b6⟩
  have B6 := Lib.hid (show Below w.heap.size w w6 from (below_drewN B4.out n5).trans (b6.mono (below_drewN B4.out n5).size))
  clear b6
  go_wp2_with fail
  refine (C1.out _).mono ?_
  rintro e w7 ⟨rfl, rfl⟩
  go_wp2_with fail
  refine (C2.out _).mono ?_
  rintro e w8 ⟨rfl, rfl⟩
  go_wp2_with fail
  refine (AW.out _ (HS.out.below B6.out)).mono ?_
  rintro e w9 ⟨rfl, b9⟩
  go_wp2_with fail
  go_ret
  exact ⟨rfl, B6.out.trans (b9.mono B6.out.size)⟩

theorem ratios_walk (a b c : Int) (ha : (Lit.int .i64 a).wf = true) (hb : (Lit.int .i64 b).wf = true) (hc : (Lit.int .i64 c).wf = true) (w : World) (hs : Ser w) :
    Calls Tryd.prog 3 #[.int .i64 a, .int .i64 b, .int .i64 c] w fun e w' => e = .returned (.bool true) ∧ Below w.heap.size w w' :=
  ratios_any a b c (bounds_i64 ha) (bounds_i64 hb) (bounds_i64 hc) w hs

namespace fixedRatios
set_option maxRecDepth 100000 in
theorem lifted (os : Os) (started : os.Started) (H : Type) (enc : TypeId × Value → H) :
    ReturnsInHanded {} Tryd.checked os 3 .any (fun w args => (Rows.fixedRatiosSpec.pre enc Tryd.prog Tryd.f3 [] false w args ∧ laidMetH Tryd.prog [("perigee/fixed.series", Rows.laid_perigee_fixed_series)] w) ∧ sizedMet enc Tryd.prog Tryd.f3 (OpenSpec.ofChange Rows.fixedRatiosSpec) false w args)
      (Rows.fixedRatiosSpec.post enc Tryd.prog Tryd.f3 false true false false) := by
  refine returnsInHanded_of_change_and (C := Tryd.checked) (X := fun w _ => laidMetH Tryd.prog [("perigee/fixed.series", Rows.laid_perigee_fixed_series)] w) (fun _ _ _ hh h => h.of_heap hh) own started (by kernel_rfl) Tryd.func3
    (ChangeSpec.witness_shaped (enc := enc) (C := Tryd.checked) (os := os) (X := fun w _ => laidMetH Tryd.prog [("perigee/fixed.series", Rows.laid_perigee_fixed_series)] w) false (World.doorLaid Tryd.prog 400 os) #[.int .i64 0, .int .i64 0, .int .i64 0] 8 rfl (World.shaped_of_RefB (by kernel_rfl) (by kernel_rfl)) (by kernel_rfl) (by kernel_rfl) (by kernel_rfl) (door_met os _)) ?_
  intro W base args ds gs before hval0 hW _ _ hL _
  have hval : ∀ (j : Nat) t v, Tryd.f3.params[j]? = some t → args[j]? = some v → Value.okWide Tryd.prog W .any base t v := hval0
  have hW' := hW
  obtain ⟨p, q, hA0, hV, rfl, hfz, hnd⟩ := hW
  have hA : DataW.TrodAll enc Tryd.prog W 0 (fun _ => true) true Tryd.f3.params.toList args.toList ds p := hA0
  rw [Tryd.params3] at hA hval
  obtain ⟨v0, vs0, d0, ds0, p0, q0, hargs, rfl, rfl, h0, r0⟩ := trodAll_cons hA
  obtain ⟨v1, vs1, d1, ds1, p1, q1, rfl, rfl, rfl, h1, r1⟩ := trodAll_cons r0
  obtain ⟨v2, vs2, d2, ds2, p2, q2, rfl, rfl, rfl, h2, r2⟩ := trodAll_cons r1
  obtain ⟨rfl, rfl, rfl⟩ := trodAll_nil r2
  obtain rfl : args = #[v0, v1, v2] := by cases args; simp_all
  obtain ⟨rfl, rfl⟩ := trodVars_none hV
  obtain ⟨a0, rfl, rfl, rfl, w0⟩ := open_int Tryd.underlying2 (hval 0 2 v0 rfl rfl) h0
  obtain ⟨a1, rfl, rfl, rfl, w1⟩ := open_int Tryd.underlying2 (hval 1 2 v1 rfl rfl) h1
  obtain ⟨a2, rfl, rfl, rfl, w2⟩ := open_int Tryd.underlying2 (hval 2 2 v2 rfl rfl) h2
  clear hA0 hval0
  simp only [List.append_nil] at hW'
  refine (ratios_walk a0 a1 a2 w0 w1 w2 W (ser_of hL)).mono fun e W' ⟨he, hg⟩ => ?_
  subst he
  exact ⟨_, rfl, post_of_below (pa := []) (pv := []) hW' (fun _ _ _ => trodAll_cons_mk (shut_bool Tryd.underlying4 _) trodAll_mk0) (fun sp _ => (trodAll_cons_mk (shut_int Tryd.underlying2 w0) (trodAll_cons_mk (shut_int Tryd.underlying2 w1) (trodAll_cons_mk (shut_int Tryd.underlying2 w2) trodAll_mk0)))) (fun _ _ => rfl) rfl
    hg (ok_one (by kernel_rfl) rfl (okWide_bool_mk Tryd.underlying4 _))⟩

theorem over : Rows.FixedRatiosSaid :=
  OpenClaim.holds_of_wide 3 Tryd.f3 rfl rfl rfl rfl rfl rfl rfl ⟨rfl, rfl, rfl, rfl, rfl⟩ rfl rfl rfl rfl rfl (by kernel_rfl) Tryd.func3 (by kernel_rfl)
    (of_decide_eq_true (by kernel_rfl)) (by unfold Func.isWrapper; first | (rw [if_pos (by decide +kernel)]; kernel_rfl) | (rw [if_neg (by decide +kernel)]; exact ⟨rfl, rfl⟩))
    (fun os started H enc _ => lifted os started H enc)

theorem proved : Rows.FixedRatiosCardSaid :=
  Claim7.holds_tied_plain_at .later [] [.data] true Rows.fixedRatiosCard.stood.harness false
    over (fun _ h => by cases h) (by kernel_rfl) (fun _ h => by cases h) fixedRatios_row_tie rfl ⟨rfl, rfl⟩ (by kernel_rfl) rfl
    (fun f fn hf hfn => by
      obtain rfl : f = 3 := Option.some.inj ((show Tryd.prog.funcNamed "perigee/perigeelaw01.FixedRatios" = some 3 by kernel_rfl).symm.trans hf) |>.symm
      obtain rfl : fn = Tryd.f3 := (Option.some.inj (Tryd.func3.symm.trans hfn)).symm
      exact ⟨by kernel_rfl, fun j t ht => by
        have hall : (Tryd.f3.params.toList.all fun u => !Tryd.prog.wantsStandIn u) = true := by kernel_rfl
        have hm : t ∈ Tryd.f3.params.toList := by simpa using Array.mem_of_getElem? ht
        exact (show Tryd.prog.wantsStandIn t = false by simpa using List.all_eq_true.1 hall t hm)⟩)
    (by kernel_rfl)
#print axioms proved
end fixedRatios
end Go.Proofs.YtlniojmjakmcjaaDoor
