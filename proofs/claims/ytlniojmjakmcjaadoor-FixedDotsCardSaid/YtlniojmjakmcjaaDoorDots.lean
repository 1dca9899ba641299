/- FixedDots: for every two lists of int64 the program's Dot returns the document's own answer. The condition: the package's table of coefficients starts as the program's text lays it (tied by the card). -/
import Derived.Test.YtlniojmjakmcjaaDoorBDot
import Derived.Test.YtlniojmjakmcjaaDoorSlicesL
import Derived.Test.YtlniojmjakmcjaaDoorCards
import Derived.Test.YtlniojmjakmcjaaDoorTie
namespace Go.Proofs.YtlniojmjakmcjaaDoor
open Go.ChangeShapes Go.WideShapes Go.ChangeAt Go.RowKit
set_option linter.unusedVariables false

set_option maxHeartbeats 2000000 in
theorem dots_walk (ao : Option Addr) (cap : Nat) (zs : List Int) (hc : zs.length ≤ cap) (hm : cap ≤ maxLen) (wz : ∀ n ∈ zs, (Lit.int .i64 n).wf = true) (bo : Option Addr) (cbp : Nat) (us : List Int) (hc2 : us.length ≤ cbp) (hm2 : cbp ≤ maxLen) (wu : ∀ n ∈ us, (Lit.int .i64 n).wf = true) (w : World) (hs : Ser w) (r : Reads .i64 w ao zs) (r2 : Reads .i64 w bo us) :
    Calls Tryd.prog 5 #[.slice ao zs.length cap, .slice bo us.length cbp] w fun e w' => e = .returned (.bool true) ∧ Below w.heap.size w w' := by
  have fz := fits_of wz
  have fu := fits_of wu
  have AW := Lib.hid (fun w hs => awake_any w hs)
  have HS := Lib.hid hs
  have hl : zs.length ≤ 9223372036854775807 := by unfold maxLen at hm; omega
  have hl2 : us.length ≤ 9223372036854775807 := by unfold maxLen at hm2; omega
  have R := Lib.hid r
  have R2 := Lib.hid r2
  have H1 := Lib.hid (fun w (h : Reads .i64 w ao zs) (h2 : Reads .i64 w bo us) => dot_any ao bo zs.length us.length cap cbp zs us w (h.ints hl) (h2.ints hl2) fz fu)
  have H2 := Lib.hid (fun w (h : Reads .i64 w ao zs) (h2 : Reads .i64 w bo us) => bigDot_any ao bo zs.length us.length cap cbp zs us w (h.ints hl) (h2.ints hl2) fz fu)
  clear hs r r2 wz wu fz fu
  obtain ⟨n, hn⟩ : ∃ n, zs.length = n := ⟨_, rfl⟩
  obtain ⟨m, hmm⟩ : ∃ n, us.length = n := ⟨_, rfl⟩
  rw [hn] at hc hl H1 H2 ⊢
  rw [hmm] at hc2 hl2 H1 H2 ⊢
  clear hn hmm
  by_cases h50 : 50 < n
  · go_enter Tryd.func5, Tryd.ntmps5
    go_wp2_with fail
    refine (AW.out _ HS.out).mono ?_
    rintro e w1 ⟨rfl, b1⟩
    go_wp2_with fail
    go_ret
    exact ⟨rfl, b1⟩
  · have h50' : decide ((50 : Int) < (n : Int)) = false := by simp; omega
    by_cases h51 : 50 < m
    · go_enter Tryd.func5, Tryd.ntmps5
      go_wp2_with fail
      refine (AW.out _ HS.out).mono ?_
      rintro e w1 ⟨rfl, b1⟩
      go_wp2_with fail
      go_ret
      exact ⟨rfl, b1⟩
    · have h51' : decide ((50 : Int) < (m : Int)) = false := by simp; omega
      generalize Fix.dotV zs us = h at *
      generalize Fix.dotE zs us = hE at *
      have x3 : (h == h) = true := by simp
      have x4 : (hE == hE) = true := by simp
      go_enter Tryd.func5, Tryd.ntmps5
      go_wp2_with fail
      refine (H1.out _ R.out R2.out).mono ?_
      rintro e w3 ⟨rfl, b3⟩
      have B3 := Lib.hid b3
      clear b3
      go_wp2_with fail
      refine (H2.out _ (R.out.below B3.out) (R2.out.below B3.out)).mono ?_
      rintro e w4 ⟨rfl, b4⟩
      have B4 := Lib.hid (B3.out.trans (b4.mono B3.out.size))
      clear b4
      go_wp2_with fail
      refine (AW.out _ (HS.out.below B4.out)).mono ?_
      rintro e w5 ⟨rfl, b5⟩
      go_wp2_with fail
      go_ret
      exact ⟨rfl, B4.out.trans (b5.mono B4.out.size)⟩

namespace fixedDots
set_option maxRecDepth 100000 in
theorem lifted (os : Os) (started : os.Started) (H : Type) (enc : TypeId × Value → H) :
    ReturnsInHanded {} Tryd.checked os 5 .any (fun w args => (Rows.fixedDotsSpec.pre enc Tryd.prog Tryd.f5 [] false w args ∧ laidMetH Tryd.prog [("perigee/fixed.series", Rows.laid_perigee_fixed_series)] w) ∧ sizedMet enc Tryd.prog Tryd.f5 (OpenSpec.ofChange Rows.fixedDotsSpec) false w args)
      (Rows.fixedDotsSpec.post enc Tryd.prog Tryd.f5 false true false false) := by
  refine returnsInHanded_of_change_and (C := Tryd.checked) (X := fun w _ => laidMetH Tryd.prog [("perigee/fixed.series", Rows.laid_perigee_fixed_series)] w) (fun _ _ _ hh h => h.of_heap hh) own started (by kernel_rfl) Tryd.func5
    (ChangeSpec.witness_shaped (enc := enc) (C := Tryd.checked) (os := os) (X := fun w _ => laidMetH Tryd.prog [("perigee/fixed.series", Rows.laid_perigee_fixed_series)] w) false (World.doorLaid Tryd.prog 400 os) #[.slice none 0 0, .slice none 0 0] 8 rfl (World.shaped_of_RefB (by kernel_rfl) (by kernel_rfl)) (by kernel_rfl) (by kernel_rfl) (by kernel_rfl) (door_met os _)) ?_
  intro W base args ds gs before hval0 hW _ _ hL _
  have hval : ∀ (j : Nat) t v, Tryd.f5.params[j]? = some t → args[j]? = some v → Value.okWide Tryd.prog W .any base t v := hval0
  have hW' := hW
  obtain ⟨p, q, hA0, hV, rfl, hfz, hnd⟩ := hW
  have hA : DataW.TrodAll enc Tryd.prog W 0 (fun _ => true) true Tryd.f5.params.toList args.toList ds p := hA0
  rw [Tryd.params5] at hA hval
  obtain ⟨v0, vs0, d0, ds0, p0, q0, hargs, rfl, rfl, h0, r0⟩ := trodAll_cons hA
  obtain ⟨v1, vs1, d1, ds1, p1, q1, rfl, rfl, rfl, h1, r1⟩ := trodAll_cons r0
  obtain ⟨rfl, rfl, rfl⟩ := trodAll_nil r1
  obtain rfl : args = #[v0, v1] := by cases args; simp_all
  obtain ⟨rfl, rfl⟩ := trodVars_none hV
  obtain ⟨x0, y0, z0, e0⟩ := okWide_slice Tryd.underlying29 (hval 0 29 v0 rfl rfl)
  obtain ⟨zs0, S0⟩ := slice_arg Tryd.underlying29 Tryd.underlying2 cI64 (by rw [e0]; rfl) h0
  clear e0
  obtain ⟨⟨ao0, cap0, rfl, l0, m0, R0⟩, w0, shut0⟩ := S0
  obtain ⟨x1, y1, z1, e1⟩ := okWide_slice Tryd.underlying29 (hval 1 29 v1 rfl rfl)
  obtain ⟨zs1, S1⟩ := slice_arg Tryd.underlying29 Tryd.underlying2 cI64 (by rw [e1]; rfl) h1
  clear e1
  obtain ⟨⟨ao1, cap1, rfl, l1, m1, R1⟩, w1, shut1⟩ := S1
  clear hA0 hval0
  simp only [List.append_nil] at hW'
  refine (dots_walk ao0 cap0 zs0 l0 m0 w0 ao1 cap1 zs1 l1 m1 w1 W (ser_of hL) R0 R1).mono fun e W' ⟨he, hg⟩ => ?_
  subst he
  exact ⟨_, rfl, post_of_below (pa := (p0 ++ (p1 ++ []))) (pv := []) hW' (fun _ _ _ => trodAll_cons_mk (shut_bool Tryd.underlying4 _) trodAll_mk0) (fun sp hsp => (trodAll_cons_mk (shut0 W' hg sp (fun q hq => hsp q (by simp [hq]))) (trodAll_cons_mk (shut1 W' hg sp (fun q hq => hsp q (by simp [hq]))) trodAll_mk0))) (fun _ _ => rfl) (by simp)
    hg (ok_one (by kernel_rfl) rfl (okWide_bool_mk Tryd.underlying4 _))⟩

theorem over : Rows.FixedDotsSaid :=
  OpenClaim.holds_of_wide 5 Tryd.f5 rfl rfl rfl rfl rfl rfl rfl ⟨rfl, rfl, rfl, rfl, rfl⟩ rfl rfl rfl rfl rfl (by kernel_rfl) Tryd.func5 (by kernel_rfl)
    (of_decide_eq_true (by kernel_rfl)) (by unfold Func.isWrapper; first | (rw [if_pos (by decide +kernel)]; kernel_rfl) | (rw [if_neg (by decide +kernel)]; exact ⟨rfl, rfl⟩))
    (fun os started H enc _ => lifted os started H enc)

theorem proved : Rows.FixedDotsCardSaid :=
  Claim7.holds_tied_plain_at .later [] [.data] true Rows.fixedDotsCard.stood.harness false
    over (fun _ h => by cases h) (by kernel_rfl) (fun _ h => by cases h) fixedDots_row_tie rfl ⟨rfl, rfl⟩ (by kernel_rfl) rfl
    (fun f fn hf hfn => by
      obtain rfl : f = 5 := Option.some.inj ((show Tryd.prog.funcNamed "perigee/perigeelaw01.FixedDots" = some 5 by kernel_rfl).symm.trans hf) |>.symm
      obtain rfl : fn = Tryd.f5 := (Option.some.inj (Tryd.func5.symm.trans hfn)).symm
      exact ⟨by kernel_rfl, fun j t ht => by
        have hall : (Tryd.f5.params.toList.all fun u => !Tryd.prog.wantsStandIn u) = true := by kernel_rfl
        have hm : t ∈ Tryd.f5.params.toList := by simpa using Array.mem_of_getElem? ht
        exact (show Tryd.prog.wantsStandIn t = false by simpa using List.all_eq_true.1 hall t hm)⟩)
    (by kernel_rfl)
#print axioms proved
end fixedDots
end Go.Proofs.YtlniojmjakmcjaaDoor
