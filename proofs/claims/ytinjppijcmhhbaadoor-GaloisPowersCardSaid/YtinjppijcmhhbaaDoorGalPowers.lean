/- GaloisPowers: of all bytes a and numbers n, m (taken modulo 2^40) the powers of a multiply as the exponents add up, and repeat after 255. No condition. -/
import Derived.Test.YtinjppijcmhhbaaDoorGalLaw
namespace Go.Proofs.YtinjppijcmhhbaaDoor
open Go.ChangeShapes Go.WideShapes Go.ChangeAt Go.RowKit
set_option linter.unusedVariables false

namespace galoisPowers
theorem tm (n : Int) : ∃ k, n.tmod 1099511627776 = k ∧ -1099511627776 < k ∧ k < 1099511627776 :=
  ⟨_, rfl, by have := Int.lt_tmod_of_pos n (show (0 : Int) < 1099511627776 by omega); omega, Int.tmod_lt_of_pos n (by omega)⟩
theorem zeroE (k : Int) : ∃ t : Bool, (Gal.powE 0#8 k == 0) = t ∧ decide (0 ≤ k) = t := by
  unfold Gal.powE
  by_cases h : k < 0
  · rw [if_pos ⟨rfl, h⟩]
    exact ⟨false, rfl, by simp; omega⟩
  · rw [if_neg (fun q => h q.2)]
    exact ⟨true, rfl, by simp; omega⟩
set_option maxRecDepth 100000 in
theorem walk (a : Int) (ha : (Lit.int .u8 a).wf = true) (n : Int) (hn : (Lit.int .i64 n).wf = true) (m : Int) (hm : (Lit.int .i64 m).wf = true) (w : World) :
    Calls Tryd.prog 6 #[.int .u8 a, .int .i64 n, .int .i64 m] w fun e w' => e = .returned (.bool true) ∧ Below w.heap.size w w' := by
  obtain ⟨a, rfl⟩ := bounds8 ha
  have AW := Lib.hid (fun w => awake_any w)
  obtain ⟨k, ek, k1, k2⟩ := tm n
  obtain ⟨l, el, l1, l2⟩ := tm m
  have P1 := Lib.hid (fun w => pow_any a k w)
  have P2 := Lib.hid (fun w => pow_any a l w)
  have P3 := Lib.hid (fun w => pow_any a (k + l) w)
  have P4 := Lib.hid (fun w => pow_any a (k + 255) w)
  have s1 : IntKind.i64.wrap (k + l) = k + l := by rw [IntKind.wrap_i64]; omega
  have s2 : IntKind.i64.wrap (k + 255) = k + 255 := by rw [IntKind.wrap_i64]; omega
  by_cases h : a = 0#8
  · subst h
    rw [show ((0#8 : BitVec 8).toNat : Int) = 0 from rfl] at P1 P2 P3 P4 ⊢
    obtain ⟨t1, e1, d1⟩ := zeroE k
    obtain ⟨t2, e2, d2⟩ := zeroE l
    obtain ⟨t3, e3, d3⟩ := zeroE (k + l)
    obtain ⟨v1, hv1⟩ : ∃ v, Gal.powE 0#8 k = v := ⟨_, rfl⟩
    obtain ⟨v2, hv2⟩ : ∃ v, Gal.powE 0#8 l = v := ⟨_, rfl⟩
    obtain ⟨v3, hv3⟩ : ∃ v, Gal.powE 0#8 (k + l) = v := ⟨_, rfl⟩
    obtain ⟨v4, hv4⟩ : ∃ v, Gal.powE 0#8 (k + 255) = v := ⟨_, rfl⟩
    obtain ⟨x1, hx1⟩ : ∃ v, (Gal.powV 0#8 k).toNat = v := ⟨_, rfl⟩
    obtain ⟨x2, hx2⟩ : ∃ v, (Gal.powV 0#8 l).toNat = v := ⟨_, rfl⟩
    obtain ⟨x3, hx3⟩ : ∃ v, (Gal.powV 0#8 (k + l)).toNat = v := ⟨_, rfl⟩
    obtain ⟨x4, hx4⟩ : ∃ v, (Gal.powV 0#8 (k + 255)).toNat = v := ⟨_, rfl⟩
    rw [hv1, hx1] at P1
    rw [hv2, hx2] at P2
    rw [hv3, hx3] at P3
    rw [hv4, hx4] at P4
    rw [hv1] at e1
    rw [hv2] at e2
    rw [hv3] at e3
    clear hv1 hv2 hv3 hv4 hx1 hx2 hx3 hx4 ha hn hm
    go_enter Tryd.func6, Tryd.ntmps6
    go_wp2_with fail
    (with_reducible refine (P1.out _).mono ?_)
    rintro e w1 ⟨rfl, h1⟩
    have H1 := Lib.hid (h1)
    clear h1
    go_wp2_with fail
    (with_reducible refine (P2.out _).mono ?_)
    rintro e w2 ⟨rfl, h2⟩
    have H2 := Lib.hid (bt H1.out h2)
    clear h2 H1
    go_wp2_with fail
    (with_reducible refine (P3.out _).mono ?_)
    rintro e w3 ⟨rfl, h3⟩
    have H3 := Lib.hid (bt H2.out h3)
    clear h3 H2
    go_wp2_with fail
    (with_reducible refine (P4.out _).mono ?_)
    rintro e w4 ⟨rfl, h4⟩
    have H4 := Lib.hid (bt H3.out h4)
    clear h4 H3
    go_wp2_with fail
    (with_reducible refine (AW.out _).mono ?_)
    rintro e w5 ⟨rfl, h5⟩
    have H5 := Lib.hid (bt H4.out h5)
    clear h5 H4
    go_wp2_with fail
    go_ret
    exact ⟨rfl, H5.out⟩
  · have y0 := eq0 h
    have z := fun k => (show Gal.powE a k = 0 from if_neg (fun q => h q.1))
    rw [z] at P1 P2 P3 P4
    have M := Lib.hid (fun w => mul_any (Gal.powV a k) (Gal.powV a l) w)
    rw [Gal.powV_add h] at M
    rw [Gal.powV_round h] at P4
    obtain ⟨x1, hx1⟩ : ∃ v, (Gal.powV a k).toNat = v := ⟨_, rfl⟩
    obtain ⟨x2, hx2⟩ : ∃ v, (Gal.powV a l).toNat = v := ⟨_, rfl⟩
    obtain ⟨x3, hx3⟩ : ∃ v, (Gal.powV a (k + l)).toNat = v := ⟨_, rfl⟩
    rw [hx1] at P1 P4 M
    rw [hx2] at P2 M
    rw [hx3] at P3 M
    obtain ⟨A, hA⟩ : ∃ v, a.toNat = v := ⟨_, rfl⟩
    rw [hA] at P1 P2 P3 P4 y0 ⊢
    clear hx1 hx2 hx3 hA z h ha hn hm
    go_enter Tryd.func6, Tryd.ntmps6
    go_wp2_with fail
    (with_reducible refine (P1.out _).mono ?_)
    rintro e w1 ⟨rfl, h1⟩
    have H1 := Lib.hid (h1)
    clear h1
    go_wp2_with fail
    (with_reducible refine (P2.out _).mono ?_)
    rintro e w2 ⟨rfl, h2⟩
    have H2 := Lib.hid (bt H1.out h2)
    clear h2 H1
    go_wp2_with fail
    (with_reducible refine (P3.out _).mono ?_)
    rintro e w3 ⟨rfl, h3⟩
    have H3 := Lib.hid (bt H2.out h3)
    clear h3 H2
    go_wp2_with fail
    (with_reducible refine (P4.out _).mono ?_)
    rintro e w4 ⟨rfl, h4⟩
    have H4 := Lib.hid (bt H3.out h4)
    clear h4 H3
    go_wp2_with fail
    (with_reducible refine (M.out _).mono ?_)
    rintro e w5 ⟨rfl, h5⟩
    have H5 := Lib.hid (bt H4.out h5)
    clear h5 H4
    go_wp2_with fail
    (with_reducible refine (AW.out _).mono ?_)
    rintro e w6 ⟨rfl, h6⟩
    have H6 := Lib.hid (bt H5.out h6)
    clear h6 H5
    go_wp2_with fail
    go_ret
    exact ⟨rfl, H6.out⟩

set_option maxRecDepth 100000 in
theorem lifted (os : Os) (started : os.Started) (H : Type) (enc : TypeId × Value → H) :
    ReturnsInHanded {} Tryd.checked os 6 .any (fun w args => (Rows.galoisPowersSpec.pre enc Tryd.prog Tryd.f6 [] false w args ∧ laidMetH Tryd.prog laidL w) ∧ sizedMet enc Tryd.prog Tryd.f6 (OpenSpec.ofChange Rows.galoisPowersSpec) false w args)
      (Rows.galoisPowersSpec.post enc Tryd.prog Tryd.f6 false true false false) := by
  refine returnsInHanded_of_change_and (C := Tryd.checked) (X := fun w _ => laidMetH Tryd.prog laidL w) (fun _ _ _ hh h => h.of_heap hh) own started (by kernel_rfl) Tryd.func6
    (ChangeSpec.witness_shaped (enc := enc) (C := Tryd.checked) (os := os) (X := fun w _ => laidMetH Tryd.prog laidL w) false (World.laidAll Tryd.prog os laidL) #[.int .u8 0, .int .i64 0, .int .i64 0] 8 (World.laidAll_os _ _ _)
      (World.shaped_of_ZipB (by kernel_rfl) (by kernel_rfl)) (by kernel_rfl) (by kernel_rfl) (by kernel_rfl) (laid_met os _)) ?_
  intro W base args ds gs before hval0 hW _ _ _ _
  have hval : ∀ (j : Nat) t v, Tryd.f6.params[j]? = some t → args[j]? = some v → Value.okWide Tryd.prog W .any base t v := hval0
  have hW' := hW
  obtain ⟨p, q, hA0, hV, rfl, hfz, hnd⟩ := hW
  have hA : DataW.TrodAll enc Tryd.prog W 0 (fun _ => true) true Tryd.f6.params.toList args.toList ds p := hA0
  rw [Tryd.params6] at hA hval
  obtain ⟨v0, vs0, d0, ds0, p0, q0, hargs, rfl, rfl, h0, r0⟩ := trodAll_cons hA
  obtain ⟨v1, vs1, d1, ds1, p1, q1, rfl, rfl, rfl, h1, r1⟩ := trodAll_cons r0
  obtain ⟨v2, vs2, d2, ds2, p2, q2, rfl, rfl, rfl, h2, r2⟩ := trodAll_cons r1
  obtain ⟨rfl, rfl, rfl⟩ := trodAll_nil r2
  obtain rfl : args = #[v0, v1, v2] := by cases args; simp_all
  obtain ⟨rfl, rfl⟩ := trodVars_none hV
  obtain ⟨a0, rfl, rfl, rfl, w0⟩ := open_int Tryd.underlying5 (hval 0 5 v0 rfl rfl) h0
  obtain ⟨a1, rfl, rfl, rfl, w1⟩ := open_int Tryd.underlying2 (hval 1 2 v1 rfl rfl) h1
  obtain ⟨a2, rfl, rfl, rfl, w2⟩ := open_int Tryd.underlying2 (hval 2 2 v2 rfl rfl) h2
  clear hA0 hval0
  simp only [List.append_nil] at hW'
  refine (walk a0 w0 a1 w1 a2 w2 W).mono fun e W' ⟨he, hg⟩ => ?_
  subst he
  exact ⟨_, rfl, post_of_below (pa := []) (pv := []) hW' (fun _ _ _ => trodAll_cons_mk (shut_bool Tryd.underlying4 _) trodAll_mk0) (fun sp _ => (trodAll_cons_mk (shut_int Tryd.underlying5 w0) (trodAll_cons_mk (shut_int Tryd.underlying2 w1) (trodAll_cons_mk (shut_int Tryd.underlying2 w2) trodAll_mk0)))) (fun _ _ => rfl) rfl
    hg (ok_one (by kernel_rfl) rfl (okWide_bool_mk Tryd.underlying4 _))⟩

theorem over : Rows.GaloisPowersSaid :=
  OpenClaim.holds_of_wide 6 Tryd.f6 rfl rfl rfl rfl rfl rfl rfl ⟨rfl, rfl, rfl, rfl, rfl⟩ rfl rfl rfl rfl rfl (by kernel_rfl) Tryd.func6 (by kernel_rfl)
    (of_decide_eq_true (by kernel_rfl)) (by unfold Func.isWrapper; first | (rw [if_pos (by decide +kernel)]; kernel_rfl) | (rw [if_neg (by decide +kernel)]; exact ⟨rfl, rfl⟩))
    (fun os started H enc _ => lifted os started H enc)

theorem proved : Rows.GaloisPowersCardSaid :=
  Claim7.holds_tied_plain_at .later [] [.data, .pinned] true Rows.galoisPowersCard.stood.harness false
    over (fun _ h => by cases h) (by kernel_rfl) (fun _ h => by cases h) galoisPowers_row_tie rfl ⟨rfl, rfl⟩ (by kernel_rfl) rfl
    (fun f fn hf hfn => by
      obtain rfl : f = 6 := Option.some.inj ((show Tryd.prog.funcNamed "perigee/perigeelaw04.GaloisPowers" = some 6 by kernel_rfl).symm.trans hf) |>.symm
      obtain rfl : fn = Tryd.f6 := (Option.some.inj (Tryd.func6.symm.trans hfn)).symm
      exact ⟨by kernel_rfl, fun j t ht => by
        have hall : (Tryd.f6.params.toList.all fun u => !Tryd.prog.wantsStandIn u) = true := by kernel_rfl
        have hm : t ∈ Tryd.f6.params.toList := by simpa using Array.mem_of_getElem? ht
        exact (show Tryd.prog.wantsStandIn t = false by simpa using List.all_eq_true.1 hall t hm)⟩)
    (by kernel_rfl)
#print axioms proved
end galoisPowers
end Go.Proofs.YtinjppijcmhhbaaDoor
