/- GaloisField: the laws of a field, of all bytes a, b, c. No condition. -/
import Derived.Test.YtinjppijcmhhbaaDoorGalLaw
namespace Go.Proofs.YtinjppijcmhhbaaDoor
open Go.ChangeShapes Go.WideShapes Go.ChangeAt Go.RowKit
set_option linter.unusedVariables false

namespace galoisField
set_option maxRecDepth 100000 in
theorem walk (a : Int) (ha : (Lit.int .u8 a).wf = true) (b : Int) (hb : (Lit.int .u8 b).wf = true) (c : Int) (hc : (Lit.int .u8 c).wf = true) (w : World) :
    Calls Tryd.prog 5 #[.int .u8 a, .int .u8 b, .int .u8 c] w fun e w' => e = .returned (.bool true) ∧ Below w.heap.size w w' := by
  obtain ⟨a, rfl⟩ := bounds8 ha
  obtain ⟨b, rfl⟩ := bounds8 hb
  obtain ⟨c, rfl⟩ := bounds8 hc
  have AW := Lib.hid (fun w => awake_any w)
  have M1 := Lib.hid (fun w => mul_any a b w)
  have M2 := Lib.hid (fun w => mul_any b a w)
  rw [Gal.mul_comm b a] at M2
  have M3 := Lib.hid (fun w => mul_any b c w)
  have M4 := Lib.hid (fun w => mul_any a (Gal.mul b c) w)
  have M6 := Lib.hid (fun w => mul_any (Gal.mul a b) c w)
  rw [Gal.mul_assoc] at M6
  have M7 := Lib.hid (fun w => mul_any a (b ^^^ c) w)
  have M9 := Lib.hid (fun w => mul_any a c w)
  have M10 := Lib.hid (fun w => mul_any a 1#8 w)
  have M11 := Lib.hid (fun w => mul_any a 0#8 w)
  rw [Gal.mul_one, show ((1#8).toNat : Int) = 1 from rfl] at M10
  rw [Gal.mul_zero, show ((0#8).toNat : Int) = 0 from rfl] at M11
  have x1 := xor8 b c
  have x2 := xor8 (Gal.mul a b) (Gal.mul a c)
  rw [← Gal.mul_xor] at x2
  obtain ⟨v1, hv1⟩ : ∃ v, (Gal.mul a b).toNat = v := ⟨_, rfl⟩
  obtain ⟨v2, hv2⟩ : ∃ v, (Gal.mul b c).toNat = v := ⟨_, rfl⟩
  obtain ⟨v3, hv3⟩ : ∃ v, (Gal.mul a (Gal.mul b c)).toNat = v := ⟨_, rfl⟩
  obtain ⟨v4, hv4⟩ : ∃ v, (Gal.mul a (b ^^^ c)).toNat = v := ⟨_, rfl⟩
  obtain ⟨v5, hv5⟩ : ∃ v, (Gal.mul a c).toNat = v := ⟨_, rfl⟩
  obtain ⟨v6, hv6⟩ : ∃ v, (b ^^^ c).toNat = v := ⟨_, rfl⟩
  rw [hv1] at M1 M2 M6 x2
  rw [hv2] at M3 M4
  rw [hv3] at M4 M6
  rw [hv4] at M7 x2
  rw [hv5] at M9 x2
  rw [hv6] at M7 x1
  clear hv1 hv2 hv3 hv4 hv5 hv6
  by_cases h : b = 0#8
  · subst h
    have D := Lib.hid (fun w => div_any a 0#8 w)
    rw [show (Gal.divV a 0#8).toNat = 0 from rfl, show Gal.divE 0#8 = 2 from rfl, show ((0 : Nat) : Int) = 0 from rfl] at D
    rw [show ((0#8 : BitVec 8).toNat : Int) = 0 from rfl] at M1 M2 M3 D x1 ⊢
    obtain ⟨A, hA⟩ : ∃ v, a.toNat = v := ⟨_, rfl⟩
    obtain ⟨C, hC⟩ : ∃ v, c.toNat = v := ⟨_, rfl⟩
    rw [hA] at M1 M2 M4 M7 M9 M10 M11 D ⊢
    rw [hC] at M3 M6 M9 x1 ⊢
    clear hA hC ha hb hc
    go_enter Tryd.func5, Tryd.ntmps5
    go_wp2_with fail
    (with_reducible refine (M1.out _).mono ?_)
    rintro e w1 ⟨rfl, h1⟩
    have H1 := Lib.hid (h1)
    clear h1
    go_wp2_with fail
    (with_reducible refine (M2.out _).mono ?_)
    rintro e w2 ⟨rfl, h2⟩
    have H2 := Lib.hid (bt H1.out h2)
    clear h2 H1
    go_wp2_with fail
    (with_reducible refine (M3.out _).mono ?_)
    rintro e w3 ⟨rfl, h3⟩
    have H3 := Lib.hid (bt H2.out h3)
    clear h3 H2
    go_wp2_with fail
    (with_reducible refine (M4.out _).mono ?_)
    rintro e w4 ⟨rfl, h4⟩
    have H4 := Lib.hid (bt H3.out h4)
    clear h4 H3
    go_wp2_with fail
    (with_reducible refine (M1.out _).mono ?_)
    rintro e w5 ⟨rfl, h5⟩
    have H5 := Lib.hid (bt H4.out h5)
    clear h5 H4
    go_wp2_with fail
    (with_reducible refine (M6.out _).mono ?_)
    rintro e w6 ⟨rfl, h6⟩
    have H6 := Lib.hid (bt H5.out h6)
    clear h6 H5
    go_wp2_with fail
    (with_reducible refine (M7.out _).mono ?_)
    rintro e w7 ⟨rfl, h7⟩
    have H7 := Lib.hid (bt H6.out h7)
    clear h7 H6
    go_wp2_with fail
    (with_reducible refine (M1.out _).mono ?_)
    rintro e w8 ⟨rfl, h8⟩
    have H8 := Lib.hid (bt H7.out h8)
    clear h8 H7
    go_wp2_with fail
    (with_reducible refine (M9.out _).mono ?_)
    rintro e w9 ⟨rfl, h9⟩
    have H9 := Lib.hid (bt H8.out h9)
    clear h9 H8
    go_wp2_with fail
    (with_reducible refine (M10.out _).mono ?_)
    rintro e w10 ⟨rfl, h10⟩
    have H10 := Lib.hid (bt H9.out h10)
    clear h10 H9
    go_wp2_with fail
    (with_reducible refine (M11.out _).mono ?_)
    rintro e w11 ⟨rfl, h11⟩
    have H11 := Lib.hid (bt H10.out h11)
    clear h11 H10
    go_wp2_with fail
    (with_reducible refine (D.out _).mono ?_)
    rintro e w12 ⟨rfl, h12⟩
    have H12 := Lib.hid (bt H11.out h12)
    clear h12 H11
    go_wp2_with fail
    (with_reducible refine (AW.out _).mono ?_)
    rintro e w13 ⟨rfl, h13⟩
    have H13 := Lib.hid (bt H12.out h13)
    clear h13 H12
    go_wp2_with fail
    go_ret
    exact ⟨rfl, H13.out⟩
  · have y0 := eq0 h
    have D := Lib.hid (fun w => div_any a b w)
    rw [show Gal.divE b = 0 from if_neg h, show Gal.divV a b = Gal.mul a (Gal.inv b) from if_neg h] at D
    have M12 := Lib.hid (fun w => mul_any (Gal.mul a (Gal.inv b)) b w)
    rw [Gal.div_mul h] at M12
    have LG := Lib.hid (fun w => log2_any b w)
    rw [show Gal.logOk b = true from decide_eq_true h] at LG
    have PW := Lib.hid (fun w => pow_any 2#8 (Gal.lg b) w)
    rw [show Gal.powV 2#8 (Gal.lg b) = b by
      unfold Gal.powV
      rw [if_neg (by decide), show Gal.lg 2#8 = 1 by decide +kernel, show (((1 : Nat) : Int)) * (Gal.lg b : Int) = (Gal.lg b : Int) by omega, Gal.pwi_nat, Gal.pw_lg h], show Gal.powE 2#8 (Gal.lg b) = 0 from if_neg (fun q => absurd q.1 (by decide)), show ((2#8 : BitVec 8).toNat : Int) = 2 from rfl] at PW
    have l1 := Gal.lg_lt b
    obtain ⟨L, hL⟩ : ∃ v, Gal.lg b = v := ⟨_, rfl⟩
    rw [hL] at LG PW l1
    obtain ⟨Q, hQ⟩ : ∃ v, (Gal.mul a (Gal.inv b)).toNat = v := ⟨_, rfl⟩
    rw [hQ] at D M12
    obtain ⟨A, hA⟩ : ∃ v, a.toNat = v := ⟨_, rfl⟩
    obtain ⟨B, hB⟩ : ∃ v, b.toNat = v := ⟨_, rfl⟩
    obtain ⟨C, hC⟩ : ∃ v, c.toNat = v := ⟨_, rfl⟩
    rw [hA] at M1 M2 M4 M7 M9 M10 M11 M12 D ⊢
    rw [hB] at M1 M2 M3 M12 D LG PW x1 y0 ⊢
    rw [hC] at M3 M6 M9 x1 ⊢
    clear hA hB hC hL hQ h ha hb hc
    go_enter Tryd.func5, Tryd.ntmps5
    go_wp2_with fail
    (with_reducible refine (M1.out _).mono ?_)
    rintro e w1 ⟨rfl, h1⟩
    have H1 := Lib.hid (h1)
    clear h1
    go_wp2_with fail
    (with_reducible refine (M2.out _).mono ?_)
    rintro e w2 ⟨rfl, h2⟩
    have H2 := Lib.hid (bt H1.out h2)
    clear h2 H1
    go_wp2_with fail
    (with_reducible refine (M3.out _).mono ?_)
    rintro e w3 ⟨rfl, h3⟩
    have H3 := Lib.hid (bt H2.out h3)
    clear h3 H2
    go_wp2_with fail
    (with_reducible refine (M4.out _).mono ?_)
    rintro e w4 ⟨rfl, h4⟩
    have H4 := Lib.hid (bt H3.out h4)
    clear h4 H3
    go_wp2_with fail
    (with_reducible refine (M1.out _).mono ?_)
    rintro e w5 ⟨rfl, h5⟩
    have H5 := Lib.hid (bt H4.out h5)
    clear h5 H4
    go_wp2_with fail
    (with_reducible refine (M6.out _).mono ?_)
    rintro e w6 ⟨rfl, h6⟩
    have H6 := Lib.hid (bt H5.out h6)
    clear h6 H5
    go_wp2_with fail
    (with_reducible refine (M7.out _).mono ?_)
    rintro e w7 ⟨rfl, h7⟩
    have H7 := Lib.hid (bt H6.out h7)
    clear h7 H6
    go_wp2_with fail
    (with_reducible refine (M1.out _).mono ?_)
    rintro e w8 ⟨rfl, h8⟩
    have H8 := Lib.hid (bt H7.out h8)
    clear h8 H7
    go_wp2_with fail
    (with_reducible refine (M9.out _).mono ?_)
    rintro e w9 ⟨rfl, h9⟩
    have H9 := Lib.hid (bt H8.out h9)
    clear h9 H8
    go_wp2_with fail
    (with_reducible refine (M10.out _).mono ?_)
    rintro e w10 ⟨rfl, h10⟩
    have H10 := Lib.hid (bt H9.out h10)
    clear h10 H9
    go_wp2_with fail
    (with_reducible refine (M11.out _).mono ?_)
    rintro e w11 ⟨rfl, h11⟩
    have H11 := Lib.hid (bt H10.out h11)
    clear h11 H10
    go_wp2_with fail
    (with_reducible refine (D.out _).mono ?_)
    rintro e w12 ⟨rfl, h12⟩
    have H12 := Lib.hid (bt H11.out h12)
    clear h12 H11
    go_wp2_with fail
    (with_reducible refine (M12.out _).mono ?_)
    rintro e w13 ⟨rfl, h13⟩
    have H13 := Lib.hid (bt H12.out h13)
    clear h13 H12
    go_wp2_with fail
    (with_reducible refine (LG.out _).mono ?_)
    rintro e w14 ⟨rfl, h14⟩
    have H14 := Lib.hid (bt H13.out h14)
    clear h14 H13
    go_wp2_with fail
    (with_reducible refine (PW.out _).mono ?_)
    rintro e w15 ⟨rfl, h15⟩
    have H15 := Lib.hid (bt H14.out h15)
    clear h15 H14
    go_wp2_with fail
    (with_reducible refine (AW.out _).mono ?_)
    rintro e w16 ⟨rfl, h16⟩
    have H16 := Lib.hid (bt H15.out h16)
    clear h16 H15
    go_wp2_with fail
    go_ret
    exact ⟨rfl, H16.out⟩

set_option maxRecDepth 100000 in
theorem lifted (os : Os) (started : os.Started) (H : Type) (enc : TypeId × Value → H) :
    ReturnsInHanded {} Tryd.checked os 5 .any (fun w args => (Rows.galoisFieldSpec.pre enc Tryd.prog Tryd.f5 [] false w args ∧ laidMetH Tryd.prog laidL w) ∧ sizedMet enc Tryd.prog Tryd.f5 (OpenSpec.ofChange Rows.galoisFieldSpec) false w args)
      (Rows.galoisFieldSpec.post enc Tryd.prog Tryd.f5 false true false false) := by
  refine returnsInHanded_of_change_and (C := Tryd.checked) (X := fun w _ => laidMetH Tryd.prog laidL w) (fun _ _ _ hh h => h.of_heap hh) own started (by kernel_rfl) Tryd.func5
    (ChangeSpec.witness_shaped (enc := enc) (C := Tryd.checked) (os := os) (X := fun w _ => laidMetH Tryd.prog laidL w) false (World.laidAll Tryd.prog os laidL) #[.int .u8 0, .int .u8 0, .int .u8 0] 8 (World.laidAll_os _ _ _)
      (World.shaped_of_ZipB (by kernel_rfl) (by kernel_rfl)) (by kernel_rfl) (by kernel_rfl) (by kernel_rfl) (laid_met os _)) ?_
  intro W base args ds gs before hval0 hW _ _ _ _
  have hval : ∀ (j : Nat) t v, Tryd.f5.params[j]? = some t → args[j]? = some v → Value.okWide Tryd.prog W .any base t v := hval0
  have hW' := hW
  obtain ⟨p, q, hA0, hV, rfl, hfz, hnd⟩ := hW
  have hA : DataW.TrodAll enc Tryd.prog W 0 (fun _ => true) true Tryd.f5.params.toList args.toList ds p := hA0
  rw [Tryd.params5] at hA hval
  obtain ⟨v0, vs0, d0, ds0, p0, q0, hargs, rfl, rfl, h0, r0⟩ := trodAll_cons hA
  obtain ⟨v1, vs1, d1, ds1, p1, q1, rfl, rfl, rfl, h1, r1⟩ := trodAll_cons r0
  obtain ⟨v2, vs2, d2, ds2, p2, q2, rfl, rfl, rfl, h2, r2⟩ := trodAll_cons r1
  obtain ⟨rfl, rfl, rfl⟩ := trodAll_nil r2
  obtain rfl : args = #[v0, v1, v2] := by cases args; simp_all
  obtain ⟨rfl, rfl⟩ := trodVars_none hV
  obtain ⟨a0, rfl, rfl, rfl, w0⟩ := open_int Tryd.underlying5 (hval 0 5 v0 rfl rfl) h0
  obtain ⟨a1, rfl, rfl, rfl, w1⟩ := open_int Tryd.underlying5 (hval 1 5 v1 rfl rfl) h1
  obtain ⟨a2, rfl, rfl, rfl, w2⟩ := open_int Tryd.underlying5 (hval 2 5 v2 rfl rfl) h2
  clear hA0 hval0
  simp only [List.append_nil] at hW'
  refine (walk a0 w0 a1 w1 a2 w2 W).mono fun e W' ⟨he, hg⟩ => ?_
  subst he
  exact ⟨_, rfl, post_of_below (pa := []) (pv := []) hW' (fun _ _ _ => trodAll_cons_mk (shut_bool Tryd.underlying4 _) trodAll_mk0) (fun sp _ => (trodAll_cons_mk (shut_int Tryd.underlying5 w0) (trodAll_cons_mk (shut_int Tryd.underlying5 w1) (trodAll_cons_mk (shut_int Tryd.underlying5 w2) trodAll_mk0)))) (fun _ _ => rfl) rfl
    hg (ok_one (by kernel_rfl) rfl (okWide_bool_mk Tryd.underlying4 _))⟩

theorem over : Rows.GaloisFieldSaid :=
  OpenClaim.holds_of_wide 5 Tryd.f5 rfl rfl rfl rfl rfl rfl rfl ⟨rfl, rfl, rfl, rfl, rfl⟩ rfl rfl rfl rfl rfl (by kernel_rfl) Tryd.func5 (by kernel_rfl)
    (of_decide_eq_true (by kernel_rfl)) (by unfold Func.isWrapper; first | (rw [if_pos (by decide +kernel)]; kernel_rfl) | (rw [if_neg (by decide +kernel)]; exact ⟨rfl, rfl⟩))
    (fun os started H enc _ => lifted os started H enc)

theorem proved : Rows.GaloisFieldCardSaid :=
  Claim7.holds_tied_plain_at .later [] [.data, .pinned] true Rows.galoisFieldCard.stood.harness false
    over (fun _ h => by cases h) (by kernel_rfl) (fun _ h => by cases h) galoisField_row_tie rfl ⟨rfl, rfl⟩ (by kernel_rfl) rfl
    (fun f fn hf hfn => by
      obtain rfl : f = 5 := Option.some.inj ((show Tryd.prog.funcNamed "perigee/perigeelaw04.GaloisField" = some 5 by kernel_rfl).symm.trans hf) |>.symm
      obtain rfl : fn = Tryd.f5 := (Option.some.inj (Tryd.func5.symm.trans hfn)).symm
      exact ⟨by kernel_rfl, fun j t ht => by
        have hall : (Tryd.f5.params.toList.all fun u => !Tryd.prog.wantsStandIn u) = true := by kernel_rfl
        have hm : t ∈ Tryd.f5.params.toList := by simpa using Array.mem_of_getElem? ht
        exact (show Tryd.prog.wantsStandIn t = false by simpa using List.all_eq_true.1 hall t hm)⟩)
    (by kernel_rfl)
#print axioms proved
end galoisField
end Go.Proofs.YtinjppijcmhhbaaDoor
