/- GaloisTrims: of all strings of at most 400 bytes as polynomials, bytes 0 at their ends (at most 99 of them) make no difference. No condition. -/
import Derived.Test.YtinjppijcmhhbaaDoorGalTrimsReg
namespace Go.Proofs.YtinjppijcmhhbaaDoor
open Go.ChangeShapes Go.WideShapes Go.ChangeAt Go.RowKit
set_option linter.unusedVariables false

namespace galoisTrims
theorem zeros (m : Nat) : Gal.coefs (fun _ => 0#8) m = List.replicate m 0 := by
  apply List.ext_getElem
  · rw [Gal.coefs_length, List.length_replicate]
  · intro i h1 h2
    simp [Gal.coefs]
theorem co_more (p : ByteArray) (m : Nat) (i : Nat) : Gal.co (p ++ (⟨(Gal.coefs (fun _ => 0#8) m).toArray⟩ : ByteArray)).data.toList i = Gal.co p.data.toList i := by
  have e : (p ++ (⟨(Gal.coefs (fun _ => 0#8) m).toArray⟩ : ByteArray)).data.toList = p.data.toList ++ List.replicate m 0 := by
    rw [ByteArray.data_append, Array.toList_append, zeros]
  rw [e, Gal.co_zeros]
theorem more_size (p : ByteArray) (m : Nat) : (p ++ (⟨(Gal.coefs (fun _ => 0#8) m).toArray⟩ : ByteArray)).size = p.size + m := by
  rw [ByteArray.size_append, coefs_size]
set_option maxRecDepth 100000 in
set_option maxHeartbeats 1000000 in
theorem walk (p : ByteArray) (hp : p.size ≤ maxLen) (q : ByteArray) (hq : q.size ≤ maxLen) (x : Int) (hx : (Lit.int .u16 x).wf = true) (w : World) :
    Calls Tryd.prog 8 #[.string p, .string q, .int .u16 x] w fun e w' => e = .returned (.bool true) ∧ Below w.heap.size w w' := by
  obtain ⟨b1, b2⟩ := bounds_u16 hx
  obtain ⟨N, rfl⟩ : ∃ N : Nat, x = (N : Int) := ⟨x.toNat, by omega⟩
  unfold maxLen at hp hq
  have AW := Lib.hid (fun w => awake_any w)
  by_cases h1 : 400 < p.size
  · go_enter Tryd.func8, Tryd.ntmps8
    go_wp2_with fail
    (with_reducible refine (AW.out _).mono ?_)
    rintro e w1 ⟨rfl, h1⟩
    go_wp2_with fail
    go_ret
    exact ⟨rfl, h1⟩
  by_cases h2 : 400 < q.size
  · have h1' : decide ((400 : Int) < (p.size : Int)) = false := by simp; omega
    go_enter Tryd.func8, Tryd.ntmps8
    go_wp2_with fail
    (with_reducible refine (AW.out _).mono ?_)
    rintro e w1 ⟨rfl, h1⟩
    go_wp2_with fail
    go_ret
    exact ⟨rfl, h1⟩
  have h1' : decide ((400 : Int) < (p.size : Int)) = false := by simp; omega
  have h2' : decide ((400 : Int) < (q.size : Int)) = false := by simp; omega
  obtain ⟨m1, hm1⟩ : ∃ m, N % 100 = m := ⟨_, rfl⟩
  obtain ⟨k, hk⟩ : ∃ k, N / 100 = k := ⟨_, rfl⟩
  obtain ⟨m2, hm2⟩ : ∃ m, k % 100 = m := ⟨_, rfl⟩
  have s1 := more_size p m1
  have s2 := more_size q m2
  have c1 := co_more p m1
  have c2 := co_more q m2
  have HF := Lib.hid (show N / 100 ≤ k ∧ k ≤ N / 100 ∧ m1 ≤ 1000000 ∧ m2 ≤ 1000000 ∧ (N : Int) % 100 = (m1 : Int) ∧ (N : Int).tmod 100 = (m1 : Int) ∧ (N : Int) / 100 = (k : Int) ∧ (N : Int).tdiv 100 = (k : Int) ∧ (k : Int) % 100 = (m2 : Int) ∧ (k : Int).tmod 100 = (m2 : Int) from
    ⟨by omega, by omega, by omega, by omega, by omega, by rw [Int.tmod_eq_emod_of_nonneg (by omega)]; omega, by omega, by rw [Int.tdiv_eq_ediv_of_nonneg (by omega)]; omega, by omega, by rw [Int.tmod_eq_emod_of_nonneg (by omega)]; omega⟩)
  have p4 : p.size ≤ 1000000 := by omega
  have q4 : q.size ≤ 1000000 := by omega
  obtain ⟨a, ha⟩ : ∃ a, p ++ (⟨(Gal.coefs (fun _ => 0#8) m1).toArray⟩ : ByteArray) = a := ⟨_, rfl⟩
  obtain ⟨b, hb⟩ : ∃ a, q ++ (⟨(Gal.coefs (fun _ => 0#8) m2).toArray⟩ : ByteArray) = a := ⟨_, rfl⟩
  rw [ha] at s1 c1
  rw [hb] at s2 c2
  have P1 := Lib.hid (fun w => prod_any a b (by omega) (by omega) w)
  have P2 := Lib.hid (fun w => prod_any p q (by omega) (by omega) w)
  obtain ⟨g1, g2⟩ := Gal.prod_congr c1 c2
  rw [g1, g2] at P1
  have Q1 := Lib.hid (fun w => quot_any a b (by omega) (by omega) w)
  have Q2 := Lib.hid (fun w => quot_any p q (by omega) (by omega) w)
  obtain ⟨k1, k2, k3⟩ := Gal.quot_congr c1 c2
  rw [k1, k2, k3] at Q1
  have D1 := Lib.hid (fun w => degree_any a (by omega) w)
  have D2 := Lib.hid (fun w => degree_any p (by omega) w)
  rw [Gal.nn_eq c1] at D1
  have S1 := Lib.hid (fun w => sum_any a b (by omega) (by omega) w)
  have S2 := Lib.hid (fun w => sum_any p q (by omega) (by omega) w)
  rw [Gal.sum_congr c1 c2] at S1
  have E1 := Lib.hid (fun w => derived_any a (by omega) w)
  have E2 := Lib.hid (fun w => derived_any p (by omega) w)
  rw [Gal.der_congr c1] at E1
  obtain ⟨t, ht⟩ : ∃ s : ByteArray, (⟨(Gal.prodV p.data.toList q.data.toList).toArray⟩ : ByteArray) = s := ⟨_, rfl⟩
  obtain ⟨c, hc⟩ : ∃ s : ByteArray, (⟨(Gal.quotV p.data.toList q.data.toList).toArray⟩ : ByteArray) = s := ⟨_, rfl⟩
  obtain ⟨d, hd⟩ : ∃ s : ByteArray, (⟨(Gal.restV p.data.toList q.data.toList).toArray⟩ : ByteArray) = s := ⟨_, rfl⟩
  obtain ⟨s, hs⟩ : ∃ s : ByteArray, (⟨(Gal.sumV p.data.toList q.data.toList).toArray⟩ : ByteArray) = s := ⟨_, rfl⟩
  obtain ⟨v, hv⟩ : ∃ s : ByteArray, (⟨(Gal.derV p.data.toList).toArray⟩ : ByteArray) = s := ⟨_, rfl⟩
  obtain ⟨e1, he1⟩ : ∃ v, Gal.prodE p.data.toList q.data.toList = v := ⟨_, rfl⟩
  obtain ⟨e2, he2⟩ : ∃ v, Gal.quotE q.data.toList = v := ⟨_, rfl⟩
  obtain ⟨n, hn⟩ : ∃ v, Gal.nn p.data.toList = v := ⟨_, rfl⟩
  rw [ht, he1] at P1 P2
  rw [hc, hd, he2] at Q1 Q2
  rw [hn] at D1 D2
  rw [hs] at S1 S2
  rw [hv] at E1 E2
  have t1 := beq_same t
  have t2 := beq_same c
  have t3 := beq_same d
  have t4 := beq_same s
  have t5 := beq_same v
  have HA := Lib.hid ha
  have HB := Lib.hid hb
  have N2 : N < 65536 := by omega
  clear ha hb hm1 hk hm2 s1 s2 c1 c2 g1 g2 k1 k2 k3 ht hc hd hs hv he1 he2 hn hp hq h1 h2 hx b1 b2
  go_enter Tryd.func8, Tryd.ntmps8
  go_upto_region 3 with fail
  obtain ⟨f1, f2, f3, f4, f5, f6, f7, f8, f9, f10⟩ := HF.out
  refine trimsRegion N m1 m2 k p q p4 q4 N2 f1 f2 f3 f4 f5 f6 f7 f8 f9 f10 (by kernel_rfl) rfl rfl rfl rfl rfl rfl rfl rfl rfl rfl rfl rfl rfl rfl rfl rfl rfl rfl rfl rfl ?_
  intro B3 B10 w1 h1
  simp only [Act.put, List.setIfInBounds_toArray, List.set_cons_succ, List.set_cons_zero]
  rw [HA.out, HB.out]
  have H1 := Lib.hid h1
  clear h1 HF f1 f2 f3 f4 f5 f6 f7 f8 f9 f10
  obtain ⟨z1, hz1⟩ : ∃ z : ByteArray, (⟨(Gal.coefs (fun _ => 0#8) m1).toArray⟩ : ByteArray) = z := ⟨_, rfl⟩
  obtain ⟨z2, hz2⟩ : ∃ z : ByteArray, (⟨(Gal.coefs (fun _ => 0#8) m2).toArray⟩ : ByteArray) = z := ⟨_, rfl⟩
  rw [hz1, hz2]
  clear hz1 hz2 HA HB
  go_wp2_with fail
  (with_reducible refine (P1.out _).mono ?_)
  rintro e w2 ⟨rfl, h2⟩
  have H2 := Lib.hid (bt H1.out h2)
  clear h2 H1
  go_wp2_with fail
  (with_reducible refine (P2.out _).mono ?_)
  rintro e w3 ⟨rfl, h3⟩
  have H3 := Lib.hid (bt H2.out h3)
  clear h3 H2
  go_wp2_with fail
  (with_reducible refine (Q1.out _).mono ?_)
  rintro e w4 ⟨rfl, h4⟩
  have H4 := Lib.hid (bt H3.out h4)
  clear h4 H3
  go_wp2_with fail
  (with_reducible refine (Q2.out _).mono ?_)
  rintro e w5 ⟨rfl, h5⟩
  have H5 := Lib.hid (bt H4.out h5)
  clear h5 H4
  go_wp2_with fail
  (with_reducible refine (D1.out _).mono ?_)
  rintro e w6 ⟨rfl, rfl⟩
  go_wp2_with fail
  (with_reducible refine (D2.out _).mono ?_)
  rintro e w7 ⟨rfl, rfl⟩
  go_wp2_with fail
  (with_reducible refine (S1.out _).mono ?_)
  rintro e w8 ⟨rfl, h8⟩
  have H8 := Lib.hid (bt H5.out h8)
  clear h8 H5
  go_wp2_with fail
  (with_reducible refine (S2.out _).mono ?_)
  rintro e w9 ⟨rfl, h9⟩
  have H9 := Lib.hid (bt H8.out h9)
  clear h9 H8
  go_wp2_with fail
  (with_reducible refine (E1.out _).mono ?_)
  rintro e w10 ⟨rfl, h10⟩
  have H10 := Lib.hid (bt H9.out h10)
  clear h10 H9
  go_wp2_with fail
  (with_reducible refine (E2.out _).mono ?_)
  rintro e w11 ⟨rfl, h11⟩
  have H11 := Lib.hid (bt H10.out h11)
  clear h11 H10
  go_wp2_with fail
  (with_reducible refine (AW.out _).mono ?_)
  rintro e w12 ⟨rfl, h12⟩
  have H12 := Lib.hid (bt H11.out h12)
  clear h12 H11
  go_wp2_with fail
  go_ret
  exact ⟨rfl, H12.out⟩

set_option maxRecDepth 100000 in
theorem lifted (os : Os) (started : os.Started) (H : Type) (enc : TypeId × Value → H) :
    ReturnsInHanded {} Tryd.checked os 8 .any (fun w args => (Rows.galoisTrimsSpec.pre enc Tryd.prog Tryd.f8 [] false w args ∧ laidMetH Tryd.prog laidL w) ∧ sizedMet enc Tryd.prog Tryd.f8 (OpenSpec.ofChange Rows.galoisTrimsSpec) false w args)
      (Rows.galoisTrimsSpec.post enc Tryd.prog Tryd.f8 false true false false) := by
  refine returnsInHanded_of_change_and (C := Tryd.checked) (X := fun w _ => laidMetH Tryd.prog laidL w) (fun _ _ _ hh h => h.of_heap hh) own started (by kernel_rfl) Tryd.func8
    (ChangeSpec.witness_shaped (enc := enc) (C := Tryd.checked) (os := os) (X := fun w _ => laidMetH Tryd.prog laidL w) false (World.laidAll Tryd.prog os laidL) #[.string { data := #[] }, .string { data := #[] }, .int .u16 0] 8 (World.laidAll_os _ _ _)
      (World.shaped_of_ZipB (by kernel_rfl) (by kernel_rfl)) (by kernel_rfl) (by kernel_rfl) (by kernel_rfl) (laid_met os _)) ?_
  intro W base args ds gs before hval0 hW _ _ _ _
  have hval : ∀ (j : Nat) t v, Tryd.f8.params[j]? = some t → args[j]? = some v → Value.okWide Tryd.prog W .any base t v := hval0
  have hW' := hW
  obtain ⟨p, q, hA0, hV, rfl, hfz, hnd⟩ := hW
  have hA : DataW.TrodAll enc Tryd.prog W 0 (fun _ => true) true Tryd.f8.params.toList args.toList ds p := hA0
  rw [Tryd.params8] at hA hval
  obtain ⟨v0, vs0, d0, ds0, p0, q0, hargs, rfl, rfl, h0, r0⟩ := trodAll_cons hA
  obtain ⟨v1, vs1, d1, ds1, p1, q1, rfl, rfl, rfl, h1, r1⟩ := trodAll_cons r0
  obtain ⟨v2, vs2, d2, ds2, p2, q2, rfl, rfl, rfl, h2, r2⟩ := trodAll_cons r1
  obtain ⟨rfl, rfl, rfl⟩ := trodAll_nil r2
  obtain rfl : args = #[v0, v1, v2] := by cases args; simp_all
  obtain ⟨rfl, rfl⟩ := trodVars_none hV
  obtain ⟨a0, rfl, rfl, rfl, w0⟩ := ChangeMaps.open_string Tryd.underlying9 (hval 0 9 v0 rfl rfl) h0
  obtain ⟨a1, rfl, rfl, rfl, w1⟩ := ChangeMaps.open_string Tryd.underlying9 (hval 1 9 v1 rfl rfl) h1
  obtain ⟨a2, rfl, rfl, rfl, w2⟩ := open_int Tryd.underlying42 (hval 2 42 v2 rfl rfl) h2
  clear hA0 hval0
  simp only [List.append_nil] at hW'
  refine (walk a0 w0 a1 w1 a2 w2 W).mono fun e W' ⟨he, hg⟩ => ?_
  subst he
  exact ⟨_, rfl, post_of_below (pa := []) (pv := []) hW' (fun _ _ _ => trodAll_cons_mk (shut_bool Tryd.underlying4 _) trodAll_mk0) (fun sp _ => (trodAll_cons_mk (ChangeMaps.shut_string Tryd.underlying9 w0) (trodAll_cons_mk (ChangeMaps.shut_string Tryd.underlying9 w1) (trodAll_cons_mk (shut_int Tryd.underlying42 w2) trodAll_mk0)))) (fun _ _ => rfl) rfl
    hg (ok_one (by kernel_rfl) rfl (okWide_bool_mk Tryd.underlying4 _))⟩

theorem over : Rows.GaloisTrimsSaid :=
  OpenClaim.holds_of_wide 8 Tryd.f8 rfl rfl rfl rfl rfl rfl rfl ⟨rfl, rfl, rfl, rfl, rfl⟩ rfl rfl rfl rfl rfl (by kernel_rfl) Tryd.func8 (by kernel_rfl)
    (of_decide_eq_true (by kernel_rfl)) (by unfold Func.isWrapper; first | (rw [if_pos (by decide +kernel)]; kernel_rfl) | (rw [if_neg (by decide +kernel)]; exact ⟨rfl, rfl⟩))
    (fun os started H enc _ => lifted os started H enc)

theorem proved : Rows.GaloisTrimsCardSaid :=
  Claim7.holds_tied_plain_at .later [] [.data, .pinned] true Rows.galoisTrimsCard.stood.harness false
    over (fun _ h => by cases h) (by kernel_rfl) (fun _ h => by cases h) galoisTrims_row_tie rfl ⟨rfl, rfl⟩ (by kernel_rfl) rfl
    (fun f fn hf hfn => by
      obtain rfl : f = 8 := Option.some.inj ((show Tryd.prog.funcNamed "perigee/perigeelaw04.GaloisTrims" = some 8 by kernel_rfl).symm.trans hf) |>.symm
      obtain rfl : fn = Tryd.f8 := (Option.some.inj (Tryd.func8.symm.trans hfn)).symm
      exact ⟨by kernel_rfl, fun j t ht => by
        have hall : (Tryd.f8.params.toList.all fun u => !Tryd.prog.wantsStandIn u) = true := by kernel_rfl
        have hm : t ∈ Tryd.f8.params.toList := by simpa using Array.mem_of_getElem? ht
        exact (show Tryd.prog.wantsStandIn t = false by simpa using List.all_eq_true.1 hall t hm)⟩)
    (by kernel_rfl)
#print axioms proved
end galoisTrims
end Go.Proofs.YtinjppijcmhhbaaDoor
