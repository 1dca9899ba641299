/- GaloisPolynomials: of all strings of at most 1100 bytes as polynomials, and bytes x, the products, quotients, degrees, sums, derivatives and values are those of the reference. No condition. -/
import Derived.Test.YtinjppijcmhhbaaDoorGalLaw
import Derived.Test.YtinjppijcmhhbaaDoorGalRQuot
namespace Go.Proofs.YtinjppijcmhhbaaDoor
open Go.ChangeShapes Go.WideShapes Go.ChangeAt Go.RowKit
set_option linter.unusedVariables false

namespace galoisPolynomials
set_option maxRecDepth 100000 in
set_option maxHeartbeats 1000000 in
theorem walk (p : ByteArray) (hp : p.size ≤ maxLen) (q : ByteArray) (hq : q.size ≤ maxLen) (x : Int) (hx : (Lit.int .u8 x).wf = true) (w : World) :
    Calls Tryd.prog 4 #[.string p, .string q, .int .u8 x] w fun e w' => e = .returned (.bool true) ∧ Below w.heap.size w w' := by
  obtain ⟨x, rfl⟩ := bounds8 hx
  unfold maxLen at hp hq
  have AW := Lib.hid (fun w => awake_any w)
  by_cases h1 : 1100 < p.size
  · go_enter Tryd.func4, Tryd.ntmps4
    go_wp2_with fail
    (with_reducible refine (AW.out _).mono ?_)
    rintro e w1 ⟨rfl, h1⟩
    go_wp2_with fail
    go_ret
    exact ⟨rfl, h1⟩
  by_cases h2 : 1100 < q.size
  · have h1' : decide ((1100 : Int) < (p.size : Int)) = false := by simp; omega
    go_enter Tryd.func4, Tryd.ntmps4
    go_wp2_with fail
    (with_reducible refine (AW.out _).mono ?_)
    rintro e w1 ⟨rfl, h1⟩
    go_wp2_with fail
    go_ret
    exact ⟨rfl, h1⟩
  have h1' : decide ((1100 : Int) < (p.size : Int)) = false := by simp; omega
  have h2' : decide ((1100 : Int) < (q.size : Int)) = false := by simp; omega
  have P1 := Lib.hid (fun w => prod_any p q (by omega) (by omega) w)
  have P2 := Lib.hid (fun w => rprod_any p q (by omega) (by omega) w)
  have Q1 := Lib.hid (fun w => quot_any p q (by omega) (by omega) w)
  have Q2 := Lib.hid (fun w => rquot_any p q (by omega) (by omega) w)
  have D1 := Lib.hid (fun w => degree_any p (by omega) w)
  have D2 := Lib.hid (fun w => rdegree_any p (by omega) w)
  have S1 := Lib.hid (fun w => sum_any p q (by omega) (by omega) w)
  have S2 := Lib.hid (fun w => rsum_any p q (by omega) (by omega) w)
  have E1 := Lib.hid (fun w => derived_any p (by omega) w)
  have E2 := Lib.hid (fun w => rderived_any p (by omega) w)
  have V1 := Lib.hid (fun w => eval_any p x (by omega) w)
  have V2 := Lib.hid (fun w => reval_any p x (by omega) w)
  obtain ⟨t, ht⟩ : ∃ s : ByteArray, (⟨(Gal.prodV p.data.toList q.data.toList).toArray⟩ : ByteArray) = s := ⟨_, rfl⟩
  obtain ⟨c, hc⟩ : ∃ s : ByteArray, (⟨(Gal.quotV p.data.toList q.data.toList).toArray⟩ : ByteArray) = s := ⟨_, rfl⟩
  obtain ⟨d, hd⟩ : ∃ s : ByteArray, (⟨(Gal.restV p.data.toList q.data.toList).toArray⟩ : ByteArray) = s := ⟨_, rfl⟩
  obtain ⟨s, hs⟩ : ∃ s : ByteArray, (⟨(Gal.sumV p.data.toList q.data.toList).toArray⟩ : ByteArray) = s := ⟨_, rfl⟩
  obtain ⟨v, hv⟩ : ∃ s : ByteArray, (⟨(Gal.derV p.data.toList).toArray⟩ : ByteArray) = s := ⟨_, rfl⟩
  obtain ⟨e1, he1⟩ : ∃ v, Gal.prodE p.data.toList q.data.toList = v := ⟨_, rfl⟩
  obtain ⟨e2, he2⟩ : ∃ v, Gal.quotE q.data.toList = v := ⟨_, rfl⟩
  obtain ⟨n, hn⟩ : ∃ v, Gal.nn p.data.toList = v := ⟨_, rfl⟩
  obtain ⟨y, hy⟩ : ∃ v, (Gal.evalV p.data.toList x).toNat = v := ⟨_, rfl⟩
  rw [ht, he1] at P1 P2
  rw [hc, hd, he2] at Q1 Q2
  rw [hn] at D1 D2
  rw [hs] at S1 S2
  rw [hv] at E1 E2
  rw [hy] at V1 V2
  obtain ⟨X, hX⟩ : ∃ v, x.toNat = v := ⟨_, rfl⟩
  rw [hX] at V1 V2 ⊢
  have t1 := beq_same t
  have t2 := beq_same c
  have t3 := beq_same d
  have t4 := beq_same s
  have t5 := beq_same v
  have u1 := bne_same t
  have u2 := bne_same c
  have u3 := bne_same d
  clear ht hc hd hs hv he1 he2 hn hy hX hp hq h1 h2 hx
  go_enter Tryd.func4, Tryd.ntmps4
  go_wp2_with fail
  (with_reducible refine (P1.out _).mono ?_)
  rintro e w1 ⟨rfl, h1⟩
  have H1 := Lib.hid (h1)
  clear h1
  go_wp2_with fail
  (with_reducible refine (P2.out _).mono ?_)
  rintro e w2 ⟨rfl, h2⟩
  have H2 := Lib.hid (bt H1.out h2)
  clear h2 H1
  go_wp2_with fail
  (with_reducible refine (Q1.out _).mono ?_)
  rintro e w3 ⟨rfl, h3⟩
  have H3 := Lib.hid (bt H2.out h3)
  clear h3 H2
  go_wp2_with fail
  (with_reducible refine (Q2.out _).mono ?_)
  rintro e w4 ⟨rfl, h4⟩
  have H4 := Lib.hid (bt H3.out h4)
  clear h4 H3
  go_wp2_with fail
  (with_reducible refine (D1.out _).mono ?_)
  rintro e w5 ⟨rfl, rfl⟩
  go_wp2_with fail
  (with_reducible refine (D2.out _).mono ?_)
  rintro e w6 ⟨rfl, rfl⟩
  go_wp2_with fail
  (with_reducible refine (S1.out _).mono ?_)
  rintro e w7 ⟨rfl, h7⟩
  have H7 := Lib.hid (bt H4.out h7)
  clear h7 H4
  go_wp2_with fail
  (with_reducible refine (S2.out _).mono ?_)
  rintro e w8 ⟨rfl, h8⟩
  have H8 := Lib.hid (bt H7.out h8)
  clear h8 H7
  go_wp2_with fail
  (with_reducible refine (E1.out _).mono ?_)
  rintro e w9 ⟨rfl, h9⟩
  have H9 := Lib.hid (bt H8.out h9)
  clear h9 H8
  go_wp2_with fail
  (with_reducible refine (E2.out _).mono ?_)
  rintro e w10 ⟨rfl, h10⟩
  have H10 := Lib.hid (bt H9.out h10)
  clear h10 H9
  go_wp2_with fail
  (with_reducible refine (V1.out _).mono ?_)
  rintro e w11 ⟨rfl, h11⟩
  have H11 := Lib.hid (bt H10.out h11)
  clear h11 H10
  go_wp2_with fail
  (with_reducible refine (V2.out _).mono ?_)
  rintro e w12 ⟨rfl, rfl⟩
  go_wp2_with fail
  (with_reducible refine (AW.out _).mono ?_)
  rintro e w13 ⟨rfl, h13⟩
  have H13 := Lib.hid (bt H11.out h13)
  clear h13 H11
  go_wp2_with fail
  go_ret
  exact ⟨rfl, H13.out⟩

set_option maxRecDepth 100000 in
theorem lifted (os : Os) (started : os.Started) (H : Type) (enc : TypeId × Value → H) :
    ReturnsInHanded {} Tryd.checked os 4 .any (fun w args => (Rows.galoisPolynomialsSpec.pre enc Tryd.prog Tryd.f4 [] false w args ∧ laidMetH Tryd.prog laidL w) ∧ sizedMet enc Tryd.prog Tryd.f4 (OpenSpec.ofChange Rows.galoisPolynomialsSpec) false w args)
      (Rows.galoisPolynomialsSpec.post enc Tryd.prog Tryd.f4 false true false false) := by
  refine returnsInHanded_of_change_and (C := Tryd.checked) (X := fun w _ => laidMetH Tryd.prog laidL w) (fun _ _ _ hh h => h.of_heap hh) own started (by kernel_rfl) Tryd.func4
    (ChangeSpec.witness_shaped (enc := enc) (C := Tryd.checked) (os := os) (X := fun w _ => laidMetH Tryd.prog laidL w) false (World.laidAll Tryd.prog os laidL) #[.string { data := #[] }, .string { data := #[] }, .int .u8 0] 8 (World.laidAll_os _ _ _)
      (World.shaped_of_ZipB (by kernel_rfl) (by kernel_rfl)) (by kernel_rfl) (by kernel_rfl) (by kernel_rfl) (laid_met os _)) ?_
  intro W base args ds gs before hval0 hW _ _ _ _
  have hval : ∀ (j : Nat) t v, Tryd.f4.params[j]? = some t → args[j]? = some v → Value.okWide Tryd.prog W .any base t v := hval0
  have hW' := hW
  obtain ⟨p, q, hA0, hV, rfl, hfz, hnd⟩ := hW
  have hA : DataW.TrodAll enc Tryd.prog W 0 (fun _ => true) true Tryd.f4.params.toList args.toList ds p := hA0
  rw [Tryd.params4] at hA hval
  obtain ⟨v0, vs0, d0, ds0, p0, q0, hargs, rfl, rfl, h0, r0⟩ := trodAll_cons hA
  obtain ⟨v1, vs1, d1, ds1, p1, q1, rfl, rfl, rfl, h1, r1⟩ := trodAll_cons r0
  obtain ⟨v2, vs2, d2, ds2, p2, q2, rfl, rfl, rfl, h2, r2⟩ := trodAll_cons r1
  obtain ⟨rfl, rfl, rfl⟩ := trodAll_nil r2
  obtain rfl : args = #[v0, v1, v2] := by cases args; simp_all
  obtain ⟨rfl, rfl⟩ := trodVars_none hV
  obtain ⟨a0, rfl, rfl, rfl, w0⟩ := ChangeMaps.open_string Tryd.underlying9 (hval 0 9 v0 rfl rfl) h0
  obtain ⟨a1, rfl, rfl, rfl, w1⟩ := ChangeMaps.open_string Tryd.underlying9 (hval 1 9 v1 rfl rfl) h1
  obtain ⟨a2, rfl, rfl, rfl, w2⟩ := open_int Tryd.underlying5 (hval 2 5 v2 rfl rfl) h2
  clear hA0 hval0
  simp only [List.append_nil] at hW'
  refine (walk a0 w0 a1 w1 a2 w2 W).mono fun e W' ⟨he, hg⟩ => ?_
  subst he
  exact ⟨_, rfl, post_of_below (pa := []) (pv := []) hW' (fun _ _ _ => trodAll_cons_mk (shut_bool Tryd.underlying4 _) trodAll_mk0) (fun sp _ => (trodAll_cons_mk (ChangeMaps.shut_string Tryd.underlying9 w0) (trodAll_cons_mk (ChangeMaps.shut_string Tryd.underlying9 w1) (trodAll_cons_mk (shut_int Tryd.underlying5 w2) trodAll_mk0)))) (fun _ _ => rfl) rfl
    hg (ok_one (by kernel_rfl) rfl (okWide_bool_mk Tryd.underlying4 _))⟩

theorem over : Rows.GaloisPolynomialsSaid :=
  OpenClaim.holds_of_wide 4 Tryd.f4 rfl rfl rfl rfl rfl rfl rfl ⟨rfl, rfl, rfl, rfl, rfl⟩ rfl rfl rfl rfl rfl (by kernel_rfl) Tryd.func4 (by kernel_rfl)
    (of_decide_eq_true (by kernel_rfl)) (by unfold Func.isWrapper; first | (rw [if_pos (by decide +kernel)]; kernel_rfl) | (rw [if_neg (by decide +kernel)]; exact ⟨rfl, rfl⟩))
    (fun os started H enc _ => lifted os started H enc)

theorem proved : Rows.GaloisPolynomialsCardSaid :=
  Claim7.holds_tied_plain_at .later [] [.data, .pinned] true Rows.galoisPolynomialsCard.stood.harness false
    over (fun _ h => by cases h) (by kernel_rfl) (fun _ h => by cases h) galoisPolynomials_row_tie rfl ⟨rfl, rfl⟩ (by kernel_rfl) rfl
    (fun f fn hf hfn => by
      obtain rfl : f = 4 := Option.some.inj ((show Tryd.prog.funcNamed "perigee/perigeelaw04.GaloisPolynomials" = some 4 by kernel_rfl).symm.trans hf) |>.symm
      obtain rfl : fn = Tryd.f4 := (Option.some.inj (Tryd.func4.symm.trans hfn)).symm
      exact ⟨by kernel_rfl, fun j t ht => by
        have hall : (Tryd.f4.params.toList.all fun u => !Tryd.prog.wantsStandIn u) = true := by kernel_rfl
        have hm : t ∈ Tryd.f4.params.toList := by simpa using Array.mem_of_getElem? ht
        exact (show Tryd.prog.wantsStandIn t = false by simpa using List.all_eq_true.1 hall t hm)⟩)
    (by kernel_rfl)
#print axioms proved
end galoisPolynomials
end Go.Proofs.YtinjppijcmhhbaaDoor
