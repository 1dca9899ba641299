/- GaloisDivides: of all strings of at most 400 bytes as polynomials p, q, and bytes x: p is the rest and the quotient times q, the rest has a lower degree; values of sums and products; the derivative of a product. No condition. -/
import Derived.Test.YtinjppijcmhhbaaDoorGalLaw
namespace Go.Proofs.YtinjppijcmhhbaaDoor
open Go.ChangeShapes Go.WideShapes Go.ChangeAt Go.RowKit
set_option linter.unusedVariables false

namespace galoisDivides
theorem sz (l : List UInt8) : (⟨l.toArray⟩ : ByteArray).size = l.length := by
  show l.toArray.size = _
  rw [List.size_toArray]
theorem noE {p q : List UInt8} (h : Gal.nn p + Gal.nn q ≤ 1024) : Gal.prodE p q = 0 := by
  unfold Gal.prodE
  rw [if_neg (by omega)]
theorem yesV {p q : List UInt8} (h : Gal.nn p + Gal.nn q ≤ 1024) : Gal.prodV p q = Gal.pol (Gal.prd p q) (p.length + q.length) := by
  unfold Gal.prodV
  rw [if_neg (by omega)]
theorem nn_any (l : List UInt8) (n : Nat) (h : l.length ≤ n) : Gal.nn l ≤ n := Nat.le_trans (Gal.nn_le l) h
set_option maxRecDepth 100000 in
set_option maxHeartbeats 1000000 in
theorem walk (p : ByteArray) (hp : p.size ≤ maxLen) (q : ByteArray) (hq : q.size ≤ maxLen) (x : Int) (hx : (Lit.int .u8 x).wf = true) (w : World) :
    Calls Tryd.prog 7 #[.string p, .string q, .int .u8 x] w fun e w' => e = .returned (.bool true) ∧ Below w.heap.size w w' := by
  obtain ⟨x, rfl⟩ := bounds8 hx
  unfold maxLen at hp hq
  have AW := Lib.hid (fun w => awake_any w)
  by_cases h1 : 400 < p.size
  · go_enter Tryd.func7, Tryd.ntmps7
    go_wp2_with fail
    (with_reducible refine (AW.out _).mono ?_)
    rintro e w1 ⟨rfl, h1⟩
    go_wp2_with fail
    go_ret
    exact ⟨rfl, h1⟩
  by_cases h2 : 400 < q.size
  · have h1' : decide ((400 : Int) < (p.size : Int)) = false := by simp; omega
    go_enter Tryd.func7, Tryd.ntmps7
    go_wp2_with fail
    (with_reducible refine (AW.out _).mono ?_)
    rintro e w1 ⟨rfl, h1⟩
    go_wp2_with fail
    go_ret
    exact ⟨rfl, h1⟩
  have h1' : decide ((400 : Int) < (p.size : Int)) = false := by simp; omega
  have h2' : decide ((400 : Int) < (q.size : Int)) = false := by simp; omega
  have lp : p.data.toList.length = p.size := ls p
  have lq : q.data.toList.length = q.size := ls q
  have np : Gal.nn p.data.toList ≤ 400 := nn_any _ _ (by omega)
  have nq : Gal.nn q.data.toList ≤ 400 := nn_any _ _ (by omega)
  have SU := Lib.hid (fun w => sum_any p q (by omega) (by omega) w)
  have PR := Lib.hid (fun w => prod_any p q (by omega) (by omega) w)
  rw [noE (by omega)] at PR
  have yt := yesV (p := p.data.toList) (q := q.data.toList) (by omega)
  have lsum : (Gal.sumV p.data.toList q.data.toList).length ≤ 400 := Nat.le_trans (Gal.pol_length_le _ _) (by omega)
  have lprod : (Gal.prodV p.data.toList q.data.toList).length ≤ 800 := by rw [yt]; exact Nat.le_trans (Gal.pol_length_le _ _) (by omega)
  have ldp : (Gal.derV p.data.toList).length ≤ 400 := Nat.le_trans (Gal.pol_length_le _ _) (by omega)
  have ldq : (Gal.derV q.data.toList).length ≤ 400 := Nat.le_trans (Gal.pol_length_le _ _) (by omega)
  have ndp := nn_any _ _ ldp
  have ndq := nn_any _ _ ldq
  have yu := yesV (p := Gal.derV p.data.toList) (q := q.data.toList) (by omega)
  have yv := yesV (p := p.data.toList) (q := Gal.derV q.data.toList) (by omega)
  have lu : (Gal.prodV (Gal.derV p.data.toList) q.data.toList).length ≤ 800 := by rw [yu]; exact Nat.le_trans (Gal.pol_length_le _ _) (by omega)
  have lv : (Gal.prodV p.data.toList (Gal.derV q.data.toList)).length ≤ 800 := by rw [yv]; exact Nat.le_trans (Gal.pol_length_le _ _) (by omega)
  have E1 := Lib.hid (fun w => eval_any (⟨(Gal.sumV p.data.toList q.data.toList).toArray⟩ : ByteArray) x (by rw [sz]; omega) w)
  rw [show (⟨(Gal.sumV p.data.toList q.data.toList).toArray⟩ : ByteArray).data.toList = Gal.sumV p.data.toList q.data.toList from rfl, Gal.eval_sum] at E1
  have E2 := Lib.hid (fun w => eval_any p x (by omega) w)
  have E3 := Lib.hid (fun w => eval_any q x (by omega) w)
  have E4 := Lib.hid (fun w => eval_any (⟨(Gal.prodV p.data.toList q.data.toList).toArray⟩ : ByteArray) x (by rw [sz]; omega) w)
  have ev : Gal.evalV (Gal.prodV p.data.toList q.data.toList) x = Gal.mul (Gal.evalV p.data.toList x) (Gal.evalV q.data.toList x) := by rw [yt, Gal.eval_prod]
  rw [show (⟨(Gal.prodV p.data.toList q.data.toList).toArray⟩ : ByteArray).data.toList = Gal.prodV p.data.toList q.data.toList from rfl, ev] at E4
  have M := Lib.hid (fun w => mul_any (Gal.evalV p.data.toList x) (Gal.evalV q.data.toList x) w)
  have x1 := xor8 (Gal.evalV p.data.toList x) (Gal.evalV q.data.toList x)
  have DP := Lib.hid (fun w => derived_any p (by omega) w)
  have DQ := Lib.hid (fun w => derived_any q (by omega) w)
  have PU := Lib.hid (fun w => prod_any (⟨(Gal.derV p.data.toList).toArray⟩ : ByteArray) q (by rw [sz]; omega) (by omega) w)
  rw [show (⟨(Gal.derV p.data.toList).toArray⟩ : ByteArray).data.toList = Gal.derV p.data.toList from rfl, noE (by omega)] at PU
  have PV := Lib.hid (fun w => prod_any p (⟨(Gal.derV q.data.toList).toArray⟩ : ByteArray) (by omega) (by rw [sz]; omega) w)
  rw [show (⟨(Gal.derV q.data.toList).toArray⟩ : ByteArray).data.toList = Gal.derV q.data.toList from rfl, noE (by omega)] at PV
  have DT := Lib.hid (fun w => derived_any (⟨(Gal.prodV p.data.toList q.data.toList).toArray⟩ : ByteArray) (by rw [sz]; omega) w)
  have dt : Gal.derV (Gal.prodV p.data.toList q.data.toList) = Gal.sumV (Gal.prodV (Gal.derV p.data.toList) q.data.toList) (Gal.prodV p.data.toList (Gal.derV q.data.toList)) := by rw [yt, yu, yv, Gal.der_prod]
  rw [show (⟨(Gal.prodV p.data.toList q.data.toList).toArray⟩ : ByteArray).data.toList = Gal.prodV p.data.toList q.data.toList from rfl, dt] at DT
  have SV := Lib.hid (fun w => sum_any (⟨(Gal.prodV (Gal.derV p.data.toList) q.data.toList).toArray⟩ : ByteArray) (⟨(Gal.prodV p.data.toList (Gal.derV q.data.toList)).toArray⟩ : ByteArray) (by rw [sz]; omega) (by rw [sz]; omega) w)
  rw [show (⟨(Gal.prodV (Gal.derV p.data.toList) q.data.toList).toArray⟩ : ByteArray).data.toList = Gal.prodV (Gal.derV p.data.toList) q.data.toList from rfl, show (⟨(Gal.prodV p.data.toList (Gal.derV q.data.toList)).toArray⟩ : ByteArray).data.toList = Gal.prodV p.data.toList (Gal.derV q.data.toList) from rfl] at SV
  have QT := Lib.hid (fun w => quot_any p q (by omega) (by omega) w)
  have GQ := Lib.hid (fun w => degree_any q (by omega) w)
  have lc := Gal.quot_length p.data.toList q.data.toList
  have ld := Gal.rest_length p.data.toList q.data.toList
  have nc := nn_any _ _ lc
  have PC := Lib.hid (fun w => prod_any (⟨(Gal.quotV p.data.toList q.data.toList).toArray⟩ : ByteArray) q (by rw [sz]; omega) (by omega) w)
  rw [show (⟨(Gal.quotV p.data.toList q.data.toList).toArray⟩ : ByteArray).data.toList = Gal.quotV p.data.toList q.data.toList from rfl, noE (by omega)] at PC
  have yc := yesV (p := Gal.quotV p.data.toList q.data.toList) (q := q.data.toList) (by omega)
  have lw : (Gal.prodV (Gal.quotV p.data.toList q.data.toList) q.data.toList).length ≤ 800 := by rw [yc]; exact Nat.le_trans (Gal.pol_length_le _ _) (by omega)
  have SW := Lib.hid (fun w => sum_any (⟨(Gal.prodV (Gal.quotV p.data.toList q.data.toList) q.data.toList).toArray⟩ : ByteArray) (⟨(Gal.restV p.data.toList q.data.toList).toArray⟩ : ByteArray) (by rw [sz]; omega) (by rw [sz]; omega) w)
  rw [show (⟨(Gal.prodV (Gal.quotV p.data.toList q.data.toList) q.data.toList).toArray⟩ : ByteArray).data.toList = Gal.prodV (Gal.quotV p.data.toList q.data.toList) q.data.toList from rfl, show (⟨(Gal.restV p.data.toList q.data.toList).toArray⟩ : ByteArray).data.toList = Gal.restV p.data.toList q.data.toList from rfl] at SW
  have SP := Lib.hid (fun w => sum_any p { data := #[] } (by omega) (by decide) w)
  rw [show (ByteArray.mk #[]).data.toList = [] from rfl, Gal.sum_nil] at SP
  have GD := Lib.hid (fun w => degree_any (⟨(Gal.restV p.data.toList q.data.toList).toArray⟩ : ByteArray) (by rw [sz]; omega) w)
  rw [show (⟨(Gal.restV p.data.toList q.data.toList).toArray⟩ : ByteArray).data.toList = Gal.restV p.data.toList q.data.toList from rfl] at GD
  have QS := Gal.quot_sum p.data.toList q.data.toList
  rw [← yc] at QS
  have RL := Gal.rest_less p.data.toList q.data.toList
  have nr := nn_any _ _ ld
  clear yt yu yv yc ev dt lsum lprod ldp ldq lu lv lw lc ld ndp ndq nc
  obtain ⟨s, hs⟩ : ∃ s : ByteArray, (⟨(Gal.sumV p.data.toList q.data.toList).toArray⟩ : ByteArray) = s := ⟨_, rfl⟩
  obtain ⟨t, ht⟩ : ∃ s : ByteArray, (⟨(Gal.prodV p.data.toList q.data.toList).toArray⟩ : ByteArray) = s := ⟨_, rfl⟩
  obtain ⟨dp, hdp⟩ : ∃ s : ByteArray, (⟨(Gal.derV p.data.toList).toArray⟩ : ByteArray) = s := ⟨_, rfl⟩
  obtain ⟨dq, hdq⟩ : ∃ s : ByteArray, (⟨(Gal.derV q.data.toList).toArray⟩ : ByteArray) = s := ⟨_, rfl⟩
  obtain ⟨r, hr⟩ : ∃ s : ByteArray, (⟨(Gal.sumV (Gal.prodV (Gal.derV p.data.toList) q.data.toList) (Gal.prodV p.data.toList (Gal.derV q.data.toList))).toArray⟩ : ByteArray) = s := ⟨_, rfl⟩
  rw [hr] at DT SV
  obtain ⟨u, hu⟩ : ∃ s : ByteArray, (⟨(Gal.prodV (Gal.derV p.data.toList) q.data.toList).toArray⟩ : ByteArray) = s := ⟨_, rfl⟩
  obtain ⟨v, hv⟩ : ∃ s : ByteArray, (⟨(Gal.prodV p.data.toList (Gal.derV q.data.toList)).toArray⟩ : ByteArray) = s := ⟨_, rfl⟩
  rw [hs] at SU E1
  rw [ht] at PR E4 DT
  rw [hdp] at DP PU
  rw [hdq] at DQ PV
  rw [hu] at PU SV
  rw [hv] at PV SV
  obtain ⟨v1, hv1⟩ : ∃ v, (Gal.evalV p.data.toList x).toNat = v := ⟨_, rfl⟩
  obtain ⟨v2, hv2⟩ : ∃ v, (Gal.evalV q.data.toList x).toNat = v := ⟨_, rfl⟩
  obtain ⟨v3, hv3⟩ : ∃ v, (Gal.evalV p.data.toList x ^^^ Gal.evalV q.data.toList x).toNat = v := ⟨_, rfl⟩
  obtain ⟨v4, hv4⟩ : ∃ v, (Gal.mul (Gal.evalV p.data.toList x) (Gal.evalV q.data.toList x)).toNat = v := ⟨_, rfl⟩
  rw [hv3] at E1 x1
  rw [hv1] at E2 M x1
  rw [hv2] at E3 M x1
  rw [hv4] at E4 M
  obtain ⟨X, hX⟩ : ∃ v, x.toNat = v := ⟨_, rfl⟩
  rw [hX] at E1 E2 E3 E4 ⊢
  have r1 := beq_same r
  have r2 := bne_same r
  clear hs ht hdp hdq hr hu hv hv1 hv2 hv3 hv4 hX lp lq hx hp hq h1 h2
  by_cases h : Gal.nn q.data.toList = 0
  · rw [show Gal.quotE q.data.toList = 2 from if_pos h] at QT
    rw [h] at GQ
    rw [show ((0 : Nat) : Int) - 1 = -1 from rfl] at GQ
    obtain ⟨c, hc⟩ : ∃ s : ByteArray, (⟨(Gal.quotV p.data.toList q.data.toList).toArray⟩ : ByteArray) = s := ⟨_, rfl⟩
    obtain ⟨d, hd⟩ : ∃ s : ByteArray, (⟨(Gal.restV p.data.toList q.data.toList).toArray⟩ : ByteArray) = s := ⟨_, rfl⟩
    rw [hc, hd] at QT
    clear hc hd h PC SW SP GD QS RL np nq nr
    go_enter Tryd.func7, Tryd.ntmps7
    go_wp2_with fail
    (with_reducible refine (SU.out _).mono ?_)
    rintro e w1 ⟨rfl, h1⟩
    have H1 := Lib.hid (h1)
    clear h1
    go_wp2_with fail
    (with_reducible refine (PR.out _).mono ?_)
    rintro e w2 ⟨rfl, h2⟩
    have H2 := Lib.hid (bt H1.out h2)
    clear h2 H1
    go_wp2_with fail
    (with_reducible refine (E1.out _).mono ?_)
    rintro e w3 ⟨rfl, h3⟩
    have H3 := Lib.hid (bt H2.out h3)
    clear h3 H2
    go_wp2_with fail
    (with_reducible refine (E2.out _).mono ?_)
    rintro e w4 ⟨rfl, h4⟩
    have H4 := Lib.hid (bt H3.out h4)
    clear h4 H3
    go_wp2_with fail
    (with_reducible refine (E3.out _).mono ?_)
    rintro e w5 ⟨rfl, h5⟩
    have H5 := Lib.hid (bt H4.out h5)
    clear h5 H4
    go_wp2_with fail
    (with_reducible refine (E4.out _).mono ?_)
    rintro e w6 ⟨rfl, h6⟩
    have H6 := Lib.hid (bt H5.out h6)
    clear h6 H5
    go_wp2_with fail
    (with_reducible refine (E2.out _).mono ?_)
    rintro e w7 ⟨rfl, h7⟩
    have H7 := Lib.hid (bt H6.out h7)
    clear h7 H6
    go_wp2_with fail
    (with_reducible refine (E3.out _).mono ?_)
    rintro e w8 ⟨rfl, h8⟩
    have H8 := Lib.hid (bt H7.out h8)
    clear h8 H7
    go_wp2_with fail
    (with_reducible refine (M.out _).mono ?_)
    rintro e w9 ⟨rfl, h9⟩
    have H9 := Lib.hid (bt H8.out h9)
    clear h9 H8
    go_wp2_with fail
    (with_reducible refine (DP.out _).mono ?_)
    rintro e w10 ⟨rfl, h10⟩
    have H10 := Lib.hid (bt H9.out h10)
    clear h10 H9
    go_wp2_with fail
    (with_reducible refine (PU.out _).mono ?_)
    rintro e w11 ⟨rfl, h11⟩
    have H11 := Lib.hid (bt H10.out h11)
    clear h11 H10
    go_wp2_with fail
    (with_reducible refine (DQ.out _).mono ?_)
    rintro e w12 ⟨rfl, h12⟩
    have H12 := Lib.hid (bt H11.out h12)
    clear h12 H11
    go_wp2_with fail
    (with_reducible refine (PV.out _).mono ?_)
    rintro e w13 ⟨rfl, h13⟩
    have H13 := Lib.hid (bt H12.out h13)
    clear h13 H12
    go_wp2_with fail
    (with_reducible refine (DT.out _).mono ?_)
    rintro e w14 ⟨rfl, h14⟩
    have H14 := Lib.hid (bt H13.out h14)
    clear h14 H13
    go_wp2_with fail
    (with_reducible refine (SV.out _).mono ?_)
    rintro e w15 ⟨rfl, h15⟩
    have H15 := Lib.hid (bt H14.out h15)
    clear h15 H14
    go_wp2_with fail
    (with_reducible refine (QT.out _).mono ?_)
    rintro e w16 ⟨rfl, h16⟩
    have H16 := Lib.hid (bt H15.out h16)
    clear h16 H15
    go_wp2_with fail
    (with_reducible refine (GQ.out _).mono ?_)
    rintro e w17 ⟨rfl, rfl⟩
    go_wp2_with fail
    (with_reducible refine (AW.out _).mono ?_)
    rintro e w18 ⟨rfl, h18⟩
    have H18 := Lib.hid (bt H16.out h18)
    clear h18 H16
    go_wp2_with fail
    go_ret
    exact ⟨rfl, H18.out⟩
  · rw [show Gal.quotE q.data.toList = 0 from if_neg h] at QT
    rw [QS h] at SW
    have rl := RL h
    obtain ⟨c, hc⟩ : ∃ s : ByteArray, (⟨(Gal.quotV p.data.toList q.data.toList).toArray⟩ : ByteArray) = s := ⟨_, rfl⟩
    obtain ⟨d, hd⟩ : ∃ s : ByteArray, (⟨(Gal.restV p.data.toList q.data.toList).toArray⟩ : ByteArray) = s := ⟨_, rfl⟩
    obtain ⟨wc, hwc⟩ : ∃ s : ByteArray, (⟨(Gal.prodV (Gal.quotV p.data.toList q.data.toList) q.data.toList).toArray⟩ : ByteArray) = s := ⟨_, rfl⟩
    obtain ⟨tp, htp⟩ : ∃ s : ByteArray, (⟨(Gal.trim p.data.toList).toArray⟩ : ByteArray) = s := ⟨_, rfl⟩
    rw [htp] at SW SP
    rw [hwc] at PC SW
    rw [hc] at QT PC
    rw [hd] at QT SW GD
    have r3 := beq_same tp
    obtain ⟨a, ha⟩ : ∃ a, Gal.nn q.data.toList = a := ⟨_, rfl⟩
    obtain ⟨b, hb⟩ : ∃ a, Gal.nn (Gal.restV p.data.toList q.data.toList) = a := ⟨_, rfl⟩
    rw [ha] at GQ rl h nq
    rw [hb] at GD rl nr
    have d1 : decide ((a : Int) - 1 < 0) = false := by simp; omega
    have d2 : decide ((b : Int) - 1 < (a : Int) - 1) = true := by simp; omega
    have d3 : (b : Int) < (a : Int) := by omega
    have d4 : ¬ (a : Int) - 1 < 0 := by omega
    have d5 : 1 ≤ a := by omega
    clear hc hd hwc htp ha hb h QS RL np nq nr rl
    go_enter Tryd.func7, Tryd.ntmps7
    go_wp2_with fail
    (with_reducible refine (SU.out _).mono ?_)
    rintro e w1 ⟨rfl, h1⟩
    have H1 := Lib.hid (h1)
    clear h1
    go_wp2_with fail
    (with_reducible refine (PR.out _).mono ?_)
    rintro e w2 ⟨rfl, h2⟩
    have H2 := Lib.hid (bt H1.out h2)
    clear h2 H1
    go_wp2_with fail
    (with_reducible refine (E1.out _).mono ?_)
    rintro e w3 ⟨rfl, h3⟩
    have H3 := Lib.hid (bt H2.out h3)
    clear h3 H2
    go_wp2_with fail
    (with_reducible refine (E2.out _).mono ?_)
    rintro e w4 ⟨rfl, h4⟩
    have H4 := Lib.hid (bt H3.out h4)
    clear h4 H3
    go_wp2_with fail
    (with_reducible refine (E3.out _).mono ?_)
    rintro e w5 ⟨rfl, h5⟩
    have H5 := Lib.hid (bt H4.out h5)
    clear h5 H4
    go_wp2_with fail
    (with_reducible refine (E4.out _).mono ?_)
    rintro e w6 ⟨rfl, h6⟩
    have H6 := Lib.hid (bt H5.out h6)
    clear h6 H5
    go_wp2_with fail
    (with_reducible refine (E2.out _).mono ?_)
    rintro e w7 ⟨rfl, h7⟩
    have H7 := Lib.hid (bt H6.out h7)
    clear h7 H6
    go_wp2_with fail
    (with_reducible refine (E3.out _).mono ?_)
    rintro e w8 ⟨rfl, h8⟩
    have H8 := Lib.hid (bt H7.out h8)
    clear h8 H7
    go_wp2_with fail
    (with_reducible refine (M.out _).mono ?_)
    rintro e w9 ⟨rfl, h9⟩
    have H9 := Lib.hid (bt H8.out h9)
    clear h9 H8
    go_wp2_with fail
    (with_reducible refine (DP.out _).mono ?_)
    rintro e w10 ⟨rfl, h10⟩
    have H10 := Lib.hid (bt H9.out h10)
    clear h10 H9
    go_wp2_with fail
    (with_reducible refine (PU.out _).mono ?_)
    rintro e w11 ⟨rfl, h11⟩
    have H11 := Lib.hid (bt H10.out h11)
    clear h11 H10
    go_wp2_with fail
    (with_reducible refine (DQ.out _).mono ?_)
    rintro e w12 ⟨rfl, h12⟩
    have H12 := Lib.hid (bt H11.out h12)
    clear h12 H11
    go_wp2_with fail
    (with_reducible refine (PV.out _).mono ?_)
    rintro e w13 ⟨rfl, h13⟩
    have H13 := Lib.hid (bt H12.out h13)
    clear h13 H12
    go_wp2_with fail
    (with_reducible refine (DT.out _).mono ?_)
    rintro e w14 ⟨rfl, h14⟩
    have H14 := Lib.hid (bt H13.out h14)
    clear h14 H13
    go_wp2_with fail
    (with_reducible refine (SV.out _).mono ?_)
    rintro e w15 ⟨rfl, h15⟩
    have H15 := Lib.hid (bt H14.out h15)
    clear h15 H14
    go_wp2_with fail
    (with_reducible refine (QT.out _).mono ?_)
    rintro e w16 ⟨rfl, h16⟩
    have H16 := Lib.hid (bt H15.out h16)
    clear h16 H15
    go_wp2_with fail
    (with_reducible refine (GQ.out _).mono ?_)
    rintro e w17 ⟨rfl, rfl⟩
    go_wp2_with fail
    (with_reducible refine (PC.out _).mono ?_)
    rintro e w18 ⟨rfl, h18⟩
    have H18 := Lib.hid (bt H16.out h18)
    clear h18 H16
    go_wp2_with fail
    (with_reducible refine (SW.out _).mono ?_)
    rintro e w19 ⟨rfl, h19⟩
    have H19 := Lib.hid (bt H18.out h19)
    clear h19 H18
    go_wp2_with fail
    (with_reducible refine (SP.out _).mono ?_)
    rintro e w20 ⟨rfl, h20⟩
    have H20 := Lib.hid (bt H19.out h20)
    clear h20 H19
    go_wp2_with fail
    (with_reducible refine (GD.out _).mono ?_)
    rintro e w21 ⟨rfl, rfl⟩
    go_wp2_with fail
    (with_reducible refine (GQ.out _).mono ?_)
    rintro e w22 ⟨rfl, rfl⟩
    go_wp2_with fail
    (with_reducible refine (AW.out _).mono ?_)
    rintro e w23 ⟨rfl, h23⟩
    have H23 := Lib.hid (bt H20.out h23)
    clear h23 H20
    go_wp2_with fail
    go_ret
    exact ⟨rfl, H23.out⟩

set_option maxRecDepth 100000 in
theorem lifted (os : Os) (started : os.Started) (H : Type) (enc : TypeId × Value → H) :
    ReturnsInHanded {} Tryd.checked os 7 .any (fun w args => (Rows.galoisDividesSpec.pre enc Tryd.prog Tryd.f7 [] false w args ∧ laidMetH Tryd.prog laidL w) ∧ sizedMet enc Tryd.prog Tryd.f7 (OpenSpec.ofChange Rows.galoisDividesSpec) false w args)
      (Rows.galoisDividesSpec.post enc Tryd.prog Tryd.f7 false true false false) := by
  refine returnsInHanded_of_change_and (C := Tryd.checked) (X := fun w _ => laidMetH Tryd.prog laidL w) (fun _ _ _ hh h => h.of_heap hh) own started (by kernel_rfl) Tryd.func7
    (ChangeSpec.witness_shaped (enc := enc) (C := Tryd.checked) (os := os) (X := fun w _ => laidMetH Tryd.prog laidL w) false (World.laidAll Tryd.prog os laidL) #[.string { data := #[] }, .string { data := #[] }, .int .u8 0] 8 (World.laidAll_os _ _ _)
      (World.shaped_of_ZipB (by kernel_rfl) (by kernel_rfl)) (by kernel_rfl) (by kernel_rfl) (by kernel_rfl) (laid_met os _)) ?_
  intro W base args ds gs before hval0 hW _ _ _ _
  have hval : ∀ (j : Nat) t v, Tryd.f7.params[j]? = some t → args[j]? = some v → Value.okWide Tryd.prog W .any base t v := hval0
  have hW' := hW
  obtain ⟨p, q, hA0, hV, rfl, hfz, hnd⟩ := hW
  have hA : DataW.TrodAll enc Tryd.prog W 0 (fun _ => true) true Tryd.f7.params.toList args.toList ds p := hA0
  rw [Tryd.params7] at hA hval
  obtain ⟨v0, vs0, d0, ds0, p0, q0, hargs, rfl, rfl, h0, r0⟩ := trodAll_cons hA
  obtain ⟨v1, vs1, d1, ds1, p1, q1, rfl, rfl, rfl, h1, r1⟩ := trodAll_cons r0
  obtain ⟨v2, vs2, d2, ds2, p2, q2, rfl, rfl, rfl, h2, r2⟩ := trodAll_cons r1
  obtain ⟨rfl, rfl, rfl⟩ := trodAll_nil r2
  obtain rfl : args = #[v0, v1, v2] := by cases args; simp_all
  obtain ⟨rfl, rfl⟩ := trodVars_none hV
  obtain ⟨a0, rfl, rfl, rfl, w0⟩ := ChangeMaps.open_string Tryd.underlying9 (hval 0 9 v0 rfl rfl) h0
  obtain ⟨a1, rfl, rfl, rfl, w1⟩ := ChangeMaps.open_string Tryd.underlying9 (hval 1 9 v1 rfl rfl) h1
  obtain ⟨a2, rfl, rfl, rfl, w2⟩ := open_int Tryd.underlying5 (hval 2 5 v2 rfl rfl) h2
  clear hA0 hval0
  simp only [List.append_nil] at hW'
  refine (walk a0 w0 a1 w1 a2 w2 W).mono fun e W' ⟨he, hg⟩ => ?_
  subst he
  exact ⟨_, rfl, post_of_below (pa := []) (pv := []) hW' (fun _ _ _ => trodAll_cons_mk (shut_bool Tryd.underlying4 _) trodAll_mk0) (fun sp _ => (trodAll_cons_mk (ChangeMaps.shut_string Tryd.underlying9 w0) (trodAll_cons_mk (ChangeMaps.shut_string Tryd.underlying9 w1) (trodAll_cons_mk (shut_int Tryd.underlying5 w2) trodAll_mk0)))) (fun _ _ => rfl) rfl
    hg (ok_one (by kernel_rfl) rfl (okWide_bool_mk Tryd.underlying4 _))⟩

theorem over : Rows.GaloisDividesSaid :=
  OpenClaim.holds_of_wide 7 Tryd.f7 rfl rfl rfl rfl rfl rfl rfl ⟨rfl, rfl, rfl, rfl, rfl⟩ rfl rfl rfl rfl rfl (by kernel_rfl) Tryd.func7 (by kernel_rfl)
    (of_decide_eq_true (by kernel_rfl)) (by unfold Func.isWrapper; first | (rw [if_pos (by decide +kernel)]; kernel_rfl) | (rw [if_neg (by decide +kernel)]; exact ⟨rfl, rfl⟩))
    (fun os started H enc _ => lifted os started H enc)

theorem proved : Rows.GaloisDividesCardSaid :=
  Claim7.holds_tied_plain_at .later [] [.data, .pinned] true Rows.galoisDividesCard.stood.harness false
    over (fun _ h => by cases h) (by kernel_rfl) (fun _ h => by cases h) galoisDivides_row_tie rfl ⟨rfl, rfl⟩ (by kernel_rfl) rfl
    (fun f fn hf hfn => by
      obtain rfl : f = 7 := Option.some.inj ((show Tryd.prog.funcNamed "perigee/perigeelaw04.GaloisDivides" = some 7 by kernel_rfl).symm.trans hf) |>.symm
      obtain rfl : fn = Tryd.f7 := (Option.some.inj (Tryd.func7.symm.trans hfn)).symm
      exact ⟨by kernel_rfl, fun j t ht => by
        have hall : (Tryd.f7.params.toList.all fun u => !Tryd.prog.wantsStandIn u) = true := by kernel_rfl
        have hm : t ∈ Tryd.f7.params.toList := by simpa using Array.mem_of_getElem? ht
        exact (show Tryd.prog.wantsStandIn t = false by simpa using List.all_eq_true.1 hall t hm)⟩)
    (by kernel_rfl)
#print axioms proved
end galoisDivides
end Go.Proofs.YtinjppijcmhhbaaDoor
