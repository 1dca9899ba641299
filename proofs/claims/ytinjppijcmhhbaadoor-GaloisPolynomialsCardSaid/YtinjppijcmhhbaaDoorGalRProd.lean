/- The contracts of perigeeref04's times, Product, Quotient over this program. -/
import Derived.Test.YtinjppijcmhhbaaDoorGalRFns
import Derived.Test.YtinjppijcmhhbaaDoorGalQuot
namespace Go.Proofs.YtinjppijcmhhbaaDoor
open Go.RowKit
set_option linter.unusedVariables false

set_option maxRecDepth 100000 in
theorem rtimes_any (p q : ByteArray) (hp : p.size ≤ 400000) (hq : q.size ≤ 400000) (w : World) :
    Calls Tryd.prog 39 #[.string p, .string q] w fun e w' => e = .returned (.string ⟨(Gal.pol (Gal.prd p.data.toList q.data.toList) (p.data.toList.length + q.data.toList.length)).toArray⟩) ∧ Below w.heap.size w w' := by
  obtain ⟨a, ha⟩ : ∃ m, p.size = m := ⟨_, rfl⟩
  obtain ⟨b, hb⟩ : ∃ n, q.size = n := ⟨_, rfl⟩
  obtain ⟨N, hN⟩ : ∃ N, a + b = N := ⟨_, rfl⟩
  have ev : Gal.pol (Gal.prd p.data.toList q.data.toList) (p.data.toList.length + q.data.toList.length) = Gal.pol (Gal.conv a (Gal.co p.data.toList) (Gal.co q.data.toList)) N := by
    rw [ls, ls, ha, hb, hN]
    congr 1
    funext k
    unfold Gal.prd
    rw [ls, ha]
  rw [ev]
  rw [ha] at hp
  rw [hb] at hq
  have hN1 : a + b ≤ N := by omega
  have hN2 : N ≤ a + b := by omega
  have N3 : N ≤ 1000000 := by omega
  have sm : (a : Int) + (b : Int) = (N : Int) := by omega
  have TR := Lib.hid (rtrimB (Gal.conv a (Gal.co p.data.toList) (Gal.co q.data.toList)) N N3)
  obtain ⟨i0, hi, hz0, hz1, hz2⟩ := info_parts info_u8
  have SA := Lib.hid ha
  have SB := Lib.hid hb
  clear ev hN
  go_enter Tryd.func39, Tryd.ntmps39
  go_wp2_with (at_make; refine wpList_make_full _ rfl _ _ 43 rfl w.heap.size 5 i0 (.int .u8 0) 1 Tryd.underlying43 hi hz0 hz1 .i64 .i64 _ _ N rfl rfl (by first | rfl | omega) (by first | rfl | omega) (by rw [hz2]; omega) (by unfold maxLen; omega) (Nat.le_refl _) ?_; intro w2 hown hgrow)
  have hnu := madeNums hown
  have hb2 : Below w.heap.size w w2 := (Below.refl _ _).grown hgrow (Nat.le_refl _) (fun k e => by cases e)
  have N1 := Lib.hid hnu
  have B1 := Lib.hid hb2
  clear hown hgrow hnu hb2 hi hz0 hz1 hz2
  go_loopw [6] (fun i wr => ∃ k : Nat, k ≤ a ∧ i = .int .i64 k ∧ NumsK .u8 wr w.heap.size N (fun j => (Gal.conv k (Gal.co p.data.toList) (Gal.co q.data.toList) j).toNat) ∧ Below w.heap.size w wr) (fun i _ => a - (intOf i).toNat)
  case atStart => exact ⟨0, Nat.zero_le _, rfl, N1.out, B1.out⟩
  case round =>
    obtain ⟨i, hi, rfl, hF, hB⟩ := hrel
    by_cases hlt : i < a
    · have NF := Lib.hid hF
      have NB := Lib.hid hB
      have ip : i < p.size := by rw [SA.out]; exact hlt
      clear hF hB N1 B1
      go_wp2_with fail
      go_loopw [7] (fun y wr => ∃ k : Nat, k ≤ b ∧ y = .int .i64 k ∧ NumsK .u8 wr w.heap.size N (fun j => (rowF (Gal.conv i (Gal.co p.data.toList) (Gal.co q.data.toList)) (Gal.co p.data.toList i) (Gal.co q.data.toList) i k j).toNat) ∧ Below w.heap.size w wr) (fun y _ => b - (intOf y).toNat)
      case atStart => exact ⟨0, Nat.zero_le _, rfl, NF.out.congr (fun j hj => by rw [rowF_zero]), NB.out⟩
      case round =>
        obtain ⟨k, hk, rfl, hF, hB⟩ := hrel
        by_cases hlt2 : k < b
        · have GF := Lib.hid hF
          have GB := Lib.hid hB
          have kq : k < q.size := by rw [SB.out]; exact hlt2
          clear hF hB NF NB
          go_upto_region 8 with fail
          refine timesRegion w.heap.size i k (i + k) N p q (rowF (Gal.conv i (Gal.co p.data.toList) (Gal.co q.data.toList)) (Gal.co p.data.toList i) (Gal.co q.data.toList) i k) ip kq (by omega) (by omega) (by omega) GF.out (by kernel_rfl) rfl rfl rfl rfl rfl rfl rfl rfl rfl rfl rfl rfl rfl rfl rfl rfl rfl rfl rfl rfl rfl rfl rfl rfl rfl rfl rfl ?_
          intro w3 B3
          simp only [Act.put, List.setIfInBounds_toArray, List.set_cons_succ, List.set_cons_zero]
          rw [rowF_at]
          obtain ⟨v, hv⟩ : ∃ v, (Gal.conv i (Gal.co p.data.toList) (Gal.co q.data.toList) (i + k) ^^^ Gal.mul (Gal.co p.data.toList i) (Gal.co q.data.toList k)).toNat = v := ⟨_, rfl⟩
          have N4 := Lib.hid ((GF.out.below B3).set (g := fun j => (rowF (Gal.conv i (Gal.co p.data.toList) (Gal.co q.data.toList)) (Gal.co p.data.toList i) (Gal.co q.data.toList) i (k + 1) j).toNat) (i + k) v (by omega) (by show (rowF _ _ _ _ _ _).toNat = _; rw [rowF_new]; exact hv) (fun j hj hjk => by show (rowF _ _ _ _ _ _).toNat = (rowF _ _ _ _ _ _).toNat; rw [rowF_other _ _ _ _ _ _ hjk]))
          have B4 := Lib.hid ((bt GB.out B3).setCell (p := ⟨w.heap.size, i + k, none⟩) (Nat.le_refl _) (.int .u8 (v : Nat)))
          rw [hv]
          obtain ⟨w6, hw6⟩ : ∃ w6, w3.setCell ⟨w.heap.size, i + k, none⟩ (.int .u8 (v : Nat)) = w6 := ⟨_, rfl⟩
          rw [hw6] at N4 B4 ⊢
          obtain ⟨y1, hy1⟩ : ∃ y, (Gal.co q.data.toList k).toNat = y := ⟨_, rfl⟩
          obtain ⟨y2, hy2⟩ : ∃ y, (Gal.co p.data.toList i).toNat = y := ⟨_, rfl⟩
          obtain ⟨y3, hy3⟩ : ∃ y, (Gal.mul (Gal.co p.data.toList i) (Gal.co q.data.toList k)).toNat = y := ⟨_, rfl⟩
          obtain ⟨y4, hy4⟩ : ∃ y, (Gal.conv i (Gal.co p.data.toList) (Gal.co q.data.toList) (i + k)).toNat = y := ⟨_, rfl⟩
          rw [hy1, hy2, hy3, hy4]
          clear hw6 B3 GF GB hv hy1 hy2 hy3 hy4
          go_wp2_with fail
          go_roundw
          case rel => exact ⟨k + 1, by omega, by go_num, N4.out, B4.out⟩
          case measure => simp [intOf]; omega
        · obtain rfl : k = b := by omega
          have N5 := Lib.hid (show NumsK .u8 _ w.heap.size N (fun j => (Gal.conv (i + 1) (Gal.co p.data.toList) (Gal.co q.data.toList) j).toNat) from hF.congr (fun j hj => by rw [rowF_all _ _ _ _ _ _ (fun i hi => Gal.co_out (by rw [ls, SB.out]; exact hi))]; rfl))
          have B5 := Lib.hid hB
          clear hF hB NF NB
          go_wp2_with fail
          go_roundw
          case rel => exact ⟨i + 1, by omega, by go_num, N5.out, B5.out⟩
          case measure => simp [intOf]; omega
    · obtain rfl : i = a := by omega
      have CV := Lib.hid (nums_back N hF)
      have NB := Lib.hid hB
      clear hF hB N1 B1
      go_wp2_with (simp only [CV.out])
      (with_reducible refine (TR.out _).mono ?_)
      rintro e w4 ⟨rfl, B4⟩
      have HB5 := Lib.hid (bt NB.out B4)
      clear B4
      go_wp2_with fail
      go_ret
      exact ⟨rfl, HB5.out⟩
set_option maxRecDepth 100000 in
theorem rprod_any (p q : ByteArray) (hp : p.size ≤ 400000) (hq : q.size ≤ 400000) (w : World) :
    Calls Tryd.prog 19 #[.string p, .string q] w fun e w' => e = .returned (.tuple #[.string ⟨(Gal.prodV p.data.toList q.data.toList).toArray⟩, .int .i64 (Gal.prodE p.data.toList q.data.toList)]) ∧ Below w.heap.size w w' := by
  have l1 := Gal.nn_le p.data.toList
  have l2 := Gal.nn_le q.data.toList
  rw [ls] at l1 l2
  have T1 := Lib.hid (fun w => rtrim_any p (by omega) w)
  have T2 := Lib.hid (fun w => rtrim_any q (by omega) w)
  have s1 := trim_size p.data.toList
  have s2 := trim_size q.data.toList
  have D1 := Lib.hid (fun w => rdegree_any (⟨(Gal.trim p.data.toList).toArray⟩ : ByteArray) (by omega) w)
  have D2 := Lib.hid (fun w => rdegree_any (⟨(Gal.trim q.data.toList).toArray⟩ : ByteArray) (by omega) w)
  have TT := Lib.hid (fun w => rtimes_any (⟨(Gal.trim p.data.toList).toArray⟩ : ByteArray) (⟨(Gal.trim q.data.toList).toArray⟩ : ByteArray) (by omega) (by omega) w)
  rw [show (⟨(Gal.trim p.data.toList).toArray⟩ : ByteArray).data.toList = Gal.trim p.data.toList from rfl, Gal.nn_trim] at D1
  rw [show (⟨(Gal.trim q.data.toList).toArray⟩ : ByteArray).data.toList = Gal.trim q.data.toList from rfl, Gal.nn_trim] at D2
  rw [show (⟨(Gal.trim p.data.toList).toArray⟩ : ByteArray).data.toList = Gal.trim p.data.toList from rfl, show (⟨(Gal.trim q.data.toList).toArray⟩ : ByteArray).data.toList = Gal.trim q.data.toList from rfl, Gal.prod_trim] at TT
  obtain ⟨a, ha⟩ : ∃ a, Gal.nn p.data.toList = a := ⟨_, rfl⟩
  obtain ⟨b, hb⟩ : ∃ b, Gal.nn q.data.toList = b := ⟨_, rfl⟩
  rw [ha] at D1
  rw [hb] at D2
  obtain ⟨P', hP⟩ : ∃ P', (⟨(Gal.trim p.data.toList).toArray⟩ : ByteArray) = P' := ⟨_, rfl⟩
  obtain ⟨Q', hQ⟩ : ∃ Q', (⟨(Gal.trim q.data.toList).toArray⟩ : ByteArray) = Q' := ⟨_, rfl⟩
  rw [hP] at T1 D1 TT
  rw [hQ] at T2 D2 TT
  have a2 : a ≤ 400000 := by omega
  have b2 : b ≤ 400000 := by omega
  by_cases h : 1024 ≤ ((a : Int) - 1) + ((b : Int) - 1)
  · have e1 : Gal.prodV p.data.toList q.data.toList = [] := by unfold Gal.prodV; rw [ha, hb, if_pos h]
    have e2 : Gal.prodE p.data.toList q.data.toList = 3 := by unfold Gal.prodE; rw [ha, hb, if_pos h]
    rw [e1, e2]
    have t1 : decide ((1024 : Int) ≤ ((a : Int) - 1) + ((b : Int) - 1)) = true := decide_eq_true h
    have B := Lib.hid (Below.refl w.heap.size w)
    clear e1 e2 ha hb l1 l2 hp hq s1 s2 hP hQ TT
    go_enter Tryd.func19, Tryd.ntmps19
    go_wp2_with fail
    (with_reducible refine (T1.out _).mono ?_)
    rintro e w' ⟨rfl, rfl⟩
    go_wp2_with fail
    (with_reducible refine (T2.out _).mono ?_)
    rintro e w' ⟨rfl, rfl⟩
    go_wp2_with fail
    (with_reducible refine (D1.out _).mono ?_)
    rintro e w' ⟨rfl, rfl⟩
    go_wp2_with fail
    (with_reducible refine (D2.out _).mono ?_)
    rintro e w' ⟨rfl, rfl⟩
    go_wp2_with fail
    go_ret2
    exact ⟨rfl, B.out⟩
  · have e1 : Gal.prodV p.data.toList q.data.toList = Gal.pol (Gal.prd p.data.toList q.data.toList) (p.data.toList.length + q.data.toList.length) := by
      unfold Gal.prodV
      rw [ha, hb, if_neg h]
    have e2 : Gal.prodE p.data.toList q.data.toList = 0 := by unfold Gal.prodE; rw [ha, hb, if_neg h]
    rw [e1, e2]
    have t1 : decide ((1024 : Int) ≤ ((a : Int) - 1) + ((b : Int) - 1)) = false := decide_eq_false h
    obtain ⟨r, hr⟩ : ∃ r, (⟨(Gal.pol (Gal.prd p.data.toList q.data.toList) (p.data.toList.length + q.data.toList.length)).toArray⟩ : ByteArray) = r := ⟨_, rfl⟩
    rw [hr] at TT ⊢
    clear e1 e2 ha hb l1 l2 hp hq s1 s2 hP hQ hr
    go_enter Tryd.func19, Tryd.ntmps19
    go_wp2_with fail
    (with_reducible refine (T1.out _).mono ?_)
    rintro e w' ⟨rfl, rfl⟩
    go_wp2_with fail
    (with_reducible refine (T2.out _).mono ?_)
    rintro e w' ⟨rfl, rfl⟩
    go_wp2_with fail
    (with_reducible refine (D1.out _).mono ?_)
    rintro e w' ⟨rfl, rfl⟩
    go_wp2_with fail
    (with_reducible refine (D2.out _).mono ?_)
    rintro e w' ⟨rfl, rfl⟩
    go_wp2_with fail
    (with_reducible refine (TT.out _).mono ?_)
    rintro e w1 ⟨rfl, hB⟩
    have HB := Lib.hid hB
    clear hB
    go_wp2_with fail
    go_ret2
    exact ⟨rfl, HB.out⟩
end Go.Proofs.YtinjppijcmhhbaaDoor
