/- The contracts of galois' Product and Quotient over this program. -/
import Derived.Test.YtlpjhmafplljaaaDoorGalFns
namespace Go.Proofs.YtlpjhmafplljaaaDoor
open Go.RowKit
set_option linter.unusedVariables false

set_option maxRecDepth 100000 in
theorem prod_any (p q : ByteArray) (hp : p.size ≤ 400000) (hq : q.size ≤ 400000) (w : World) :
    Calls Tryd.prog 40 #[.string p, .string q] w fun e w' => e = .returned (.tuple #[.string ⟨(Gal.prodV p.data.toList q.data.toList).toArray⟩, .int .i64 (Gal.prodE p.data.toList q.data.toList)]) ∧ Below w.heap.size w w' := by
  have D1 := Lib.hid (fun w => degree_any p (by omega) w)
  have D2 := Lib.hid (fun w => degree_any q (by omega) w)
  have l1 := Gal.nn_le p.data.toList
  have l2 := Gal.nn_le q.data.toList
  rw [ls] at l1 l2
  obtain ⟨a, ha⟩ : ∃ a, Gal.nn p.data.toList = a := ⟨_, rfl⟩
  obtain ⟨b, hb⟩ : ∃ b, Gal.nn q.data.toList = b := ⟨_, rfl⟩
  rw [ha] at D1
  rw [hb] at D2
  by_cases h : 1024 ≤ ((a : Int) - 1) + ((b : Int) - 1)
  · have e1 : Gal.prodV p.data.toList q.data.toList = [] := by unfold Gal.prodV; rw [ha, hb, if_pos h]
    have e2 : Gal.prodE p.data.toList q.data.toList = 3 := by unfold Gal.prodE; rw [ha, hb, if_pos h]
    rw [e1, e2]
    have t1 : decide ((1024 : Int) ≤ ((a : Int) - 1) + ((b : Int) - 1)) = true := decide_eq_true h
    have a2 : a ≤ 400000 := by omega
    have b2 : b ≤ 400000 := by omega
    have B := Lib.hid (Below.refl w.heap.size w)
    clear e1 e2 ha hb l1 l2 hp hq
    go_enter Tryd.func40, Tryd.ntmps40
    go_wp2_with fail
    (with_reducible refine (D1.out _).mono ?_)
    rintro e w' ⟨rfl, rfl⟩
    go_wp2_with fail
    (with_reducible refine (D2.out _).mono ?_)
    rintro e w' ⟨rfl, rfl⟩
    go_wp2_with fail
    go_ret2
    exact ⟨rfl, B.out⟩
  · have e1 : Gal.prodV p.data.toList q.data.toList = Gal.pol (Gal.conv a (Gal.co (Gal.trim p.data.toList)) (Gal.co (Gal.trim q.data.toList))) (a + b) := by
      unfold Gal.prodV
      rw [ha, hb, if_neg h, ← Gal.prod_trim, Gal.trim_length, Gal.trim_length, ha, hb]
      unfold Gal.prd
      rw [Gal.trim_length, ha]
    have e2 : Gal.prodE p.data.toList q.data.toList = 0 := by unfold Gal.prodE; rw [ha, hb, if_neg h]
    rw [e1, e2]
    have t1 : decide ((1024 : Int) ≤ ((a : Int) - 1) + ((b : Int) - 1)) = false := decide_eq_false h
    have T1 := Lib.hid (fun w => trimmed_any p (by omega) w)
    have T2 := Lib.hid (fun w => trimmed_any q (by omega) w)
    have s1 := trim_size p.data.toList
    have s2 := trim_size q.data.toList
    rw [ha] at s1
    rw [hb] at s2
    obtain ⟨P', hP⟩ : ∃ P', (⟨(Gal.trim p.data.toList).toArray⟩ : ByteArray) = P' := ⟨_, rfl⟩
    obtain ⟨Q', hQ⟩ : ∃ Q', (⟨(Gal.trim q.data.toList).toArray⟩ : ByteArray) = Q' := ⟨_, rfl⟩
    rw [show Gal.trim p.data.toList = P'.data.toList by rw [← hP], show Gal.trim q.data.toList = Q'.data.toList by rw [← hQ]]
    rw [hP] at T1 s1
    rw [hQ] at T2 s2
    obtain ⟨N, hN⟩ : ∃ N, a + b = N := ⟨_, rfl⟩
    rw [hN]
    have hN1 : a + b ≤ N := by omega
    have hN2 : N ≤ a + b := by omega
    have N3 : N ≤ 1000000 := by omega
    have sm : (a : Int) + (b : Int) = (N : Int) := by omega
    have TR := Lib.hid (trimmedB (Gal.conv a (Gal.co P'.data.toList) (Gal.co Q'.data.toList)) N N3)
    have FL := Lib.hid (fun w => filled_any w)
    obtain ⟨i0, hi, hz0, hz1, hz2⟩ := info_parts info_u8
    have S1 := Lib.hid s1
    have S2 := Lib.hid s2
    have a2 : a ≤ 400000 := by omega
    have b2 : b ≤ 400000 := by omega
    clear e1 e2 ha hb l1 l2 hp hq h hP hQ hN
    go_enter Tryd.func40, Tryd.ntmps40
    go_wp2_with fail
    (with_reducible refine (D1.out _).mono ?_)
    rintro e w' ⟨rfl, rfl⟩
    go_wp2_with fail
    (with_reducible refine (D2.out _).mono ?_)
    rintro e w' ⟨rfl, rfl⟩
    go_wp2_with fail
    (with_reducible refine (T1.out _).mono ?_)
    rintro e w' ⟨rfl, rfl⟩
    go_wp2_with fail
    (with_reducible refine (T2.out _).mono ?_)
    rintro e w' ⟨rfl, rfl⟩
    go_wp2_with (at_make; refine wpList_make_full _ rfl _ _ 33 rfl w.heap.size 5 i0 (.int .u8 0) 1 Tryd.underlying33 hi hz0 hz1 .i64 .i64 _ _ N rfl rfl (by first | rfl | omega) (by first | rfl | omega) (by rw [hz2]; omega) (by unfold maxLen; omega) (Nat.le_refl _) ?_; intro w2 hown hgrow)
    have hnu := madeNums hown
    have hb2 : Below w.heap.size w w2 := (Below.refl _ _).grown hgrow (Nat.le_refl _) (fun k e => by cases e)
    have N1 := Lib.hid hnu
    have B1 := Lib.hid hb2
    clear hown hgrow hnu hb2 hi hz0 hz1 hz2 t1 D1 D2 T1 T2
    go_wp2_with fail
    (with_reducible refine (FL.out _).mono ?_)
    rintro e w1 ⟨rfl, hB⟩
    have HB := Lib.hid hB
    clear hB
    go_wp2_with (refine wpList_store_row rfl 68 (.tmp 7) (.tmp 25) rfl w1.heap.size tabs rfl rfl _ _ (new_tabs w1) iTabs tabs_size (arrK_one _ _ _) ?_)
    have TT := withTab_tabs w1
    have N4 := (N1.out.below HB.out).below (withTab_below w1)
    have BB := bt (bt B1.out HB.out) (withTab_below w1)
    have lt : w.heap.size < w1.heap.size := Nat.lt_of_lt_of_le N1.out.1 HB.out.size
    obtain ⟨w3, hw3⟩ : ∃ w3, ((w1.alloc (.cells Tryd.zeroCells68 68)).setRow w1.heap.size tabs) = w3 := ⟨_, rfl⟩
    rw [hw3] at TT BB N4 ⊢
    have HT := Lib.hid TT
    have HB4 := Lib.hid BB
    have HN4 := Lib.hid N4
    obtain ⟨tb, htb⟩ : ∃ tb, w1.heap.size = tb := ⟨_, rfl⟩
    rw [htb] at HT lt ⊢
    clear TT BB N4 hw3 htb HB FL N1 B1
    clear s1 s2
    have s1 := S1.out
    have s2 := S2.out
    go_wp2_with fail
    clear s1 s2
    go_loopw [28] (fun i wr => ∃ k : Nat, k ≤ a ∧ i = .int .i64 k ∧ NumsK .u8 wr w.heap.size N (fun j => (Gal.conv k (Gal.co P'.data.toList) (Gal.co Q'.data.toList) j).toNat) ∧ Tabs wr tb Gal.tab ∧ Below w.heap.size w wr) (fun i _ => a - (intOf i).toNat)
    case atStart => exact ⟨0, Nat.zero_le _, rfl, HN4.out, HT.out, HB4.out⟩
    case round =>
      obtain ⟨k, hk, rfl, hF, hT, hB⟩ := hrel
      by_cases hlt : k < a
      · have NF := Lib.hid hF
        have NT := Lib.hid hT
        have NB := Lib.hid hB
        have R := fun w' (BW : Below wr.heap.size wr w') => (add_any w.heap.size k (N - k) (N - k) N tb (Gal.co P'.data.toList k) Q' (Gal.conv k (Gal.co P'.data.toList) (Gal.co Q'.data.toList)) w' (by rw [S2.out]; omega) (by omega) (by omega) (by omega) (NF.out.below BW) (NT.out.below BW)).mono fun e w2 ⟨he, hA⟩ =>
          (show e = Ending.returned (Value.tuple #[]) ∧ (NumsK .u8 w2 w.heap.size N (fun j => (Gal.conv (k + 1) (Gal.co P'.data.toList) (Gal.co Q'.data.toList) j).toNat) ∧ Tabs w2 tb Gal.tab ∧ Below w.heap.size w w2) from
            ⟨he, hA.1, hA.2.row (NT.out.below BW) (by omega), (bt NB.out BW).trans hA.2.below⟩)
        have HR := Lib.hid R
        have kp : k < P'.size := by rw [S1.out]; exact hlt
        clear hF hT hB R HN4 HT HB4
        go_upto_region 9 with fail
        refine prodRegion w.heap.size tb k N P' Q' (fun w2 => NumsK .u8 w2 w.heap.size N (fun j => (Gal.conv (k + 1) (Gal.co P'.data.toList) (Gal.co Q'.data.toList) j).toNat) ∧ Tabs w2 tb Gal.tab ∧ Below w.heap.size w w2) kp (by omega) (by omega) HR.out (by kernel_rfl) rfl rfl rfl rfl rfl rfl rfl rfl rfl rfl rfl rfl rfl rfl rfl rfl rfl ?_
        intro w4 R4
        simp only [Act.put, List.setIfInBounds_toArray, List.set_cons_succ, List.set_cons_zero]
        have Q4 := Lib.hid R4
        obtain ⟨y1, hy1⟩ : ∃ y, (Gal.co P'.data.toList k).toNat = y := ⟨_, rfl⟩
        clear R4 HR NF NT NB
        go_wp2_with fail
        go_roundw
        case rel => exact ⟨k + 1, by omega, by go_num, Q4.out.1, Q4.out.2.1, Q4.out.2.2⟩
        case measure => simp [intOf]; omega
      · obtain rfl : k = a := by omega
        have cv := nums_back N hF
        have CV := Lib.hid cv
        have NB := Lib.hid hB
        clear hF hT hB cv HN4 HT HB4
        go_wp2_with (simp only [CV.out])
        (with_reducible refine (TR.out _).mono ?_)
        rintro e w4 ⟨rfl, B4⟩
        have HB5 := Lib.hid (bt NB.out B4)
        clear B4
        go_wp2_with fail
        go_ret2
        exact ⟨rfl, HB5.out⟩
end Go.Proofs.YtlpjhmafplljaaaDoor
