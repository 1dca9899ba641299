/- The contract of galois' Quotient over this program. -/
import Derived.Test.YtlpjhmafplljaaaDoorGalProd
namespace Go.Proofs.YtlpjhmafplljaaaDoor
open Go.RowKit
set_option linter.unusedVariables false

namespace Gal
theorem quot_trim (p q : List UInt8) (hq : nn q ≠ 0) :
    quotV p q = coefs (quo (co (trim p)) (co (trim q)) (nn p - (nn q - 1)) (nn q - 1) (inv (co (trim q) (nn q - 1)))) (nn p - (nn q - 1)) ∧
    restV p q = pol (left (co (trim p)) (co (trim q)) (nn p - (nn q - 1)) (nn q - 1) (inv (co (trim q) (nn q - 1))) (nn p - (nn q - 1))) (nn p) := by
  have h := quot_congr (p := p) (q := q) (p' := trim p) (q' := trim q) (fun i => (co_trim p i).symm) (fun i => (co_trim q i).symm)
  have h2 : nn (trim q) ≠ 0 := by rw [nn_trim]; exact hq
  refine ⟨?_, ?_⟩
  · rw [h.2.1]
    unfold quotV
    rw [if_neg h2]
    unfold quoF vv rounds
    rw [nn_trim, nn_trim]
  · rw [h.2.2]
    unfold restV
    rw [if_neg h2]
    unfold remF vv rounds
    rw [nn_trim, nn_trim]
theorem quo_at {f g : Nat → BitVec 8} {m top : Nat} {v : BitVec 8} {k : Nat} (h : k < m) : quo f g m top v (m - 1 - k) = mul (left f g m top v k (m - 1 - k + top)) v := by
  unfold quo
  rw [if_pos (by omega), show m - 1 - (m - 1 - k) = k by omega]
end Gal

set_option maxRecDepth 100000 in
theorem quot_any (p q : ByteArray) (hp : p.size ≤ 400000) (hq : q.size ≤ 400000) (w : World) :
    Calls Tryd.prog 21 #[.string p, .string q] w fun e w' => e = .returned (.tuple #[.string ⟨(Gal.quotV p.data.toList q.data.toList).toArray⟩, .string ⟨(Gal.restV p.data.toList q.data.toList).toArray⟩, .int .i64 (Gal.quotE q.data.toList)]) ∧ Below w.heap.size w w' := by
  have T1 := Lib.hid (fun w => trimmed_any p (by omega) w)
  have T2 := Lib.hid (fun w => trimmed_any q (by omega) w)
  have l1 := Gal.nn_le p.data.toList
  have l2 := Gal.nn_le q.data.toList
  rw [ls] at l1 l2
  have s1 := trim_size p.data.toList
  have s2 := trim_size q.data.toList
  by_cases h : Gal.nn q.data.toList = 0
  · rw [show Gal.quotV p.data.toList q.data.toList = [] from if_pos h, show Gal.restV p.data.toList q.data.toList = [] from if_pos h, show Gal.quotE q.data.toList = 2 from if_pos h]
    rw [h] at s2
    rw [is_empty s2] at T2
    have B := Lib.hid (Below.refl w.heap.size w)
    clear s1 s2 l1 l2 h hp hq
    go_enter Tryd.func21, Tryd.ntmps21
    go_wp2_with fail
    (with_reducible refine (T1.out _).mono ?_)
    rintro e w' ⟨rfl, rfl⟩
    go_wp2_with fail
    (with_reducible refine (T2.out _).mono ?_)
    rintro e w' ⟨rfl, rfl⟩
    go_wp2_with fail
    go_ret3
    exact ⟨rfl, B.out⟩
  · obtain ⟨e1, e2⟩ := Gal.quot_trim p.data.toList q.data.toList h
    rw [show Gal.quotE q.data.toList = 0 from if_neg h, e1, e2]
    obtain ⟨a, ha⟩ : ∃ a, Gal.nn p.data.toList = a := ⟨_, rfl⟩
    obtain ⟨b, hb⟩ : ∃ b, Gal.nn q.data.toList = b := ⟨_, rfl⟩
    rw [ha] at s1 l1 ⊢
    rw [hb] at s2 l2 h ⊢
    obtain ⟨top, htop⟩ : ∃ top, b - 1 = top := ⟨_, rfl⟩
    rw [htop]
    obtain ⟨m, hm⟩ : ∃ m, a - top = m := ⟨_, rfl⟩
    rw [hm]
    obtain ⟨P', hP⟩ : ∃ P', (⟨(Gal.trim p.data.toList).toArray⟩ : ByteArray) = P' := ⟨_, rfl⟩
    obtain ⟨Q', hQ⟩ : ∃ Q', (⟨(Gal.trim q.data.toList).toArray⟩ : ByteArray) = Q' := ⟨_, rfl⟩
    rw [show Gal.trim p.data.toList = P'.data.toList by rw [← hP], show Gal.trim q.data.toList = Q'.data.toList by rw [← hQ]]
    rw [hP] at T1 s1
    rw [hQ] at T2 s2
    have IV := Lib.hid (fun b w T => inverse_any b (Gal.co Q'.data.toList top) w T)
    have tQ : top < Q'.size := by omega
    have bq := byte_co Q' top tQ
    obtain ⟨v, hv⟩ : ∃ v, Gal.inv (Gal.co Q'.data.toList top) = v := ⟨_, rfl⟩
    rw [hv] at IV
    rw [hv]
    obtain ⟨y, hy⟩ : ∃ y, (Gal.co Q'.data.toList top).toNat = y := ⟨_, rfl⟩
    rw [hy] at IV bq
    have b1 : 1 ≤ b := by omega
    have bt1 : (b : Int) - 1 = (top : Int) := by omega
    have am : max ((a : Int) - (top : Int)) 0 = (m : Int) := by omega
    have h1 : top + 1 ≤ b := by omega
    have h2 : b ≤ top + 1 := by omega
    have h3 : m ≤ a - top := by omega
    have h4 : a - top ≤ m := by omega
    have a2 : a ≤ 400000 := by omega
    have b2 : b ≤ 400000 := by omega
    have q1 := empty_no (s := Q') (by omega)
    have q2 := beq_empty (s := Q') (by omega)
    have S1 := Lib.hid s1
    have S2 := Lib.hid s2
    have FL := Lib.hid (fun w => filled_any w)
    obtain ⟨i0, hi, hz0, hz1, hz2⟩ := info_parts info_u8
    clear e1 e2 hP hQ ha hb htop hm hy hv l1 l2 hp hq h s1 s2
    go_enter Tryd.func21, Tryd.ntmps21
    go_wp2_with fail
    (with_reducible refine (T1.out _).mono ?_)
    rintro e w' ⟨rfl, rfl⟩
    go_wp2_with fail
    (with_reducible refine (T2.out _).mono ?_)
    rintro e w' ⟨rfl, rfl⟩
    have s2 := S2.out
    go_wp2_with fail
    clear s2
    (with_reducible refine (FL.out _).mono ?_)
    rintro e w1 ⟨rfl, hB⟩
    have HB := Lib.hid hB
    clear hB T1 T2
    go_wp2_with (refine wpList_store_row rfl 68 (.tmp 8) (.tmp 23) rfl w1.heap.size tabs rfl rfl _ _ (new_tabs w1) iTabs tabs_size (arrK_one _ _ _) ?_)
    have TT := withTab_tabs w1
    have BB := bt HB.out (withTab_below w1)
    have lt : w.heap.size ≤ w1.heap.size := HB.out.size
    obtain ⟨w3, hw3⟩ : ∃ w3, ((w1.alloc (.cells Tryd.zeroCells68 68)).setRow w1.heap.size tabs) = w3 := ⟨_, rfl⟩
    rw [hw3] at TT BB ⊢
    obtain ⟨tb, htb⟩ : ∃ tb, w1.heap.size = tb := ⟨_, rfl⟩
    rw [htb] at TT lt ⊢
    have HT := Lib.hid TT
    have HB4 := Lib.hid BB
    clear TT BB hw3 htb HB FL
    (with_reducible refine (IV.out _ _ HT.out).mono ?_)
    rintro e w' ⟨rfl, rfl⟩
    have c1 := run_bytes_of_string (P := Tryd.prog) w3 9 33 5 P' Tryd.underlying9 Tryd.underlying33 Tryd.underlying5
    have hcap0 := grownCap_ge w3 P'.size 0 5
    obtain ⟨C, hcap⟩ : ∃ C, grownCap w3 P'.size 0 5 = C := ⟨_, rfl⟩
    rw [hcap] at c1 hcap0
    rw [S1.out] at c1 hcap0
    have H1 := nums_new P' C 5 w3.drew
    rw [S1.out] at H1
    have HT2 : Tabs w3.drew tb Gal.tab := HT.out
    have T5 := HT2.alloc (.cells (bytesRow P' C) 5 ((bytesRow P' C).size, (bytesRow P' C).size + 1))
    have B5 := ba HB4.out.drew (.cells (bytesRow P' C) 5 ((bytesRow P' C).size, (bytesRow P' C).size + 1))
    obtain ⟨w4, hw4⟩ : ∃ w4, w3.drew.alloc (.cells (bytesRow P' C) 5 ((bytesRow P' C).size, (bytesRow P' C).size + 1)) = w4 := ⟨_, rfl⟩
    rw [hw4] at c1 H1 T5 B5
    have lb0 : tb < w3.heap.size := HT.out.lt
    obtain ⟨lb, hlb⟩ : ∃ lb, w3.heap.size = lb := ⟨_, rfl⟩
    rw [show w3.drew.heap.size = lb from hlb] at H1
    rw [hlb] at c1 lb0
    have C1 := Lib.hid c1
    have HL := Lib.hid H1
    have HT5 := Lib.hid T5
    have HB5 := Lib.hid B5
    clear hcap c1 H1 HT2 T5 B5 hw4 hlb HT HB4 IV
    have s1 := S1.out
    go_wp2_with (first
      | (simp only [C1.out])
      | (at_make; refine wpList_make_full _ rfl _ _ 33 rfl w4.heap.size 5 i0 (.int .u8 0) 1 Tryd.underlying33 hi hz0 hz1 .i64 .i64 _ _ m rfl rfl (by first | rfl | omega) (by first | rfl | omega) (by rw [hz2]; omega) (by unfold maxLen; omega) (Nat.le_refl _) ?_; intro w5 hown hgrow))
    clear s1
    have hnu := madeNums hown
    have hb5 : Below w4.heap.size w4 w5 := (Below.refl _ _).grown hgrow (Nat.le_refl _) (fun k e => by cases e)
    have cb0 : lb < w4.heap.size := HL.out.1
    obtain ⟨cb, hcb⟩ : ∃ cb, w4.heap.size = cb := ⟨_, rfl⟩
    have HL2 := Lib.hid (HL.out.below hb5)
    have HT6 := Lib.hid (HT5.out.below hb5)
    have HB6 := Lib.hid (bt HB5.out hb5)
    rw [hcb] at hnu cb0 ⊢
    have HC := Lib.hid hnu
    clear hown hgrow hnu hb5 hcb HL HT5 HB5 C1 hi hz0 hz1 hz2
    go_loopw [38] (fun i wr => ∃ k : Nat, k ≤ m ∧ i = .int .i64 k ∧ NumsK .u8 wr lb a (fun j => (Gal.left (Gal.co P'.data.toList) (Gal.co Q'.data.toList) m top v k j).toNat) ∧ NumsK .u8 wr cb m (fun j => if m - k ≤ j then (Gal.quo (Gal.co P'.data.toList) (Gal.co Q'.data.toList) m top v j).toNat else 0) ∧ Tabs wr tb Gal.tab ∧ Below w.heap.size w wr) (fun i _ => m - (intOf i).toNat)
    case atStart => exact ⟨0, Nat.zero_le _, rfl, HL2.out, HC.out.congr (fun j hj => by rw [if_neg (by omega)]), HT6.out, HB6.out⟩
    case round =>
      obtain ⟨k, hk, rfl, hL, hC, hT, hB⟩ := hrel
      by_cases hlt : k < m
      · obtain ⟨i, hi⟩ : ∃ i, m - 1 - k = i := ⟨_, rfl⟩
        obtain ⟨j, hj⟩ : ∃ j, i + top = j := ⟨_, rfl⟩
        have qa := Gal.quo_at (f := Gal.co P'.data.toList) (g := Gal.co Q'.data.toList) (top := top) (v := v) hlt
        rw [hi, hj] at qa
        have i1 : (m : Int) - 1 - (k : Int) = (i : Int) := by omega
        have i2 : IntKind.i64.wrap ((m : Int) - 1) = (m : Int) - 1 := by rw [IntKind.wrap_i64]; omega
        have j1 : (i : Int) + (top : Int) = (j : Int) := by omega
        have ja : j < a := by omega
        have im : i < m := by omega
        have ja2 : (j : Int) < (a : Int) := by omega
        have im2 : (i : Int) < (m : Int) := by omega
        have c1 := hL.cell ja
        have c2 := hC.cell im
        have f2 := hC.frozen im
        obtain ⟨x, hx⟩ : ∃ x, Gal.left (Gal.co P'.data.toList) (Gal.co Q'.data.toList) m top v k j = x := ⟨_, rfl⟩
        obtain ⟨c, hc⟩ : ∃ c, Gal.quo (Gal.co P'.data.toList) (Gal.co Q'.data.toList) m top v i = c := ⟨_, rfl⟩
        rw [hx, hc] at qa
        rw [hx] at c1
        have PR := Lib.hid (product_any tb x v wr hT)
        rw [← qa] at PR
        have NL := Lib.hid hL
        have NC := Lib.hid (hC.set (g := fun j => if m - (k + 1) ≤ j then (Gal.quo (Gal.co P'.data.toList) (Gal.co Q'.data.toList) m top v j).toNat else 0) i c.toNat im (by rw [if_pos (by omega), hc]) (fun j hj hjk => by
          by_cases e : m - k ≤ j
          · rw [if_pos e, if_pos (by omega)]
          · rw [if_neg e, if_neg (by omega)]))
        have NT := Lib.hid hT
        have NB := Lib.hid hB
        have HC2 := Lib.hid hc
        have LS := Lib.hid (fun j' => (show Gal.left (Gal.co P'.data.toList) (Gal.co Q'.data.toList) m top v (k + 1) j' = Gal.left (Gal.co P'.data.toList) (Gal.co Q'.data.toList) m top v k j' ^^^ Gal.mul c (Gal.sh i (Gal.co Q'.data.toList) j') by
          rw [qa, ← hx, ← hj, ← hi]
          rfl))
        obtain ⟨xn, hxn⟩ : ∃ xn, x.toNat = xn := ⟨_, rfl⟩
        obtain ⟨vn, hvn⟩ : ∃ vn, v.toNat = vn := ⟨_, rfl⟩
        obtain ⟨cn, hcn⟩ : ∃ cn, c.toNat = cn := ⟨_, rfl⟩
        rw [hxn] at c1
        rw [hxn, hvn, hcn] at PR
        rw [hcn] at NC
        rw [hvn]
        have HCN := Lib.hid hcn
        clear hL hC hT hB qa hx hc hi hj hxn hcn hvn HL2 HC HT6 HB6
        go_wp2_with fail
        (with_reducible refine PR.out.mono ?_)
        rintro e w6 ⟨rfl, n, rfl⟩
        have NC2 : NumsK .u8 ((wr.drewN n).setCell ⟨cb, i, none⟩ (.int .u8 (cn : Nat))) cb m (fun j => if m - (k + 1) ≤ j then (Gal.quo (Gal.co P'.data.toList) (Gal.co Q'.data.toList) m top v j).toNat else 0) := NC.out
        have NL0 : NumsK .u8 (wr.drewN n) lb a (fun j => (Gal.left (Gal.co P'.data.toList) (Gal.co Q'.data.toList) m top v k j).toNat) := NL.out
        have NL2 : NumsK .u8 ((wr.drewN n).setCell ⟨cb, i, none⟩ (.int .u8 (cn : Nat))) lb a (fun j => (Gal.left (Gal.co P'.data.toList) (Gal.co Q'.data.toList) m top v k j).toNat) := NL0.setOther (by omega) _
        have NT2 : Tabs ((wr.drewN n).setCell ⟨cb, i, none⟩ (.int .u8 (cn : Nat))) tb Gal.tab := (NT.out.drewN n).setOther (by omega) _
        have NB2 : Below w.heap.size w ((wr.drewN n).setCell ⟨cb, i, none⟩ (.int .u8 (cn : Nat))) := (below_drewN NB.out n).setCell (p := ⟨cb, i, none⟩) (by show w.heap.size ≤ cb; omega) _
        have GC := Lib.hid NC2
        have GL := Lib.hid NL2
        have GT := Lib.hid NT2
        have GB := Lib.hid NB2
        clear NC2 NL0 NL2 NT2 NB2 PR
        go_upto_region 14 with fail
        obtain ⟨w7, hw7⟩ : ∃ w7, (wr.drewN n).setCell ⟨cb, i, none⟩ (.int .u8 (cn : Nat)) = w7 := ⟨_, rfl⟩
        rw [hw7] at GC GL GT GB ⊢
        have R := fun w' (BW : Below w7.heap.size w7 w') => (add_any lb i (a - i) (C - i) a tb c Q' (Gal.left (Gal.co P'.data.toList) (Gal.co Q'.data.toList) m top v k) w' (by rw [S2.out]; omega) (by omega) (by omega) (by omega) (GL.out.below BW) (GT.out.below BW)).mono fun e w2 ⟨he, hA⟩ =>
          (show e = Ending.returned (Value.tuple #[]) ∧ (NumsK .u8 w2 lb a (fun j => (Gal.left (Gal.co P'.data.toList) (Gal.co Q'.data.toList) m top v (k + 1) j).toNat) ∧ NumsK .u8 w2 cb m (fun j => if m - (k + 1) ≤ j then (Gal.quo (Gal.co P'.data.toList) (Gal.co Q'.data.toList) m top v j).toNat else 0) ∧ Tabs w2 tb Gal.tab ∧ Below w.heap.size w w2) from
            ⟨he, hA.1.congr (fun j hj => by rw [LS.out]), (GC.out.below BW).but hA.2 (by omega), hA.2.row (GT.out.below BW) (by omega), (bt GB.out BW).trans (hA.2.below.mono (by omega))⟩)
        have HR := Lib.hid R
        clear R hw7
        refine quotRegion lb cb tb i a C m c Q' (fun w2 => NumsK .u8 w2 lb a (fun j => (Gal.left (Gal.co P'.data.toList) (Gal.co Q'.data.toList) m top v (k + 1) j).toNat) ∧ NumsK .u8 w2 cb m (fun j => if m - (k + 1) ≤ j then (Gal.quo (Gal.co P'.data.toList) (Gal.co Q'.data.toList) m top v j).toNat else 0) ∧ Tabs w2 tb Gal.tab ∧ Below w.heap.size w w2) (by omega) hcap0 (by omega) im (by omega) _ (by rw [if_pos (by omega), HC2.out]) GC.out HR.out (by kernel_rfl) rfl rfl rfl rfl rfl rfl rfl rfl rfl rfl rfl rfl rfl rfl rfl rfl rfl rfl ?_
        intro w8 R8
        simp only [Act.put, List.setIfInBounds_toArray, List.set_cons_succ, List.set_cons_zero]
        have Q8 := Lib.hid R8
        clear R8 HR NL NC NT NB GC GL GT GB LS HC2
        go_wp2_with fail
        go_roundw
        case rel => exact ⟨k + 1, by omega, by go_num, Q8.out.1, Q8.out.2.1, Q8.out.2.2.1, Q8.out.2.2.2⟩
        case measure => simp [intOf]; omega
      · obtain rfl : k = m := by omega
        have NL := Lib.hid hL
        have NC := Lib.hid (hC.congr (g := fun j => (Gal.quo (Gal.co P'.data.toList) (Gal.co Q'.data.toList) k top v j).toNat) (fun j hj => by rw [if_pos (by omega)]))
        have NB := Lib.hid hB
        clear hL hC hT hB HL2 HC HT6 HB6
        go_upto_region 16 with fail
        refine quotEnd lb cb a C k k (Gal.left (Gal.co P'.data.toList) (Gal.co Q'.data.toList) k top v k) (Gal.quo (Gal.co P'.data.toList) (Gal.co Q'.data.toList) k top v) (by omega) (by omega) NL.out NC.out (by kernel_rfl) rfl rfl rfl rfl rfl rfl rfl rfl rfl rfl rfl rfl ?_
        intro w9 B9
        simp only [Act.put, List.setIfInBounds_toArray, List.set_cons_succ, List.set_cons_zero]
        have HB9 := Lib.hid (bt NB.out B9)
        clear B9 NL NC NB
        go_wp2_with fail
        go_ret3
        exact ⟨rfl, HB9.out⟩
end Go.Proofs.YtlpjhmafplljaaaDoor
