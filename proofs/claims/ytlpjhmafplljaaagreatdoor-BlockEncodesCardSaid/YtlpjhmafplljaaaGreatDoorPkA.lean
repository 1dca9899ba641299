/- GalFns, GalProd, GalQuot as one text. -/
import Derived.Test.YtlpjhmafplljaaaGreatDoorGalAdd
import Derived.Lib.LazyBuf
/- The contracts of galois' Sum, Derived, Eval over this program. -/
namespace Go.Proofs.YtlpjhmafplljaaaGreatDoor
open Go.RowKit
set_option linter.unusedVariables false

theorem info_u8 : (Tryz.prog.info? 5).map (fun i => (i.zero, i.size, i.bytes)) = some (some (.int .u8 0), 1, 1) := by kernel_rfl
theorem size_u8 (w : World) : (Go.sizeOf 5).run Tryz.prog w = .ok 1 w := by kernel_rfl
theorem nums_cells {b N : Nat} : ∀ (l : List UInt8) (o : Nat) (w : World) (f : Nat → BitVec 8), NumsK .u8 w b N (fun j => (f j).toNat) → o + l.length ≤ N →
    NumsK .u8 (w.setCells b o (l.map fun x => Value.int .u8 (x.toNat : Int))) b N (fun j => (if o ≤ j ∧ j < o + l.length then Gal.co l (j - o) else f j).toNat)
  | [], o, w, f, h, _ => h.congr (fun j _ => by rw [if_neg (by simp)])
  | x :: l, o, w, f, h, hN => by
    have hl : (x :: l).length = l.length + 1 := rfl
    have h1 := h.set (g := fun j => ((fun j => if j = o then x.toBitVec else f j) j).toNat) o x.toNat (by omega) (by simp) (fun j _ hj => by simp [hj])
    have := nums_cells l (o + 1) _ _ h1 (by omega)
    refine NumsK.congr this (fun j hj => ?_)
    congr 1
    by_cases e1 : o + 1 ≤ j ∧ j < o + 1 + l.length
    · rw [if_pos e1, if_pos (by omega), show j - o = (j - (o + 1)) + 1 by omega]
      rfl
    · rw [if_neg e1]
      by_cases e2 : j = o
      · subst e2
        rw [if_pos rfl, if_pos (by omega), Nat.sub_self]
        rfl
      · rw [if_neg e2, if_neg (by omega)]
set_option maxRecDepth 100000 in
theorem eval_any (p : ByteArray) (x : BitVec 8) (hp : p.size ≤ 1000000) (w : World) :
    Calls Tryz.prog 90 #[.string p, .int .u8 (x.toNat : Nat)] w fun e w' => e = .returned (.int .u8 ((Gal.evalV p.data.toList x).toNat : Nat)) ∧ Below w.heap.size w w' := by
  obtain ⟨n, hn⟩ : ∃ n, p.size = n := ⟨_, rfl⟩
  have ev : Gal.evalV p.data.toList x = Gal.horner (Gal.co p.data.toList) x 0 n := by
    unfold Gal.evalV
    rw [ls, hn, Gal.horner_all]
  rw [ev]
  rw [hn] at hp
  have FL := Lib.hid (fun w => filled_any w)
  have HN := Lib.hid hn
  clear ev
  go_enter Tryz.func90, Tryz.ntmps90
  go_wp2_with fail
  (with_reducible refine (FL.out _).mono ?_)
  rintro e w1 ⟨rfl, hB⟩
  have HB := Lib.hid hB
  clear hB
  go_wp2_with (refine wpList_store_row rfl 86 (.tmp 5) (.tmp 9) rfl w1.heap.size tabs rfl rfl _ _ (new_tabs w1) iTabs tabs_size (arrK_one _ _ _) ?_)
  have TT := withTab_tabs w1
  have BB := bt HB.out (withTab_below w1)
  obtain ⟨w2, hw2⟩ : ∃ w2, ((w1.alloc (.cells Tryz.zeroCells86 86)).setRow w1.heap.size tabs) = w2 := ⟨_, rfl⟩
  rw [hw2] at TT BB ⊢
  have T2 := Lib.hid TT
  have B2 := Lib.hid BB
  obtain ⟨tb, htb⟩ : ∃ tb, w1.heap.size = tb := ⟨_, rfl⟩
  rw [htb] at T2 ⊢
  clear TT BB hw2 htb HB FL hn
  go_loopw [7, 15] (fun v i wr => ∃ k : Nat, k ≤ n ∧ i = .int .i64 k ∧ v = .int .u8 ((Gal.horner (Gal.co p.data.toList) x (n - k) k).toNat : Nat) ∧ Tabs wr tb Gal.tab ∧ Below w.heap.size w wr) (fun _ i _ => n - (intOf i).toNat)
  case atStart => exact ⟨0, Nat.zero_le _, rfl, rfl, T2.out, B2.out⟩
  case round =>
    obtain ⟨k, hk, rfl, rfl, hT, hB⟩ := hrel
    by_cases hlt : k < n
    · have HT := Lib.hid hT
      have HB := Lib.hid hB
      obtain ⟨j, hj⟩ : ∃ j, n - 1 - k = j := ⟨_, rfl⟩
      have S := Lib.hid (show Gal.horner (Gal.co p.data.toList) x (n - (k + 1)) (k + 1) = Gal.mul x (Gal.horner (Gal.co p.data.toList) x (n - k) k) ^^^ Gal.co p.data.toList j by
        rw [show n - (k + 1) = j by omega, show n - k = j + 1 by omega]
        rfl)
      obtain ⟨v, hv⟩ : ∃ v, Gal.horner (Gal.co p.data.toList) x (n - k) k = v := ⟨_, rfl⟩
      rw [hv] at S ⊢
      clear hT hB hv T2 B2
      go_upto_region 7 with fail
      refine evalRegion tb k j n x v p HN.out hp hlt (by rw [HN.out]; omega) (by omega) (by rw [IntKind.wrap_i64]; omega) (by rw [IntKind.wrap_i64]; omega) HT.out (by kernel_rfl) rfl rfl rfl rfl rfl rfl rfl rfl rfl rfl rfl rfl rfl rfl rfl rfl rfl rfl ?_
      intro w3 B3
      simp only [Act.put, List.setIfInBounds_toArray, List.set_cons_succ, List.set_cons_zero]
      have HT3 := Lib.hid (HT.out.below B3)
      have HB3 := Lib.hid (bt HB.out B3)
      rw [← S.out]
      clear B3 HT HB
      obtain ⟨y1, hy1⟩ : ∃ y, (Gal.horner (Gal.co p.data.toList) x (n - (k + 1)) (k + 1)).toNat = y := ⟨_, rfl⟩
      rw [hy1]
      have HY := Lib.hid hy1
      clear hy1
      go_wp2_with fail
      go_roundw
      case rel => exact ⟨k + 1, by omega, by go_num, by rw [HY.out], HT3.out, HB3.out⟩
      case measure => simp [intOf]; omega
    · obtain rfl : k = n := by omega
      have HB := Lib.hid hB
      rw [Nat.sub_self]
      clear hT hB T2 B2
      go_wp2_with fail
      go_ret
      exact ⟨rfl, HB.out⟩
end Go.Proofs.YtlpjhmafplljaaaGreatDoor
/- The contracts of galois' Product and Quotient over this program. -/
namespace Go.Proofs.YtlpjhmafplljaaaGreatDoor
open Go.RowKit
set_option linter.unusedVariables false

set_option maxRecDepth 100000 in
theorem prod_any (p q : ByteArray) (hp : p.size ≤ 400000) (hq : q.size ≤ 400000) (w : World) :
    Calls Tryz.prog 65 #[.string p, .string q] w fun e w' => e = .returned (.tuple #[.string ⟨(Gal.prodV p.data.toList q.data.toList).toArray⟩, .int .i64 (Gal.prodE p.data.toList q.data.toList)]) ∧ Below w.heap.size w w' := by
  have D1 := Lib.hid (fun w => degree_any p (by omega) w)
  have D2 := Lib.hid (fun w => degree_any q (by omega) w)
  have l1 := Gal.nn_le p.data.toList
  have l2 := Gal.nn_le q.data.toList
  rw [ls] at l1 l2
  obtain ⟨a, ha⟩ : ∃ a, Gal.nn p.data.toList = a := ⟨_, rfl⟩
  obtain ⟨b, hb⟩ : ∃ b, Gal.nn q.data.toList = b := ⟨_, rfl⟩
  rw [ha] at D1
  rw [hb] at D2
  by_cases h : 1024 ≤ ((a : Int) - 1) + ((b : Int) - 1)
  · have e1 : Gal.prodV p.data.toList q.data.toList = [] := by unfold Gal.prodV; rw [ha, hb, if_pos h]
    have e2 : Gal.prodE p.data.toList q.data.toList = 3 := by unfold Gal.prodE; rw [ha, hb, if_pos h]
    rw [e1, e2]
    have t1 : decide ((1024 : Int) ≤ ((a : Int) - 1) + ((b : Int) - 1)) = true := decide_eq_true h
    have a2 : a ≤ 400000 := by omega
    have b2 : b ≤ 400000 := by omega
    have B := Lib.hid (Below.refl w.heap.size w)
    clear e1 e2 ha hb l1 l2 hp hq
    go_enter Tryz.func65, Tryz.ntmps65
    go_wp2_with fail
    (with_reducible refine (D1.out _).mono ?_)
    rintro e w' ⟨rfl, rfl⟩
    go_wp2_with fail
    (with_reducible refine (D2.out _).mono ?_)
    rintro e w' ⟨rfl, rfl⟩
    go_wp2_with fail
    go_ret2
    exact ⟨rfl, B.out⟩
  · have e1 : Gal.prodV p.data.toList q.data.toList = Gal.pol (Gal.conv a (Gal.co (Gal.trim p.data.toList)) (Gal.co (Gal.trim q.data.toList))) (a + b) := by
      unfold Gal.prodV
      rw [ha, hb, if_neg h, ← Gal.prod_trim, Gal.trim_length, Gal.trim_length, ha, hb]
      unfold Gal.prd
      rw [Gal.trim_length, ha]
    have e2 : Gal.prodE p.data.toList q.data.toList = 0 := by unfold Gal.prodE; rw [ha, hb, if_neg h]
    rw [e1, e2]
    have t1 : decide ((1024 : Int) ≤ ((a : Int) - 1) + ((b : Int) - 1)) = false := decide_eq_false h
    have T1 := Lib.hid (fun w => trimmed_any p (by omega) w)
    have T2 := Lib.hid (fun w => trimmed_any q (by omega) w)
    have s1 := trim_size p.data.toList
    have s2 := trim_size q.data.toList
    rw [ha] at s1
    rw [hb] at s2
    obtain ⟨P', hP⟩ : ∃ P', (⟨(Gal.trim p.data.toList).toArray⟩ : ByteArray) = P' := ⟨_, rfl⟩
    obtain ⟨Q', hQ⟩ : ∃ Q', (⟨(Gal.trim q.data.toList).toArray⟩ : ByteArray) = Q' := ⟨_, rfl⟩
    rw [show Gal.trim p.data.toList = P'.data.toList by rw [← hP], show Gal.trim q.data.toList = Q'.data.toList by rw [← hQ]]
    rw [hP] at T1 s1
    rw [hQ] at T2 s2
    obtain ⟨N, hN⟩ : ∃ N, a + b = N := ⟨_, rfl⟩
    rw [hN]
    have hN1 : a + b ≤ N := by omega
    have hN2 : N ≤ a + b := by omega
    have N3 : N ≤ 1000000 := by omega
    have sm : (a : Int) + (b : Int) = (N : Int) := by omega
    have TR := Lib.hid (trimmedB (Gal.conv a (Gal.co P'.data.toList) (Gal.co Q'.data.toList)) N N3)
    have FL := Lib.hid (fun w => filled_any w)
    obtain ⟨i0, hi, hz0, hz1, hz2⟩ := info_parts info_u8
    have S1 := Lib.hid s1
    have S2 := Lib.hid s2
    have a2 : a ≤ 400000 := by omega
    have b2 : b ≤ 400000 := by omega
    clear e1 e2 ha hb l1 l2 hp hq h hP hQ hN
    go_enter Tryz.func65, Tryz.ntmps65
    go_wp2_with fail
    (with_reducible refine (D1.out _).mono ?_)
    rintro e w' ⟨rfl, rfl⟩
    go_wp2_with fail
    (with_reducible refine (D2.out _).mono ?_)
    rintro e w' ⟨rfl, rfl⟩
    go_wp2_with fail
    (with_reducible refine (T1.out _).mono ?_)
    rintro e w' ⟨rfl, rfl⟩
    go_wp2_with fail
    (with_reducible refine (T2.out _).mono ?_)
    rintro e w' ⟨rfl, rfl⟩
    go_wp2_with (at_make; refine wpList_make_full _ rfl _ _ 41 rfl w.heap.size 5 i0 (.int .u8 0) 1 Tryz.underlying41 hi hz0 hz1 .i64 .i64 _ _ N rfl rfl (by first | rfl | omega) (by first | rfl | omega) (by rw [hz2]; omega) (by unfold maxLen; omega) (Nat.le_refl _) ?_; intro w2 hown hgrow)
    have hnu := madeNums hown
    have hb2 : Below w.heap.size w w2 := (Below.refl _ _).grown hgrow (Nat.le_refl _) (fun k e => by cases e)
    have N1 := Lib.hid hnu
    have B1 := Lib.hid hb2
    clear hown hgrow hnu hb2 hi hz0 hz1 hz2 t1 D1 D2 T1 T2
    go_wp2_with fail
    (with_reducible refine (FL.out _).mono ?_)
    rintro e w1 ⟨rfl, hB⟩
    have HB := Lib.hid hB
    clear hB
    go_wp2_with (refine wpList_store_row rfl 86 (.tmp 7) (.tmp 25) rfl w1.heap.size tabs rfl rfl _ _ (new_tabs w1) iTabs tabs_size (arrK_one _ _ _) ?_)
    have TT := withTab_tabs w1
    have N4 := (N1.out.below HB.out).below (withTab_below w1)
    have BB := bt (bt B1.out HB.out) (withTab_below w1)
    have lt : w.heap.size < w1.heap.size := Nat.lt_of_lt_of_le N1.out.1 HB.out.size
    obtain ⟨w3, hw3⟩ : ∃ w3, ((w1.alloc (.cells Tryz.zeroCells86 86)).setRow w1.heap.size tabs) = w3 := ⟨_, rfl⟩
    rw [hw3] at TT BB N4 ⊢
    have HT := Lib.hid TT
    have HB4 := Lib.hid BB
    have HN4 := Lib.hid N4
    obtain ⟨tb, htb⟩ : ∃ tb, w1.heap.size = tb := ⟨_, rfl⟩
    rw [htb] at HT lt ⊢
    clear TT BB N4 hw3 htb HB FL N1 B1
    clear s1 s2
    have s1 := S1.out
    have s2 := S2.out
    go_wp2_with fail
    clear s1 s2
    go_loopw [28] (fun i wr => ∃ k : Nat, k ≤ a ∧ i = .int .i64 k ∧ NumsK .u8 wr w.heap.size N (fun j => (Gal.conv k (Gal.co P'.data.toList) (Gal.co Q'.data.toList) j).toNat) ∧ Tabs wr tb Gal.tab ∧ Below w.heap.size w wr) (fun i _ => a - (intOf i).toNat)
    case atStart => exact ⟨0, Nat.zero_le _, rfl, HN4.out, HT.out, HB4.out⟩
    case round =>
      obtain ⟨k, hk, rfl, hF, hT, hB⟩ := hrel
      by_cases hlt : k < a
      · have NF := Lib.hid hF
        have NT := Lib.hid hT
        have NB := Lib.hid hB
        have R := fun w' (BW : Below wr.heap.size wr w') => (add_any w.heap.size k (N - k) (N - k) N tb (Gal.co P'.data.toList k) Q' (Gal.conv k (Gal.co P'.data.toList) (Gal.co Q'.data.toList)) w' (by rw [S2.out]; omega) (by omega) (by omega) (by omega) (NF.out.below BW) (NT.out.below BW)).mono fun e w2 ⟨he, hA⟩ =>
          (show e = Ending.returned (Value.tuple #[]) ∧ (NumsK .u8 w2 w.heap.size N (fun j => (Gal.conv (k + 1) (Gal.co P'.data.toList) (Gal.co Q'.data.toList) j).toNat) ∧ Tabs w2 tb Gal.tab ∧ Below w.heap.size w w2) from
            ⟨he, hA.1, hA.2.row (NT.out.below BW) (by omega), (bt NB.out BW).trans hA.2.below⟩)
        have HR := Lib.hid R
        have kp : k < P'.size := by rw [S1.out]; exact hlt
        clear hF hT hB R HN4 HT HB4
        go_upto_region 9 with fail
        refine prodRegion w.heap.size tb k N P' Q' (fun w2 => NumsK .u8 w2 w.heap.size N (fun j => (Gal.conv (k + 1) (Gal.co P'.data.toList) (Gal.co Q'.data.toList) j).toNat) ∧ Tabs w2 tb Gal.tab ∧ Below w.heap.size w w2) kp (by omega) (by omega) HR.out (by kernel_rfl) rfl rfl rfl rfl rfl rfl rfl rfl rfl rfl rfl rfl rfl rfl rfl rfl rfl ?_
        intro w4 R4
        simp only [Act.put, List.setIfInBounds_toArray, List.set_cons_succ, List.set_cons_zero]
        have Q4 := Lib.hid R4
        obtain ⟨y1, hy1⟩ : ∃ y, (Gal.co P'.data.toList k).toNat = y := ⟨_, rfl⟩
        clear R4 HR NF NT NB
        go_wp2_with fail
        go_roundw
        case rel => exact ⟨k + 1, by omega, by go_num, Q4.out.1, Q4.out.2.1, Q4.out.2.2⟩
        case measure => simp [intOf]; omega
      · obtain rfl : k = a := by omega
        have cv := nums_back N hF
        have CV := Lib.hid cv
        have NB := Lib.hid hB
        clear hF hT hB cv HN4 HT HB4
        go_wp2_with (simp only [CV.out])
        (with_reducible refine (TR.out _).mono ?_)
        rintro e w4 ⟨rfl, B4⟩
        have HB5 := Lib.hid (bt NB.out B4)
        clear B4
        go_wp2_with fail
        go_ret2
        exact ⟨rfl, HB5.out⟩
end Go.Proofs.YtlpjhmafplljaaaGreatDoor
/- The contract of galois' Quotient over this program. -/
namespace Go.Proofs.YtlpjhmafplljaaaGreatDoor
open Go.RowKit
set_option linter.unusedVariables false

namespace Gal
theorem quot_trim (p q : List UInt8) (hq : nn q ≠ 0) :
    quotV p q = coefs (quo (co (trim p)) (co (trim q)) (nn p - (nn q - 1)) (nn q - 1) (inv (co (trim q) (nn q - 1)))) (nn p - (nn q - 1)) ∧
    restV p q = pol (left (co (trim p)) (co (trim q)) (nn p - (nn q - 1)) (nn q - 1) (inv (co (trim q) (nn q - 1))) (nn p - (nn q - 1))) (nn p) := by
  have h := quot_congr (p := p) (q := q) (p' := trim p) (q' := trim q) (fun i => (co_trim p i).symm) (fun i => (co_trim q i).symm)
  have h2 : nn (trim q) ≠ 0 := by rw [nn_trim]; exact hq
  refine ⟨?_, ?_⟩
  · rw [h.2.1]
    unfold quotV
    rw [if_neg h2]
    unfold quoF vv rounds
    rw [nn_trim, nn_trim]
  · rw [h.2.2]
    unfold restV
    rw [if_neg h2]
    unfold remF vv rounds
    rw [nn_trim, nn_trim]
theorem quo_at {f g : Nat → BitVec 8} {m top : Nat} {v : BitVec 8} {k : Nat} (h : k < m) : quo f g m top v (m - 1 - k) = mul (left f g m top v k (m - 1 - k + top)) v := by
  unfold quo
  rw [if_pos (by omega), show m - 1 - (m - 1 - k) = k by omega]
end Gal

set_option maxRecDepth 100000 in
theorem quot_any (p q : ByteArray) (hp : p.size ≤ 400000) (hq : q.size ≤ 400000) (w : World) :
    Calls Tryz.prog 38 #[.string p, .string q] w fun e w' => e = .returned (.tuple #[.string ⟨(Gal.quotV p.data.toList q.data.toList).toArray⟩, .string ⟨(Gal.restV p.data.toList q.data.toList).toArray⟩, .int .i64 (Gal.quotE q.data.toList)]) ∧ Below w.heap.size w w' := by
  have T1 := Lib.hid (fun w => trimmed_any p (by omega) w)
  have T2 := Lib.hid (fun w => trimmed_any q (by omega) w)
  have l1 := Gal.nn_le p.data.toList
  have l2 := Gal.nn_le q.data.toList
  rw [ls] at l1 l2
  have s1 := trim_size p.data.toList
  have s2 := trim_size q.data.toList
  by_cases h : Gal.nn q.data.toList = 0
  · rw [show Gal.quotV p.data.toList q.data.toList = [] from if_pos h, show Gal.restV p.data.toList q.data.toList = [] from if_pos h, show Gal.quotE q.data.toList = 2 from if_pos h]
    rw [h] at s2
    rw [is_empty s2] at T2
    have B := Lib.hid (Below.refl w.heap.size w)
    clear s1 s2 l1 l2 h hp hq
    go_enter Tryz.func38, Tryz.ntmps38
    go_wp2_with fail
    (with_reducible refine (T1.out _).mono ?_)
    rintro e w' ⟨rfl, rfl⟩
    go_wp2_with fail
    (with_reducible refine (T2.out _).mono ?_)
    rintro e w' ⟨rfl, rfl⟩
    go_wp2_with fail
    go_ret3
    exact ⟨rfl, B.out⟩
  · obtain ⟨e1, e2⟩ := Gal.quot_trim p.data.toList q.data.toList h
    rw [show Gal.quotE q.data.toList = 0 from if_neg h, e1, e2]
    obtain ⟨a, ha⟩ : ∃ a, Gal.nn p.data.toList = a := ⟨_, rfl⟩
    obtain ⟨b, hb⟩ : ∃ b, Gal.nn q.data.toList = b := ⟨_, rfl⟩
    rw [ha] at s1 l1 ⊢
    rw [hb] at s2 l2 h ⊢
    obtain ⟨top, htop⟩ : ∃ top, b - 1 = top := ⟨_, rfl⟩
    rw [htop]
    obtain ⟨m, hm⟩ : ∃ m, a - top = m := ⟨_, rfl⟩
    rw [hm]
    obtain ⟨P', hP⟩ : ∃ P', (⟨(Gal.trim p.data.toList).toArray⟩ : ByteArray) = P' := ⟨_, rfl⟩
    obtain ⟨Q', hQ⟩ : ∃ Q', (⟨(Gal.trim q.data.toList).toArray⟩ : ByteArray) = Q' := ⟨_, rfl⟩
    rw [show Gal.trim p.data.toList = P'.data.toList by rw [← hP], show Gal.trim q.data.toList = Q'.data.toList by rw [← hQ]]
    rw [hP] at T1 s1
    rw [hQ] at T2 s2
    have IV := Lib.hid (fun b w T => inverse_any b (Gal.co Q'.data.toList top) w T)
    have tQ : top < Q'.size := by omega
    have bq := byte_co Q' top tQ
    obtain ⟨v, hv⟩ : ∃ v, Gal.inv (Gal.co Q'.data.toList top) = v := ⟨_, rfl⟩
    rw [hv] at IV
    rw [hv]
    obtain ⟨y, hy⟩ : ∃ y, (Gal.co Q'.data.toList top).toNat = y := ⟨_, rfl⟩
    rw [hy] at IV bq
    have b1 : 1 ≤ b := by omega
    have bt1 : (b : Int) - 1 = (top : Int) := by omega
    have am : max ((a : Int) - (top : Int)) 0 = (m : Int) := by omega
    have h1 : top + 1 ≤ b := by omega
    have h2 : b ≤ top + 1 := by omega
    have h3 : m ≤ a - top := by omega
    have h4 : a - top ≤ m := by omega
    have a2 : a ≤ 400000 := by omega
    have b2 : b ≤ 400000 := by omega
    have q1 := empty_no (s := Q') (by omega)
    have q2 := beq_empty (s := Q') (by omega)
    have S1 := Lib.hid s1
    have S2 := Lib.hid s2
    have FL := Lib.hid (fun w => filled_any w)
    obtain ⟨i0, hi, hz0, hz1, hz2⟩ := info_parts info_u8
    clear e1 e2 hP hQ ha hb htop hm hy hv l1 l2 hp hq h s1 s2
    go_enter Tryz.func38, Tryz.ntmps38
    go_wp2_with fail
    (with_reducible refine (T1.out _).mono ?_)
    rintro e w' ⟨rfl, rfl⟩
    go_wp2_with fail
    (with_reducible refine (T2.out _).mono ?_)
    rintro e w' ⟨rfl, rfl⟩
    have s2 := S2.out
    go_wp2_with fail
    clear s2
    (with_reducible refine (FL.out _).mono ?_)
    rintro e w1 ⟨rfl, hB⟩
    have HB := Lib.hid hB
    clear hB T1 T2
    go_wp2_with (refine wpList_store_row rfl 86 (.tmp 8) (.tmp 23) rfl w1.heap.size tabs rfl rfl _ _ (new_tabs w1) iTabs tabs_size (arrK_one _ _ _) ?_)
    have TT := withTab_tabs w1
    have BB := bt HB.out (withTab_below w1)
    have lt : w.heap.size ≤ w1.heap.size := HB.out.size
    obtain ⟨w3, hw3⟩ : ∃ w3, ((w1.alloc (.cells Tryz.zeroCells86 86)).setRow w1.heap.size tabs) = w3 := ⟨_, rfl⟩
    rw [hw3] at TT BB ⊢
    obtain ⟨tb, htb⟩ : ∃ tb, w1.heap.size = tb := ⟨_, rfl⟩
    rw [htb] at TT lt ⊢
    have HT := Lib.hid TT
    have HB4 := Lib.hid BB
    clear TT BB hw3 htb HB FL
    (with_reducible refine (IV.out _ _ HT.out).mono ?_)
    rintro e w' ⟨rfl, rfl⟩
    have c1 := run_bytes_of_string (P := Tryz.prog) w3 9 41 5 P' Tryz.underlying9 Tryz.underlying41 Tryz.underlying5
    have hcap0 := grownCap_ge w3 P'.size 0 5
    obtain ⟨C, hcap⟩ : ∃ C, grownCap w3 P'.size 0 5 = C := ⟨_, rfl⟩
    rw [hcap] at c1 hcap0
    rw [S1.out] at c1 hcap0
    have H1 := nums_new P' C 5 w3.drew
    rw [S1.out] at H1
    have HT2 : Tabs w3.drew tb Gal.tab := HT.out
    have T5 := HT2.alloc (.cells (bytesRow P' C) 5 ((bytesRow P' C).size, (bytesRow P' C).size + 1))
    have B5 := ba HB4.out.drew (.cells (bytesRow P' C) 5 ((bytesRow P' C).size, (bytesRow P' C).size + 1))
    obtain ⟨w4, hw4⟩ : ∃ w4, w3.drew.alloc (.cells (bytesRow P' C) 5 ((bytesRow P' C).size, (bytesRow P' C).size + 1)) = w4 := ⟨_, rfl⟩
    rw [hw4] at c1 H1 T5 B5
    have lb0 : tb < w3.heap.size := HT.out.lt
    obtain ⟨lb, hlb⟩ : ∃ lb, w3.heap.size = lb := ⟨_, rfl⟩
    rw [show w3.drew.heap.size = lb from hlb] at H1
    rw [hlb] at c1 lb0
    have C1 := Lib.hid c1
    have HL := Lib.hid H1
    have HT5 := Lib.hid T5
    have HB5 := Lib.hid B5
    clear hcap c1 H1 HT2 T5 B5 hw4 hlb HT HB4 IV
    have s1 := S1.out
    go_wp2_with (first
      | (simp only [C1.out])
      | (at_make; refine wpList_make_full _ rfl _ _ 41 rfl w4.heap.size 5 i0 (.int .u8 0) 1 Tryz.underlying41 hi hz0 hz1 .i64 .i64 _ _ m rfl rfl (by first | rfl | omega) (by first | rfl | omega) (by rw [hz2]; omega) (by unfold maxLen; omega) (Nat.le_refl _) ?_; intro w5 hown hgrow))
    clear s1
    have hnu := madeNums hown
    have hb5 : Below w4.heap.size w4 w5 := (Below.refl _ _).grown hgrow (Nat.le_refl _) (fun k e => by cases e)
    have cb0 : lb < w4.heap.size := HL.out.1
    obtain ⟨cb, hcb⟩ : ∃ cb, w4.heap.size = cb := ⟨_, rfl⟩
    have HL2 := Lib.hid (HL.out.below hb5)
    have HT6 := Lib.hid (HT5.out.below hb5)
    have HB6 := Lib.hid (bt HB5.out hb5)
    rw [hcb] at hnu cb0 ⊢
    have HC := Lib.hid hnu
    clear hown hgrow hnu hb5 hcb HL HT5 HB5 C1 hi hz0 hz1 hz2
    go_loopw [38] (fun i wr => ∃ k : Nat, k ≤ m ∧ i = .int .i64 k ∧ NumsK .u8 wr lb a (fun j => (Gal.left (Gal.co P'.data.toList) (Gal.co Q'.data.toList) m top v k j).toNat) ∧ NumsK .u8 wr cb m (fun j => if m - k ≤ j then (Gal.quo (Gal.co P'.data.toList) (Gal.co Q'.data.toList) m top v j).toNat else 0) ∧ Tabs wr tb Gal.tab ∧ Below w.heap.size w wr) (fun i _ => m - (intOf i).toNat)
    case atStart => exact ⟨0, Nat.zero_le _, rfl, HL2.out, HC.out.congr (fun j hj => by rw [if_neg (by omega)]), HT6.out, HB6.out⟩
    case round =>
      obtain ⟨k, hk, rfl, hL, hC, hT, hB⟩ := hrel
      by_cases hlt : k < m
      · obtain ⟨i, hi⟩ : ∃ i, m - 1 - k = i := ⟨_, rfl⟩
        obtain ⟨j, hj⟩ : ∃ j, i + top = j := ⟨_, rfl⟩
        have qa := Gal.quo_at (f := Gal.co P'.data.toList) (g := Gal.co Q'.data.toList) (top := top) (v := v) hlt
        rw [hi, hj] at qa
        have i1 : (m : Int) - 1 - (k : Int) = (i : Int) := by omega
        have i2 : IntKind.i64.wrap ((m : Int) - 1) = (m : Int) - 1 := by rw [IntKind.wrap_i64]; omega
        have j1 : (i : Int) + (top : Int) = (j : Int) := by omega
        have ja : j < a := by omega
        have im : i < m := by omega
        have ja2 : (j : Int) < (a : Int) := by omega
        have im2 : (i : Int) < (m : Int) := by omega
        have c1 := hL.cell ja
        have c2 := hC.cell im
        have f2 := hC.frozen im
        obtain ⟨x, hx⟩ : ∃ x, Gal.left (Gal.co P'.data.toList) (Gal.co Q'.data.toList) m top v k j = x := ⟨_, rfl⟩
        obtain ⟨c, hc⟩ : ∃ c, Gal.quo (Gal.co P'.data.toList) (Gal.co Q'.data.toList) m top v i = c := ⟨_, rfl⟩
        rw [hx, hc] at qa
        rw [hx] at c1
        have PR := Lib.hid (product_any tb x v wr hT)
        rw [← qa] at PR
        have NL := Lib.hid hL
        have NC := Lib.hid (hC.set (g := fun j => if m - (k + 1) ≤ j then (Gal.quo (Gal.co P'.data.toList) (Gal.co Q'.data.toList) m top v j).toNat else 0) i c.toNat im (by rw [if_pos (by omega), hc]) (fun j hj hjk => by
          by_cases e : m - k ≤ j
          · rw [if_pos e, if_pos (by omega)]
          · rw [if_neg e, if_neg (by omega)]))
        have NT := Lib.hid hT
        have NB := Lib.hid hB
        have HC2 := Lib.hid hc
        have LS := Lib.hid (fun j' => (show Gal.left (Gal.co P'.data.toList) (Gal.co Q'.data.toList) m top v (k + 1) j' = Gal.left (Gal.co P'.data.toList) (Gal.co Q'.data.toList) m top v k j' ^^^ Gal.mul c (Gal.sh i (Gal.co Q'.data.toList) j') by
          rw [qa, ← hx, ← hj, ← hi]
          rfl))
        obtain ⟨xn, hxn⟩ : ∃ xn, x.toNat = xn := ⟨_, rfl⟩
        obtain ⟨vn, hvn⟩ : ∃ vn, v.toNat = vn := ⟨_, rfl⟩
        obtain ⟨cn, hcn⟩ : ∃ cn, c.toNat = cn := ⟨_, rfl⟩
        rw [hxn] at c1
        rw [hxn, hvn, hcn] at PR
        rw [hcn] at NC
        rw [hvn]
        have HCN := Lib.hid hcn
        clear hL hC hT hB qa hx hc hi hj hxn hcn hvn HL2 HC HT6 HB6
        go_wp2_with fail
        (with_reducible refine PR.out.mono ?_)
        rintro e w6 ⟨rfl, n, rfl⟩
        have NC2 : NumsK .u8 ((wr.drewN n).setCell ⟨cb, i, none⟩ (.int .u8 (cn : Nat))) cb m (fun j => if m - (k + 1) ≤ j then (Gal.quo (Gal.co P'.data.toList) (Gal.co Q'.data.toList) m top v j).toNat else 0) := NC.out
        have NL0 : NumsK .u8 (wr.drewN n) lb a (fun j => (Gal.left (Gal.co P'.data.toList) (Gal.co Q'.data.toList) m top v k j).toNat) := NL.out
        have NL2 : NumsK .u8 ((wr.drewN n).setCell ⟨cb, i, none⟩ (.int .u8 (cn : Nat))) lb a (fun j => (Gal.left (Gal.co P'.data.toList) (Gal.co Q'.data.toList) m top v k j).toNat) := NL0.setOther (by omega) _
        have NT2 : Tabs ((wr.drewN n).setCell ⟨cb, i, none⟩ (.int .u8 (cn : Nat))) tb Gal.tab := (NT.out.drewN n).setOther (by omega) _
        have NB2 : Below w.heap.size w ((wr.drewN n).setCell ⟨cb, i, none⟩ (.int .u8 (cn : Nat))) := (below_drewN NB.out n).setCell (p := ⟨cb, i, none⟩) (by show w.heap.size ≤ cb; omega) _
        have GC := Lib.hid NC2
        have GL := Lib.hid NL2
        have GT := Lib.hid NT2
        have GB := Lib.hid NB2
        clear NC2 NL0 NL2 NT2 NB2 PR
        go_upto_region 14 with fail
        obtain ⟨w7, hw7⟩ : ∃ w7, (wr.drewN n).setCell ⟨cb, i, none⟩ (.int .u8 (cn : Nat)) = w7 := ⟨_, rfl⟩
        rw [hw7] at GC GL GT GB ⊢
        have R := fun w' (BW : Below w7.heap.size w7 w') => (add_any lb i (a - i) (C - i) a tb c Q' (Gal.left (Gal.co P'.data.toList) (Gal.co Q'.data.toList) m top v k) w' (by rw [S2.out]; omega) (by omega) (by omega) (by omega) (GL.out.below BW) (GT.out.below BW)).mono fun e w2 ⟨he, hA⟩ =>
          (show e = Ending.returned (Value.tuple #[]) ∧ (NumsK .u8 w2 lb a (fun j => (Gal.left (Gal.co P'.data.toList) (Gal.co Q'.data.toList) m top v (k + 1) j).toNat) ∧ NumsK .u8 w2 cb m (fun j => if m - (k + 1) ≤ j then (Gal.quo (Gal.co P'.data.toList) (Gal.co Q'.data.toList) m top v j).toNat else 0) ∧ Tabs w2 tb Gal.tab ∧ Below w.heap.size w w2) from
            ⟨he, hA.1.congr (fun j hj => by rw [LS.out]), (GC.out.below BW).but hA.2 (by omega), hA.2.row (GT.out.below BW) (by omega), (bt GB.out BW).trans (hA.2.below.mono (by omega))⟩)
        have HR := Lib.hid R
        clear R hw7
        refine quotRegion lb cb tb i a C m c Q' (fun w2 => NumsK .u8 w2 lb a (fun j => (Gal.left (Gal.co P'.data.toList) (Gal.co Q'.data.toList) m top v (k + 1) j).toNat) ∧ NumsK .u8 w2 cb m (fun j => if m - (k + 1) ≤ j then (Gal.quo (Gal.co P'.data.toList) (Gal.co Q'.data.toList) m top v j).toNat else 0) ∧ Tabs w2 tb Gal.tab ∧ Below w.heap.size w w2) (by omega) hcap0 (by omega) im (by omega) _ (by rw [if_pos (by omega), HC2.out]) GC.out HR.out (by kernel_rfl) rfl rfl rfl rfl rfl rfl rfl rfl rfl rfl rfl rfl rfl rfl rfl rfl rfl rfl ?_
        intro w8 R8
        simp only [Act.put, List.setIfInBounds_toArray, List.set_cons_succ, List.set_cons_zero]
        have Q8 := Lib.hid R8
        clear R8 HR NL NC NT NB GC GL GT GB LS HC2
        go_wp2_with fail
        go_roundw
        case rel => exact ⟨k + 1, by omega, by go_num, Q8.out.1, Q8.out.2.1, Q8.out.2.2.1, Q8.out.2.2.2⟩
        case measure => simp [intOf]; omega
      · obtain rfl : k = m := by omega
        have NL := Lib.hid hL
        have NC := Lib.hid (hC.congr (g := fun j => (Gal.quo (Gal.co P'.data.toList) (Gal.co Q'.data.toList) k top v j).toNat) (fun j hj => by rw [if_pos (by omega)]))
        have NB := Lib.hid hB
        clear hL hC hT hB HL2 HC HT6 HB6
        go_upto_region 16 with fail
        refine quotEnd lb cb a C k k (Gal.left (Gal.co P'.data.toList) (Gal.co Q'.data.toList) k top v k) (Gal.quo (Gal.co P'.data.toList) (Gal.co Q'.data.toList) k top v) (by omega) (by omega) NL.out NC.out (by kernel_rfl) rfl rfl rfl rfl rfl rfl rfl rfl rfl rfl rfl rfl ?_
        intro w9 B9
        simp only [Act.put, List.setIfInBounds_toArray, List.set_cons_succ, List.set_cons_zero]
        have HB9 := Lib.hid (bt NB.out B9)
        clear B9 NL NC NB
        go_wp2_with fail
        go_ret3
        exact ⟨rfl, HB9.out⟩
end Go.Proofs.YtlpjhmafplljaaaGreatDoor
