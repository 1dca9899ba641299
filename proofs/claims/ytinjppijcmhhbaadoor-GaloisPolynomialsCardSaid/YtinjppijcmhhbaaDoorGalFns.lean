/- The contracts of galois' Sum, Derived, Eval over this program. -/
import Derived.Test.YtinjppijcmhhbaaDoorGalAdd
import Derived.Lib.LazyBuf
namespace Go.Proofs.YtinjppijcmhhbaaDoor
open Go.RowKit
set_option linter.unusedVariables false

theorem info_u8 : (Tryd.prog.info? 5).map (fun i => (i.zero, i.size, i.bytes)) = some (some (.int .u8 0), 1, 1) := by kernel_rfl
theorem size_u8 (w : World) : (Go.sizeOf 5).run Tryd.prog w = .ok 1 w := by kernel_rfl
theorem nums_cells {b N : Nat} : ∀ (l : List UInt8) (o : Nat) (w : World) (f : Nat → BitVec 8), NumsK .u8 w b N (fun j => (f j).toNat) → o + l.length ≤ N →
    NumsK .u8 (w.setCells b o (l.map fun x => Value.int .u8 (x.toNat : Int))) b N (fun j => (if o ≤ j ∧ j < o + l.length then Gal.co l (j - o) else f j).toNat)
  | [], o, w, f, h, _ => h.congr (fun j _ => by rw [if_neg (by simp)])
  | x :: l, o, w, f, h, hN => by
    have hl : (x :: l).length = l.length + 1 := rfl
    have h1 := h.set (g := fun j => ((fun j => if j = o then x.toBitVec else f j) j).toNat) o x.toNat (by omega) (by simp) (fun j _ hj => by simp [hj])
    have := nums_cells l (o + 1) _ _ h1 (by omega)
    refine NumsK.congr this (fun j hj => ?_)
    congr 1
    by_cases e1 : o + 1 ≤ j ∧ j < o + 1 + l.length
    · rw [if_pos e1, if_pos (by omega), show j - o = (j - (o + 1)) + 1 by omega]
      rfl
    · rw [if_neg e1]
      by_cases e2 : j = o
      · subst e2
        rw [if_pos rfl, if_pos (by omega), Nat.sub_self]
        rfl
      · rw [if_neg e2, if_neg (by omega)]
set_option maxRecDepth 100000 in
theorem sum_any (p q : ByteArray) (hp : p.size ≤ 1000000) (hq : q.size ≤ 1000000) (w : World) :
    Calls Tryd.prog 24 #[.string p, .string q] w fun e w' => e = .returned (.string ⟨(Gal.sumV p.data.toList q.data.toList).toArray⟩) ∧ Below w.heap.size w w' := by
  obtain ⟨m, hm⟩ : ∃ m, p.size = m := ⟨_, rfl⟩
  obtain ⟨n, hn⟩ : ∃ n, q.size = n := ⟨_, rfl⟩
  obtain ⟨N, hN⟩ : ∃ N, max m n = N := ⟨_, rfl⟩
  have ev : Gal.sumV p.data.toList q.data.toList = Gal.pol (Gal.sumF p.data.toList q.data.toList) N := by
    unfold Gal.sumV
    rw [ls, ls, hm, hn, hN]
  rw [ev]
  rw [hm] at hp
  rw [hn] at hq
  have hmx : max (m : Int) (n : Int) = (N : Int) := by omega
  have mN : m ≤ N := by omega
  have nN : n ≤ N := by omega
  have N2 : N ≤ 1000000 := by omega
  obtain ⟨i0, hi, hz0, hz1, hz2⟩ := info_parts info_u8
  have TR := Lib.hid (fun w => trimmed_any (⟨(Gal.coefs (Gal.sumF p.data.toList q.data.toList) N).toArray⟩ : ByteArray) (by rw [coefs_size]; exact N2) w)
  rw [pol_str] at TR
  have HM := Lib.hid hm
  have HNq := Lib.hid hn
  clear ev hN
  go_enter Tryd.func24, Tryd.ntmps24
  go_wp2_with (at_make; refine wpList_make_full _ rfl _ _ 43 rfl w.heap.size 5 i0 (.int .u8 0) 1 Tryd.underlying43 hi hz0 hz1 .i64 .i64 _ _ N rfl rfl (by first | rfl | omega) (by first | rfl | omega) (by rw [hz2]; omega) (by unfold maxLen; omega) (Nat.le_refl _) ?_; intro w2 hown hgrow)
  have hnu := madeNums hown
  have hb2 : Below w.heap.size w w2 := (Below.refl _ _).grown hgrow (Nat.le_refl _) (fun k e => by cases e)
  have N0 : NumsK .u8 w2 w.heap.size N (fun j => ((fun _ => 0#8) j).toNat) := hnu
  have cp := run_copy_string (P := Tryd.prog) w2 43 9 3 5 w.heap.size 0 N N p Tryd.underlying43 size_u8 (by omega) (fun j hj => by rw [Nat.zero_add, N0.cell (by omega)]; rfl) (fun j hj => by rw [Nat.zero_add]; exact N0.frozen (by omega))
  have N1 := nums_cells p.data.toList 0 w2 (fun _ => 0#8) N0 (by rw [ls]; omega)
  have B1 := below_setCells (Nat.le_refl w.heap.size) (p.data.toList.map fun x => Value.int .u8 (x.toNat : Int)) 0 w2 hb2
  obtain ⟨w3, hw3⟩ : ∃ w3, w2.setCells w.heap.size 0 (p.data.toList.map fun x => Value.int .u8 (x.toNat : Int)) = w3 := ⟨_, rfl⟩
  rw [hw3] at cp N1 B1
  rw [hm] at cp
  have CP := Lib.hid cp
  have HN1 := Lib.hid N1
  have HB1 := Lib.hid B1
  clear hown hgrow hnu hb2 N0 cp N1 B1 hw3 hi hz0 hz1 hz2 hm
  go_wp2_with (simp only [CP.out])
  clear CP hn
  go_loopw [18] (fun i wr => ∃ k : Nat, k ≤ n ∧ i = .int .i64 k ∧ NumsK .u8 wr w.heap.size N (fun j => (Gal.co p.data.toList j ^^^ (if j < k then Gal.co q.data.toList j else 0#8)).toNat) ∧ Below w.heap.size w wr) (fun i _ => n - (intOf i).toNat)
  case atStart =>
    refine ⟨0, Nat.zero_le _, rfl, HN1.out.congr (fun j hj => ?_), HB1.out⟩
    rw [if_neg (show ¬ j < 0 by omega), BitVec.xor_zero]
    congr 1
    by_cases e : j < p.data.toList.length
    · rw [if_pos (by omega), Nat.sub_zero]
    · rw [if_neg (by omega), Gal.co_out (by omega)]
  case round =>
    obtain ⟨k, hk, rfl, hF, hB⟩ := hrel
    by_cases hlt : k < n
    · have NF := Lib.hid hF
      have NB := Lib.hid hB
      have kq : k < q.size := by rw [HNq.out]; exact hlt
      clear hF hB
      go_upto_region 6 with fail
      refine sumRegion w.heap.size k N q (fun j => Gal.co p.data.toList j ^^^ (if j < k then Gal.co q.data.toList j else 0#8)) kq (by omega) NF.out (by kernel_rfl) rfl rfl rfl rfl rfl rfl rfl rfl rfl rfl rfl rfl rfl rfl rfl ?_
      intro w1 B1
      simp only [Act.put, List.setIfInBounds_toArray, List.set_cons_succ, List.set_cons_zero]
      obtain ⟨v, hv⟩ : ∃ v, ((Gal.co p.data.toList k ^^^ (if k < k then Gal.co q.data.toList k else 0#8)) ^^^ Gal.co q.data.toList k).toNat = v := ⟨_, rfl⟩
      have N1 := Lib.hid ((NF.out.below B1).set (g := fun j => (Gal.co p.data.toList j ^^^ (if j < k + 1 then Gal.co q.data.toList j else 0#8)).toNat) k v (by omega) (by
        rw [← hv]
        rw [if_pos (by omega), if_neg (by omega), BitVec.xor_zero]) (fun j hj hjk => by
        by_cases e : j < k
        · rw [if_pos e, if_pos (by omega)]
        · rw [if_neg e, if_neg (by omega)]))
      have N3 := Lib.hid ((bt NB.out B1).setCell (p := ⟨w.heap.size, k, none⟩) (Nat.le_refl _) (.int .u8 (v : Nat)))
      rw [hv]
      obtain ⟨w6, hw6⟩ : ∃ w6, w1.setCell ⟨w.heap.size, k, none⟩ (.int .u8 (v : Nat)) = w6 := ⟨_, rfl⟩
      rw [hw6] at N1 N3 ⊢
      clear hw6 B1 NF NB hv
      obtain ⟨y1, hy1⟩ : ∃ y, (Gal.co q.data.toList k).toNat = y := ⟨_, rfl⟩
      obtain ⟨y2, hy2⟩ : ∃ y, (Gal.co p.data.toList k ^^^ (if k < k then Gal.co q.data.toList k else 0#8)).toNat = y := ⟨_, rfl⟩
      rw [hy1, hy2]
      clear hy1 hy2
      go_wp2_with fail
      go_roundw
      case rel => exact ⟨k + 1, by omega, by go_num, N1.out, N3.out⟩
      case measure => simp [intOf]; omega
    · obtain rfl : k = n := by omega
      have cv := nums_back N (hF.congr (g := fun j => (Gal.sumF p.data.toList q.data.toList j).toNat) (fun j hj => by
        unfold Gal.sumF
        by_cases e : j < k
        · rw [if_pos e]
        · rw [if_neg e, Gal.co_out (l := q.data.toList) (by rw [ls, HNq.out]; omega)]))
      have CV := Lib.hid cv
      have HB := Lib.hid hB
      clear hF hB cv
      go_wp2_with (simp only [CV.out])
      (with_reducible refine (TR.out _).mono ?_)
      rintro e w' ⟨rfl, rfl⟩
      go_wp2_with fail
      go_ret
      exact ⟨rfl, HB.out⟩
set_option maxRecDepth 100000 in
theorem derived_any (p : ByteArray) (hp : p.size ≤ 1000000) (w : World) :
    Calls Tryd.prog 26 #[.string p] w fun e w' => e = .returned (.string ⟨(Gal.derV p.data.toList).toArray⟩) ∧ Below w.heap.size w w' := by
  obtain ⟨m, hm⟩ : ∃ m, p.size = m := ⟨_, rfl⟩
  obtain ⟨N, hN⟩ : ∃ N, m - 1 = N := ⟨_, rfl⟩
  have ev : Gal.derV p.data.toList = Gal.pol (Gal.der (Gal.co p.data.toList)) N := by
    unfold Gal.derV
    rw [ls, hm, hN]
  rw [ev]
  rw [hm] at hp
  have hmx : max ((m : Int) - 1) 0 = (N : Int) := by omega
  have N2 : N ≤ 1000000 := by omega
  obtain ⟨i0, hi, hz0, hz1, hz2⟩ := info_parts info_u8
  have TR := Lib.hid (fun w => trimmed_any (⟨(Gal.coefs (Gal.der (Gal.co p.data.toList)) N).toArray⟩ : ByteArray) (by rw [coefs_size]; exact N2) w)
  rw [pol_str] at TR
  have HM := Lib.hid hm
  have HBY := Lib.hid (fun i h => byte_co p i h)
  have hN2 : N ≤ m - 1 := by omega
  have hN3 : m - 1 ≤ N := by omega
  clear ev hN
  go_enter Tryd.func26, Tryd.ntmps26
  go_wp2_with (at_make; refine wpList_make_full _ rfl _ _ 43 rfl w.heap.size 5 i0 (.int .u8 0) 1 Tryd.underlying43 hi hz0 hz1 .i64 .i64 _ _ N rfl rfl (by first | rfl | omega) (by first | rfl | omega) (by rw [hz2]; omega) (by unfold maxLen; omega) (Nat.le_refl _) ?_; intro w2 hown hgrow)
  have hnu := madeNums hown
  have hb2 : Below w.heap.size w w2 := (Below.refl _ _).grown hgrow (Nat.le_refl _) (fun k e => by cases e)
  have HN1 := Lib.hid hnu
  have HB1 := Lib.hid hb2
  clear hown hgrow hnu hb2 hi hz0 hz1 hz2 hmx
  go_wp2_with fail
  go_loopw [12] (fun i wr => ∃ k : Nat, k ≤ N ∧ i = .int .i64 k ∧ NumsK .u8 wr w.heap.size N (fun j => if j < k then (Gal.der (Gal.co p.data.toList) j).toNat else 0) ∧ Below w.heap.size w wr) (fun i _ => N - (intOf i).toNat)
  case atStart => exact ⟨0, Nat.zero_le _, rfl, HN1.out, HB1.out⟩
  case round =>
    obtain ⟨k, hk, rfl, hF, hB⟩ := hrel
    by_cases hlt : k < N
    · obtain ⟨j, hj⟩ : ∃ j, k + 1 = j := ⟨_, rfl⟩
      have jp : j < p.size := by rw [HM.out]; omega
      have bj := HBY.out j jp
      have ij : (k : Int) + 1 = (j : Int) := by omega
      have ij2 : IntKind.i64.wrap ((k : Int) + 1) = (j : Int) := by rw [ij, IntKind.wrap_i64]; omega
      have t2 : (k : Int).tmod 2 = ((k % 2 : Nat) : Int) := by rw [Int.tmod_eq_emod_of_nonneg (by omega)]; omega
      have cl := hF.cell hlt
      have fz := hF.frozen hlt
      have NN := fun v (hv : (Gal.der (Gal.co p.data.toList) k).toNat = v) => hF.set (g := fun j => if j < k + 1 then (Gal.der (Gal.co p.data.toList) j).toNat else 0) k v hlt (by rw [if_pos (by omega)]; exact hv) (fun j hj hjk => by
        by_cases e : j < k
        · rw [if_pos e, if_pos (by omega)]
        · rw [if_neg e, if_neg (by omega)])
      have NS := fun (hv : (Gal.der (Gal.co p.data.toList) k).toNat = 0) => hF.congr (g := fun j => if j < k + 1 then (Gal.der (Gal.co p.data.toList) j).toNat else 0) (fun j hj => by
        by_cases e : j < k
        · rw [if_pos e, if_pos (by omega)]
        · rw [if_neg e]
          by_cases e2 : j = k
          · subst e2; rw [if_pos (by omega), hv]
          · rw [if_neg (by omega)])
      have HB := Lib.hid hB
      obtain ⟨t, ht⟩ : ∃ t, k % 2 = t := ⟨_, rfl⟩
      rw [ht] at t2
      have t3 : (k : Int) % 2 = (t : Int) := by omega
      by_cases g : t = 0
      · subst g
        have dv : (Gal.der (Gal.co p.data.toList) k).toNat = (Gal.co p.data.toList j).toNat := by
          unfold Gal.der
          rw [if_pos ht, hj]
        obtain ⟨v, hv⟩ : ∃ v, (Gal.co p.data.toList j).toNat = v := ⟨_, rfl⟩
        rw [hv] at bj dv
        have N1 := Lib.hid (NN v dv)
        have B1 := Lib.hid (hB.setCell (p := ⟨w.heap.size, k, none⟩) (Nat.le_refl _) (.int .u8 (v : Nat)))
        clear NN NS hF hB hv dv ht hj HM HBY HN1 HB1
        go_wp2_with fail
        go_roundw
        case rel => exact ⟨k + 1, by omega, by go_num, N1.out, B1.out⟩
        case measure => simp [intOf]; omega
      · have t1 : t = 1 := by omega
        subst t1
        have dv : (Gal.der (Gal.co p.data.toList) k).toNat = 0 := by
          unfold Gal.der
          rw [if_neg (by omega)]
          rfl
        have N1 := Lib.hid (NS dv)
        have B1 := Lib.hid hB
        clear NN NS hF hB dv ht hj HM HBY HN1 HB1
        go_wp2_with fail
        go_roundw
        case rel => exact ⟨k + 1, by omega, by go_num, N1.out, B1.out⟩
        case measure => simp [intOf]; omega
    · obtain rfl : k = N := by omega
      have cv := nums_back k (hF.congr (g := fun j => (Gal.der (Gal.co p.data.toList) j).toNat) (fun j hj => by rw [if_pos hj]))
      have CV := Lib.hid cv
      have HB := Lib.hid hB
      clear hF hB cv HM HBY HN1 HB1
      go_wp2_with (simp only [CV.out])
      (with_reducible refine (TR.out _).mono ?_)
      rintro e w' ⟨rfl, rfl⟩
      go_wp2_with fail
      go_ret
      exact ⟨rfl, HB.out⟩
set_option maxRecDepth 100000 in
theorem eval_any (p : ByteArray) (x : BitVec 8) (hp : p.size ≤ 1000000) (w : World) :
    Calls Tryd.prog 28 #[.string p, .int .u8 (x.toNat : Nat)] w fun e w' => e = .returned (.int .u8 ((Gal.evalV p.data.toList x).toNat : Nat)) ∧ Below w.heap.size w w' := by
  obtain ⟨n, hn⟩ : ∃ n, p.size = n := ⟨_, rfl⟩
  have ev : Gal.evalV p.data.toList x = Gal.horner (Gal.co p.data.toList) x 0 n := by
    unfold Gal.evalV
    rw [ls, hn, Gal.horner_all]
  rw [ev]
  rw [hn] at hp
  have FL := Lib.hid (fun w => filled_any w)
  have HN := Lib.hid hn
  clear ev
  go_enter Tryd.func28, Tryd.ntmps28
  go_wp2_with fail
  (with_reducible refine (FL.out _).mono ?_)
  rintro e w1 ⟨rfl, hB⟩
  have HB := Lib.hid hB
  clear hB
  go_wp2_with (refine wpList_store_row rfl 48 (.tmp 5) (.tmp 9) rfl w1.heap.size tabs rfl rfl _ _ (new_tabs w1) iTabs tabs_size (arrK_one _ _ _) ?_)
  have TT := withTab_tabs w1
  have BB := bt HB.out (withTab_below w1)
  obtain ⟨w2, hw2⟩ : ∃ w2, ((w1.alloc (.cells Tryd.zeroCells48 48)).setRow w1.heap.size tabs) = w2 := ⟨_, rfl⟩
  rw [hw2] at TT BB ⊢
  have T2 := Lib.hid TT
  have B2 := Lib.hid BB
  obtain ⟨tb, htb⟩ : ∃ tb, w1.heap.size = tb := ⟨_, rfl⟩
  rw [htb] at T2 ⊢
  clear TT BB hw2 htb HB FL hn
  go_loopw [7, 15] (fun v i wr => ∃ k : Nat, k ≤ n ∧ i = .int .i64 k ∧ v = .int .u8 ((Gal.horner (Gal.co p.data.toList) x (n - k) k).toNat : Nat) ∧ Tabs wr tb Gal.tab ∧ Below w.heap.size w wr) (fun _ i _ => n - (intOf i).toNat)
  case atStart => exact ⟨0, Nat.zero_le _, rfl, rfl, T2.out, B2.out⟩
  case round =>
    obtain ⟨k, hk, rfl, rfl, hT, hB⟩ := hrel
    by_cases hlt : k < n
    · have HT := Lib.hid hT
      have HB := Lib.hid hB
      obtain ⟨j, hj⟩ : ∃ j, n - 1 - k = j := ⟨_, rfl⟩
      have S := Lib.hid (show Gal.horner (Gal.co p.data.toList) x (n - (k + 1)) (k + 1) = Gal.mul x (Gal.horner (Gal.co p.data.toList) x (n - k) k) ^^^ Gal.co p.data.toList j by
        rw [show n - (k + 1) = j by omega, show n - k = j + 1 by omega]
        rfl)
      obtain ⟨v, hv⟩ : ∃ v, Gal.horner (Gal.co p.data.toList) x (n - k) k = v := ⟨_, rfl⟩
      rw [hv] at S ⊢
      clear hT hB hv T2 B2
      go_upto_region 7 with fail
      refine evalRegion tb k j n x v p HN.out hp hlt (by rw [HN.out]; omega) (by omega) (by rw [IntKind.wrap_i64]; omega) (by rw [IntKind.wrap_i64]; omega) HT.out (by kernel_rfl) rfl rfl rfl rfl rfl rfl rfl rfl rfl rfl rfl rfl rfl rfl rfl rfl rfl rfl ?_
      intro w3 B3
      simp only [Act.put, List.setIfInBounds_toArray, List.set_cons_succ, List.set_cons_zero]
      have HT3 := Lib.hid (HT.out.below B3)
      have HB3 := Lib.hid (bt HB.out B3)
      rw [← S.out]
      clear B3 HT HB
      obtain ⟨y1, hy1⟩ : ∃ y, (Gal.horner (Gal.co p.data.toList) x (n - (k + 1)) (k + 1)).toNat = y := ⟨_, rfl⟩
      rw [hy1]
      have HY := Lib.hid hy1
      clear hy1
      go_wp2_with fail
      go_roundw
      case rel => exact ⟨k + 1, by omega, by go_num, by rw [HY.out], HT3.out, HB3.out⟩
      case measure => simp [intOf]; omega
    · obtain rfl : k = n := by omega
      have HB := Lib.hid hB
      rw [Nat.sub_self]
      clear hT hB T2 B2
      go_wp2_with fail
      go_ret
      exact ⟨rfl, HB.out⟩
end Go.Proofs.YtinjppijcmhhbaaDoor
