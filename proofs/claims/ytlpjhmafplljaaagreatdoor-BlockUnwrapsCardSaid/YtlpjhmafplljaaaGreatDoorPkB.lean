/- GalRFns, GalRProd, GalRQuot as one text. -/
import Derived.Test.YtlpjhmafplljaaaGreatDoorGalRReg
import Derived.Test.YtlpjhmafplljaaaGreatDoorPkA
import Derived.RangeFuncBox
/- The contracts of perigeeref04's at, Sum, Derived, Eval over this program. -/
namespace Go.Proofs.YtlpjhmafplljaaaGreatDoor
open Go.RowKit
set_option linter.unusedVariables false

def slen : Value → Nat
  | .slice _ n _ => n
  | _ => 0
theorem own_slen {w : World} {base e n : Nat} {v : Value} {xs : List Value} (h : w.ownsRow base e 1 v n xs) : slen v = n := by
  rcases h.2 with ⟨rfl, rfl⟩ | ⟨_, _, _, rfl, _⟩ <;> rfl
theorem own_block_ge {w : World} {base e size n g : Nat} {v : Value} {xs : List Value} (h : w.ownsRow base e size v n xs) (hg : v.ownBlock = some g) : base ≤ g := by
  rcases h.2 with ⟨rfl, _⟩ | ⟨g', c, _, rfl, hb, _⟩
  · cases hg
  · cases hg; exact hb
theorem cell_new_l (w : World) (v : Value) (t : TypeId) : (w.alloc (.cells #[v] t)).cell? ⟨w.heap.size, 0, none⟩ = some v ∧ (w.alloc (.cells #[v] t)).frozen? ⟨w.heap.size, 0, none⟩ = false := by
  constructor <;> go_simp
theorem cell_one {w : World} {v : Value} {t : TypeId} : ∀ j u, [v][j]? = some u → (w.alloc (.cells #[v] t)).cell? ((⟨w.heap.size, 0, none⟩ : Addr).add j) = some u := by
  intro j u hu
  have hj : j < 1 := by
    have := (List.getElem?_eq_some_iff.1 hu).1
    simpa using this
  obtain rfl : j = 0 := by omega
  have e : (⟨w.heap.size, 0, none⟩ : Addr).add 0 = ⟨w.heap.size, 0, none⟩ := by unfold Addr.add; split <;> simp_all
  rw [e]
  have := (cell_new_l w v t).1
  simp at hu
  subst hu
  exact this
/-- So many bytes as values. -/
def vals (f : Nat → BitVec 8) (n : Nat) : List Value := (List.range n).map (fun j => .int .u8 ((f j).toNat : Nat))
theorem vals_succ (f : Nat → BitVec 8) (n : Nat) : vals f (n + 1) = vals f n ++ [.int .u8 ((f n).toNat : Nat)] := by simp [vals, List.range_succ]
/-- A string made of a []byte that was appended to. -/
theorem own_back {w : World} {base : Nat} {v : Value} {n : Nat} {f : Nat → BitVec 8} (h : w.ownsRow base 5 1 v n (vals f n)) : (convert 41 9 v).run Tryz.prog w = .ok (.string ⟨(Gal.coefs f n).toArray⟩) w := by
  rcases h.2 with ⟨rfl, rfl⟩ | ⟨g, cap, cur, rfl, hb, hg, hnc, hm, hsz, ht⟩
  · rw [run_convert_bytes_string w 41 9 5 none 0 0 Tryz.underlying41 Tryz.underlying5 Tryz.underlying9]
    rfl
  · have hl := Gal.coefs_length f n
    have := run_convert_bytes_back (P := Tryz.prog) w 41 9 5 ⟨g, 0, none⟩ cap (Gal.coefs f n) Tryz.underlying41 Tryz.underlying5 Tryz.underlying9 (fun j hj => by
      have e : (⟨g, 0, none⟩ : Addr).add j = ⟨g, j, none⟩ := by unfold Addr.add; split <;> simp_all
      rw [hl] at hj
      have e1 : w.cell? ⟨g, j, none⟩ = cur[j]? := by
        unfold World.cell?
        rw [hg]
        simp
      have e2 : (cur.toList.take (n * 1))[j]? = cur[j]? := by
        rw [List.getElem?_take_of_lt (by omega)]
        simp
      rw [e, e1, ← e2, ht]
      simp [Gal.coefs, vals, hj])
    rwa [hl] at this
set_option maxRecDepth 100000 in
theorem reval_any (p : ByteArray) (x : BitVec 8) (hp : p.size ≤ 400000) (w : World) :
    Calls Tryz.prog 32 #[.string p, .int .u8 (x.toNat : Nat)] w fun e w' => e = .returned (.int .u8 ((Gal.evalV p.data.toList x).toNat : Nat)) ∧ w = w' := by
  obtain ⟨n, hn⟩ : ∃ n, p.size = n := ⟨_, rfl⟩
  have ev : Gal.evalV p.data.toList x = Gal.evl (Gal.co p.data.toList) x n := by
    unfold Gal.evalV
    rw [ls, hn]
  rw [ev]
  rw [hn] at hp
  have RM := Lib.hid (fun a b w => rmul_any a b w)
  have HN := Lib.hid hn
  have HBY := Lib.hid (fun i h => byte_co p i h)
  obtain ⟨X, hX⟩ : ∃ X, x.toNat = X := ⟨_, rfl⟩
  rw [hX]
  have HX := Lib.hid hX
  clear ev hX
  go_enter Tryz.func32, Tryz.ntmps32
  go_wp2_with fail
  go_loop [5, 6, 7] (fun o v i => ∃ k : Nat, k ≤ n ∧ i = .int .i64 k ∧ o = .int .u8 ((Gal.evl (Gal.co p.data.toList) x k).toNat : Nat) ∧ v = .int .u8 ((Gal.pown x k).toNat : Nat)) (fun _ _ i => n - (intOf i).toNat)
  case atStart => exact ⟨0, Nat.zero_le _, rfl, rfl, rfl⟩
  case round =>
    obtain ⟨k, hk, rfl, rfl, rfl⟩ := hrel
    by_cases hlt : k < n
    · have kp : k < p.size := by rw [HN.out]; exact hlt
      have bk := HBY.out k kp
      have C1 := Lib.hid (RM.out (Gal.co p.data.toList k) (Gal.pown x k))
      have C2 := Lib.hid (RM.out (Gal.pown x k) x)
      rw [show Gal.mul (Gal.pown x k) x = Gal.pown x (k + 1) from rfl, HX.out] at C2
      have x1 := xor8 (Gal.evl (Gal.co p.data.toList) x k) (Gal.mul (Gal.co p.data.toList k) (Gal.pown x k))
      rw [show Gal.evl (Gal.co p.data.toList) x k ^^^ Gal.mul (Gal.co p.data.toList k) (Gal.pown x k) = Gal.evl (Gal.co p.data.toList) x (k + 1) from rfl] at x1
      obtain ⟨y1, hy1⟩ : ∃ y, (Gal.co p.data.toList k).toNat = y := ⟨_, rfl⟩
      obtain ⟨y2, hy2⟩ : ∃ y, (Gal.pown x k).toNat = y := ⟨_, rfl⟩
      obtain ⟨y3, hy3⟩ : ∃ y, (Gal.mul (Gal.co p.data.toList k) (Gal.pown x k)).toNat = y := ⟨_, rfl⟩
      obtain ⟨y4, hy4⟩ : ∃ y, (Gal.evl (Gal.co p.data.toList) x k).toNat = y := ⟨_, rfl⟩
      obtain ⟨y5, hy5⟩ : ∃ y, (Gal.evl (Gal.co p.data.toList) x (k + 1)).toNat = y := ⟨_, rfl⟩
      obtain ⟨y6, hy6⟩ : ∃ y, (Gal.pown x (k + 1)).toNat = y := ⟨_, rfl⟩
      rw [hy1, hy2, hy3] at C1
      rw [hy2, hy6] at C2
      rw [hy3, hy4, hy5] at x1
      rw [hy1] at bk
      rw [hy4, hy2]
      have H5 := Lib.hid hy5
      have H6 := Lib.hid hy6
      clear hy1 hy2 hy3 hy4 hy5 hy6 RM HBY
      go_wp2_with fail
      (with_reducible refine (C1.out _).mono ?_)
      rintro e w' ⟨rfl, rfl⟩
      go_wp2_with fail
      (with_reducible refine (C2.out _).mono ?_)
      rintro e w' ⟨rfl, rfl⟩
      go_wp2_with fail
      go_round
      case rel => exact ⟨k + 1, by omega, by go_num, by rw [H5.out], by rw [H6.out]⟩
      case measure => simp [intOf]; omega
    · obtain rfl : k = n := by omega
      clear RM HBY
      go_wp2_with fail
      go_ret
      exact ⟨rfl, rfl⟩
end Go.Proofs.YtlpjhmafplljaaaGreatDoor
/- The contracts of perigeeref04's times, Product, Quotient over this program. -/
namespace Go.Proofs.YtlpjhmafplljaaaGreatDoor
open Go.RowKit
set_option linter.unusedVariables false

set_option maxRecDepth 100000 in
theorem rtimes_any (p q : ByteArray) (hp : p.size ≤ 400000) (hq : q.size ≤ 400000) (w : World) :
    Calls Tryz.prog 67 #[.string p, .string q] w fun e w' => e = .returned (.string ⟨(Gal.pol (Gal.prd p.data.toList q.data.toList) (p.data.toList.length + q.data.toList.length)).toArray⟩) ∧ Below w.heap.size w w' := by
  obtain ⟨a, ha⟩ : ∃ m, p.size = m := ⟨_, rfl⟩
  obtain ⟨b, hb⟩ : ∃ n, q.size = n := ⟨_, rfl⟩
  obtain ⟨N, hN⟩ : ∃ N, a + b = N := ⟨_, rfl⟩
  have ev : Gal.pol (Gal.prd p.data.toList q.data.toList) (p.data.toList.length + q.data.toList.length) = Gal.pol (Gal.conv a (Gal.co p.data.toList) (Gal.co q.data.toList)) N := by
    rw [ls, ls, ha, hb, hN]
    congr 1
    funext k
    unfold Gal.prd
    rw [ls, ha]
  rw [ev]
  rw [ha] at hp
  rw [hb] at hq
  have hN1 : a + b ≤ N := by omega
  have hN2 : N ≤ a + b := by omega
  have N3 : N ≤ 1000000 := by omega
  have sm : (a : Int) + (b : Int) = (N : Int) := by omega
  have TR := Lib.hid (rtrimB (Gal.conv a (Gal.co p.data.toList) (Gal.co q.data.toList)) N N3)
  obtain ⟨i0, hi, hz0, hz1, hz2⟩ := info_parts info_u8
  have SA := Lib.hid ha
  have SB := Lib.hid hb
  clear ev hN
  go_enter Tryz.func67, Tryz.ntmps67
  go_wp2_with (at_make; refine wpList_make_full _ rfl _ _ 41 rfl w.heap.size 5 i0 (.int .u8 0) 1 Tryz.underlying41 hi hz0 hz1 .i64 .i64 _ _ N rfl rfl (by first | rfl | omega) (by first | rfl | omega) (by rw [hz2]; omega) (by unfold maxLen; omega) (Nat.le_refl _) ?_; intro w2 hown hgrow)
  have hnu := madeNums hown
  have hb2 : Below w.heap.size w w2 := (Below.refl _ _).grown hgrow (Nat.le_refl _) (fun k e => by cases e)
  have N1 := Lib.hid hnu
  have B1 := Lib.hid hb2
  clear hown hgrow hnu hb2 hi hz0 hz1 hz2
  go_loopw [6] (fun i wr => ∃ k : Nat, k ≤ a ∧ i = .int .i64 k ∧ NumsK .u8 wr w.heap.size N (fun j => (Gal.conv k (Gal.co p.data.toList) (Gal.co q.data.toList) j).toNat) ∧ Below w.heap.size w wr) (fun i _ => a - (intOf i).toNat)
  case atStart => exact ⟨0, Nat.zero_le _, rfl, N1.out, B1.out⟩
  case round =>
    obtain ⟨i, hi, rfl, hF, hB⟩ := hrel
    by_cases hlt : i < a
    · have NF := Lib.hid hF
      have NB := Lib.hid hB
      have ip : i < p.size := by rw [SA.out]; exact hlt
      clear hF hB N1 B1
      go_wp2_with fail
      go_loopw [7] (fun y wr => ∃ k : Nat, k ≤ b ∧ y = .int .i64 k ∧ NumsK .u8 wr w.heap.size N (fun j => (rowF (Gal.conv i (Gal.co p.data.toList) (Gal.co q.data.toList)) (Gal.co p.data.toList i) (Gal.co q.data.toList) i k j).toNat) ∧ Below w.heap.size w wr) (fun y _ => b - (intOf y).toNat)
      case atStart => exact ⟨0, Nat.zero_le _, rfl, NF.out.congr (fun j hj => by rw [rowF_zero]), NB.out⟩
      case round =>
        obtain ⟨k, hk, rfl, hF, hB⟩ := hrel
        by_cases hlt2 : k < b
        · have GF := Lib.hid hF
          have GB := Lib.hid hB
          have kq : k < q.size := by rw [SB.out]; exact hlt2
          clear hF hB NF NB
          go_upto_region 8 with fail
          refine timesRegion w.heap.size i k (i + k) N p q (rowF (Gal.conv i (Gal.co p.data.toList) (Gal.co q.data.toList)) (Gal.co p.data.toList i) (Gal.co q.data.toList) i k) ip kq (by omega) (by omega) (by omega) GF.out (by kernel_rfl) rfl rfl rfl rfl rfl rfl rfl rfl rfl rfl rfl rfl rfl rfl rfl rfl rfl rfl rfl rfl rfl rfl rfl rfl rfl rfl rfl ?_
          intro w3 B3
          simp only [Act.put, List.setIfInBounds_toArray, List.set_cons_succ, List.set_cons_zero]
          rw [rowF_at]
          obtain ⟨v, hv⟩ : ∃ v, (Gal.conv i (Gal.co p.data.toList) (Gal.co q.data.toList) (i + k) ^^^ Gal.mul (Gal.co p.data.toList i) (Gal.co q.data.toList k)).toNat = v := ⟨_, rfl⟩
          have N4 := Lib.hid ((GF.out.below B3).set (g := fun j => (rowF (Gal.conv i (Gal.co p.data.toList) (Gal.co q.data.toList)) (Gal.co p.data.toList i) (Gal.co q.data.toList) i (k + 1) j).toNat) (i + k) v (by omega) (by show (rowF _ _ _ _ _ _).toNat = _; rw [rowF_new]; exact hv) (fun j hj hjk => by show (rowF _ _ _ _ _ _).toNat = (rowF _ _ _ _ _ _).toNat; rw [rowF_other _ _ _ _ _ _ hjk]))
          have B4 := Lib.hid ((bt GB.out B3).setCell (p := ⟨w.heap.size, i + k, none⟩) (Nat.le_refl _) (.int .u8 (v : Nat)))
          rw [hv]
          obtain ⟨w6, hw6⟩ : ∃ w6, w3.setCell ⟨w.heap.size, i + k, none⟩ (.int .u8 (v : Nat)) = w6 := ⟨_, rfl⟩
          rw [hw6] at N4 B4 ⊢
          obtain ⟨y1, hy1⟩ : ∃ y, (Gal.co q.data.toList k).toNat = y := ⟨_, rfl⟩
          obtain ⟨y2, hy2⟩ : ∃ y, (Gal.co p.data.toList i).toNat = y := ⟨_, rfl⟩
          obtain ⟨y3, hy3⟩ : ∃ y, (Gal.mul (Gal.co p.data.toList i) (Gal.co q.data.toList k)).toNat = y := ⟨_, rfl⟩
          obtain ⟨y4, hy4⟩ : ∃ y, (Gal.conv i (Gal.co p.data.toList) (Gal.co q.data.toList) (i + k)).toNat = y := ⟨_, rfl⟩
          rw [hy1, hy2, hy3, hy4]
          clear hw6 B3 GF GB hv hy1 hy2 hy3 hy4
          go_wp2_with fail
          go_roundw
          case rel => exact ⟨k + 1, by omega, by go_num, N4.out, B4.out⟩
          case measure => simp [intOf]; omega
        · obtain rfl : k = b := by omega
          have N5 := Lib.hid (show NumsK .u8 _ w.heap.size N (fun j => (Gal.conv (i + 1) (Gal.co p.data.toList) (Gal.co q.data.toList) j).toNat) from hF.congr (fun j hj => by rw [rowF_all _ _ _ _ _ _ (fun i hi => Gal.co_out (by rw [ls, SB.out]; exact hi))]; rfl))
          have B5 := Lib.hid hB
          clear hF hB NF NB
          go_wp2_with fail
          go_roundw
          case rel => exact ⟨i + 1, by omega, by go_num, N5.out, B5.out⟩
          case measure => simp [intOf]; omega
    · obtain rfl : i = a := by omega
      have CV := Lib.hid (nums_back N hF)
      have NB := Lib.hid hB
      clear hF hB N1 B1
      go_wp2_with (simp only [CV.out])
      (with_reducible refine (TR.out _).mono ?_)
      rintro e w4 ⟨rfl, B4⟩
      have HB5 := Lib.hid (bt NB.out B4)
      clear B4
      go_wp2_with fail
      go_ret
      exact ⟨rfl, HB5.out⟩
set_option maxRecDepth 100000 in
theorem rprod_any (p q : ByteArray) (hp : p.size ≤ 400000) (hq : q.size ≤ 400000) (w : World) :
    Calls Tryz.prog 46 #[.string p, .string q] w fun e w' => e = .returned (.tuple #[.string ⟨(Gal.prodV p.data.toList q.data.toList).toArray⟩, .int .i64 (Gal.prodE p.data.toList q.data.toList)]) ∧ Below w.heap.size w w' := by
  have l1 := Gal.nn_le p.data.toList
  have l2 := Gal.nn_le q.data.toList
  rw [ls] at l1 l2
  have T1 := Lib.hid (fun w => rtrim_any p (by omega) w)
  have T2 := Lib.hid (fun w => rtrim_any q (by omega) w)
  have s1 := trim_size p.data.toList
  have s2 := trim_size q.data.toList
  have D1 := Lib.hid (fun w => rdegree_any (⟨(Gal.trim p.data.toList).toArray⟩ : ByteArray) (by omega) w)
  have D2 := Lib.hid (fun w => rdegree_any (⟨(Gal.trim q.data.toList).toArray⟩ : ByteArray) (by omega) w)
  have TT := Lib.hid (fun w => rtimes_any (⟨(Gal.trim p.data.toList).toArray⟩ : ByteArray) (⟨(Gal.trim q.data.toList).toArray⟩ : ByteArray) (by omega) (by omega) w)
  rw [show (⟨(Gal.trim p.data.toList).toArray⟩ : ByteArray).data.toList = Gal.trim p.data.toList from rfl, Gal.nn_trim] at D1
  rw [show (⟨(Gal.trim q.data.toList).toArray⟩ : ByteArray).data.toList = Gal.trim q.data.toList from rfl, Gal.nn_trim] at D2
  rw [show (⟨(Gal.trim p.data.toList).toArray⟩ : ByteArray).data.toList = Gal.trim p.data.toList from rfl, show (⟨(Gal.trim q.data.toList).toArray⟩ : ByteArray).data.toList = Gal.trim q.data.toList from rfl, Gal.prod_trim] at TT
  obtain ⟨a, ha⟩ : ∃ a, Gal.nn p.data.toList = a := ⟨_, rfl⟩
  obtain ⟨b, hb⟩ : ∃ b, Gal.nn q.data.toList = b := ⟨_, rfl⟩
  rw [ha] at D1
  rw [hb] at D2
  obtain ⟨P', hP⟩ : ∃ P', (⟨(Gal.trim p.data.toList).toArray⟩ : ByteArray) = P' := ⟨_, rfl⟩
  obtain ⟨Q', hQ⟩ : ∃ Q', (⟨(Gal.trim q.data.toList).toArray⟩ : ByteArray) = Q' := ⟨_, rfl⟩
  rw [hP] at T1 D1 TT
  rw [hQ] at T2 D2 TT
  have a2 : a ≤ 400000 := by omega
  have b2 : b ≤ 400000 := by omega
  by_cases h : 1024 ≤ ((a : Int) - 1) + ((b : Int) - 1)
  · have e1 : Gal.prodV p.data.toList q.data.toList = [] := by unfold Gal.prodV; rw [ha, hb, if_pos h]
    have e2 : Gal.prodE p.data.toList q.data.toList = 3 := by unfold Gal.prodE; rw [ha, hb, if_pos h]
    rw [e1, e2]
    have t1 : decide ((1024 : Int) ≤ ((a : Int) - 1) + ((b : Int) - 1)) = true := decide_eq_true h
    have B := Lib.hid (Below.refl w.heap.size w)
    clear e1 e2 ha hb l1 l2 hp hq s1 s2 hP hQ TT
    go_enter Tryz.func46, Tryz.ntmps46
    go_wp2_with fail
    (with_reducible refine (T1.out _).mono ?_)
    rintro e w' ⟨rfl, rfl⟩
    go_wp2_with fail
    (with_reducible refine (T2.out _).mono ?_)
    rintro e w' ⟨rfl, rfl⟩
    go_wp2_with fail
    (with_reducible refine (D1.out _).mono ?_)
    rintro e w' ⟨rfl, rfl⟩
    go_wp2_with fail
    (with_reducible refine (D2.out _).mono ?_)
    rintro e w' ⟨rfl, rfl⟩
    go_wp2_with fail
    go_ret2
    exact ⟨rfl, B.out⟩
  · have e1 : Gal.prodV p.data.toList q.data.toList = Gal.pol (Gal.prd p.data.toList q.data.toList) (p.data.toList.length + q.data.toList.length) := by
      unfold Gal.prodV
      rw [ha, hb, if_neg h]
    have e2 : Gal.prodE p.data.toList q.data.toList = 0 := by unfold Gal.prodE; rw [ha, hb, if_neg h]
    rw [e1, e2]
    have t1 : decide ((1024 : Int) ≤ ((a : Int) - 1) + ((b : Int) - 1)) = false := decide_eq_false h
    obtain ⟨r, hr⟩ : ∃ r, (⟨(Gal.pol (Gal.prd p.data.toList q.data.toList) (p.data.toList.length + q.data.toList.length)).toArray⟩ : ByteArray) = r := ⟨_, rfl⟩
    rw [hr] at TT ⊢
    clear e1 e2 ha hb l1 l2 hp hq s1 s2 hP hQ hr
    go_enter Tryz.func46, Tryz.ntmps46
    go_wp2_with fail
    (with_reducible refine (T1.out _).mono ?_)
    rintro e w' ⟨rfl, rfl⟩
    go_wp2_with fail
    (with_reducible refine (T2.out _).mono ?_)
    rintro e w' ⟨rfl, rfl⟩
    go_wp2_with fail
    (with_reducible refine (D1.out _).mono ?_)
    rintro e w' ⟨rfl, rfl⟩
    go_wp2_with fail
    (with_reducible refine (D2.out _).mono ?_)
    rintro e w' ⟨rfl, rfl⟩
    go_wp2_with fail
    (with_reducible refine (TT.out _).mono ?_)
    rintro e w1 ⟨rfl, hB⟩
    have HB := Lib.hid hB
    clear hB
    go_wp2_with fail
    go_ret2
    exact ⟨rfl, HB.out⟩
end Go.Proofs.YtlpjhmafplljaaaGreatDoor
/- The contract of perigeeref04's Quotient over this program. -/
namespace Go.Proofs.YtlpjhmafplljaaaGreatDoor
open Go.RowKit
set_option linter.unusedVariables false

namespace Gal
theorem quot_ref (p q : List UInt8) (hq : nn q ≠ 0) :
    quotV p q = pol (quo (co (trim p)) (co q) (nn p - (nn q - 1)) (nn q - 1) (inv (co q (nn q - 1)))) (nn p) ∧
    restV p q = pol (left (co (trim p)) (co q) (nn p - (nn q - 1)) (nn q - 1) (inv (co q (nn q - 1))) (nn p - (nn q - 1))) (nn p) := by
  have h := quot_congr (p := p) (q := q) (p' := trim p) (q' := q) (fun i => (co_trim p i).symm) (fun i => rfl)
  refine ⟨?_, ?_⟩
  · rw [h.2.1]
    unfold quotV
    rw [if_neg hq, ← quo_trim _ _ hq]
    have e : pol (quoF (trim p) q) (rounds (trim p) q) = pol (quoF (trim p) q) (nn p) :=
      pol_eq (fun _ => rfl) (quoF_out _ _) (fun k hk => quoF_out _ _ k (by unfold rounds; rw [nn_trim]; omega))
    rw [e]
    unfold quoF vv rounds
    rw [nn_trim]
  · rw [h.2.2]
    unfold restV
    rw [if_neg hq]
    unfold remF vv rounds
    rw [nn_trim]
end Gal

set_option maxRecDepth 100000 in
theorem rquot_any (p q : ByteArray) (hp : p.size ≤ 400000) (hq : q.size ≤ 400000) (w : World) :
    Calls Tryz.prog 21 #[.string p, .string q] w fun e w' => e = .returned (.tuple #[.string ⟨(Gal.quotV p.data.toList q.data.toList).toArray⟩, .string ⟨(Gal.restV p.data.toList q.data.toList).toArray⟩, .int .i64 (Gal.quotE q.data.toList)]) ∧ Below w.heap.size w w' := by
  have DG := Lib.hid (fun w => rdegree_any q (by omega) w)
  have T1 := Lib.hid (fun w => rtrim_any p (by omega) w)
  have l1 := Gal.nn_le p.data.toList
  have l2 := Gal.nn_le q.data.toList
  rw [ls] at l1 l2
  have s1 := trim_size p.data.toList
  by_cases h : Gal.nn q.data.toList = 0
  · rw [show Gal.quotV p.data.toList q.data.toList = [] from if_pos h, show Gal.restV p.data.toList q.data.toList = [] from if_pos h, show Gal.quotE q.data.toList = 2 from if_pos h]
    rw [h, show ((0 : Nat) : Int) - 1 = -1 from rfl] at DG
    have B := Lib.hid (Below.refl w.heap.size w)
    clear s1 l1 l2 h hp hq T1
    go_enter Tryz.func21, Tryz.ntmps21
    go_wp2_with fail
    (with_reducible refine (DG.out _).mono ?_)
    rintro e w' ⟨rfl, rfl⟩
    go_wp2_with fail
    go_ret3
    exact ⟨rfl, B.out⟩
  · obtain ⟨e1, e2⟩ := Gal.quot_ref p.data.toList q.data.toList h
    rw [show Gal.quotE q.data.toList = 0 from if_neg h, e1, e2]
    have ytop : Gal.co q.data.toList (Gal.nn q.data.toList - 1) ≠ 0#8 := Gal.nn_top (by omega)
    have gout : ∀ k, Gal.nn q.data.toList ≤ k → Gal.co q.data.toList k = 0#8 := fun k hk => Gal.nn_out hk
    obtain ⟨a, ha⟩ : ∃ a, Gal.nn p.data.toList = a := ⟨_, rfl⟩
    obtain ⟨b, hb⟩ : ∃ b, Gal.nn q.data.toList = b := ⟨_, rfl⟩
    rw [ha] at s1 l1 ⊢
    rw [hb] at l2 h DG ytop gout ⊢
    obtain ⟨top, htop⟩ : ∃ top, b - 1 = top := ⟨_, rfl⟩
    rw [htop] at ytop ⊢
    rw [show (b : Int) - 1 = (top : Int) by omega] at DG
    obtain ⟨m, hm⟩ : ∃ m, a - top = m := ⟨_, rfl⟩
    rw [hm]
    obtain ⟨P', hP⟩ : ∃ P', (⟨(Gal.trim p.data.toList).toArray⟩ : ByteArray) = P' := ⟨_, rfl⟩
    rw [show Gal.trim p.data.toList = P'.data.toList by rw [← hP]]
    rw [hP] at T1 s1
    have dV : ∀ x, Gal.divV x (Gal.co q.data.toList top) = Gal.mul x (Gal.inv (Gal.co q.data.toList top)) := fun x => if_neg ytop
    have dE : Gal.divE (Gal.co q.data.toList top) = 0 := if_neg ytop
    obtain ⟨y, hy⟩ : ∃ y, Gal.co q.data.toList top = y := ⟨_, rfl⟩
    rw [hy] at dV dE
    rw [hy]
    obtain ⟨v, hv⟩ : ∃ v, Gal.inv y = v := ⟨_, rfl⟩
    rw [hv] at dV
    rw [hv]
    have tQ : top < q.size := by omega
    have h1 : top + 1 ≤ b := by omega
    have h2 : b ≤ top + 1 := by omega
    have h3 : m ≤ a - top := by omega
    have h4 : a - top ≤ m := by omega
    have a2 : a ≤ 400000 := by omega
    have b2 : b ≤ 400000 := by omega
    have S1 := Lib.hid s1
    have HY := Lib.hid hy
    have HDV := Lib.hid dV
    have HDE := Lib.hid dE
    have HG := Lib.hid gout
    obtain ⟨i0, hi, hz0, hz1, hz2⟩ := info_parts info_u8
    clear e1 e2 hP ha hb htop hm hy hv l1 l2 hp hq h s1 dV dE gout ytop
    go_enter Tryz.func21, Tryz.ntmps21
    go_wp2_with fail
    (with_reducible refine (DG.out _).mono ?_)
    rintro e w' ⟨rfl, rfl⟩
    go_wp2_with fail
    (with_reducible refine (T1.out _).mono ?_)
    rintro e w' ⟨rfl, rfl⟩
    have c1 := run_bytes_of_string (P := Tryz.prog) w 9 41 5 P' Tryz.underlying9 Tryz.underlying41 Tryz.underlying5
    obtain ⟨C, hcap⟩ : ∃ C, grownCap w P'.size 0 5 = C := ⟨_, rfl⟩
    rw [hcap, S1.out] at c1
    have H1 := nums_new P' C 5 w.drew
    rw [S1.out] at H1
    have B5 := ba (Below.refl w.heap.size w).drew (.cells (bytesRow P' C) 5 ((bytesRow P' C).size, (bytesRow P' C).size + 1))
    obtain ⟨w4, hw4⟩ : ∃ w4, w.drew.alloc (.cells (bytesRow P' C) 5 ((bytesRow P' C).size, (bytesRow P' C).size + 1)) = w4 := ⟨_, rfl⟩
    rw [hw4] at c1 H1 B5
    obtain ⟨lb, hlb⟩ : ∃ lb, w.heap.size = lb := ⟨_, rfl⟩
    rw [show w.drew.heap.size = lb from hlb] at H1
    rw [hlb] at c1
    have C1 := Lib.hid c1
    have HL := Lib.hid H1
    have HB5 := Lib.hid B5
    have lb1 : w.heap.size ≤ lb := by omega
    clear hcap c1 H1 B5 hw4 T1 DG
    clear hlb
    go_wp2_with (first
      | (simp only [C1.out])
      | (at_make; refine wpList_make_full _ rfl _ _ 41 rfl w4.heap.size 5 i0 (.int .u8 0) 1 Tryz.underlying41 hi hz0 hz1 .i64 .i64 _ _ a rfl rfl (by first | rfl | omega) (by first | rfl | omega) (by rw [hz2]; omega) (by unfold maxLen; omega) (Nat.le_refl _) ?_; intro w5 hown hgrow))
    have hnu := madeNums hown
    have hb5 : Below w4.heap.size w4 w5 := (Below.refl _ _).grown hgrow (Nat.le_refl _) (fun k e => by cases e)
    have cb0 : lb < w4.heap.size := HL.out.1
    obtain ⟨cb, hcb⟩ : ∃ cb, w4.heap.size = cb := ⟨_, rfl⟩
    have HL2 := Lib.hid (HL.out.below hb5)
    have HB6 := Lib.hid (bt HB5.out hb5)
    rw [hcb] at hnu cb0 ⊢
    have HC := Lib.hid hnu
    clear hown hgrow hnu hb5 hcb HL HB5 C1 hi hz0 hz1 hz2
    go_loopw [10] (fun i wr => ∃ k : Nat, k ≤ m ∧ i = .int .i64 ((a : Int) - 1 - (k : Int)) ∧ NumsK .u8 wr lb a (fun j => (Gal.left (Gal.co P'.data.toList) (Gal.co q.data.toList) m top v k j).toNat) ∧ NumsK .u8 wr cb a (fun j => if m - k ≤ j then (Gal.quo (Gal.co P'.data.toList) (Gal.co q.data.toList) m top v j).toNat else 0) ∧ Below w.heap.size w wr) (fun i _ => (intOf i + 1).toNat)
    case atStart =>
      refine ⟨0, Nat.zero_le _, ?_, HL2.out, HC.out.congr (fun j hj => ?_), HB6.out⟩
      · rw [show (a : Int) - 1 - ((0 : Nat) : Int) = (a : Int) - 1 by omega]
      · by_cases e : m - 0 ≤ j
        · rw [if_pos e]
          unfold Gal.quo
          rw [if_neg (by omega)]
          rfl
        · rw [if_neg e]
    case round =>
      obtain ⟨k, hk, rfl, hL, hC, hB⟩ := hrel
      by_cases hlt : k < m
      · obtain ⟨at0, hat⟩ : ∃ i, m - 1 - k = i := ⟨_, rfl⟩
        obtain ⟨i, hi⟩ : ∃ j, at0 + top = j := ⟨_, rfl⟩
        have qa := Gal.quo_at (f := Gal.co P'.data.toList) (g := Gal.co q.data.toList) (top := top) (v := v) hlt
        rw [hat, hi] at qa
        have ia : i < a := by omega
        have ta : at0 < a := by omega
        have im : (at0 : Int) < (a : Int) := by omega
        have ti : (top : Int) ≤ (i : Int) := by omega
        rw [show (a : Int) - 1 - (k : Int) = (i : Int) by omega]
        obtain ⟨x, hx⟩ : ∃ x, Gal.left (Gal.co P'.data.toList) (Gal.co q.data.toList) m top v k i = x := ⟨_, rfl⟩
        obtain ⟨c, hc⟩ : ∃ c, Gal.quo (Gal.co P'.data.toList) (Gal.co q.data.toList) m top v at0 = c := ⟨_, rfl⟩
        rw [hx, hc] at qa
        have c2 := hC.cell ta
        have f2 := hC.frozen ta
        have NL := Lib.hid hL
        have NC := Lib.hid hC
        have NB := Lib.hid hB
        have HX := Lib.hid hx
        have HDX := Lib.hid (show Gal.divV x y = c by rw [HDV.out, qa])
        have LS := Lib.hid (fun j' => (show Gal.left (Gal.co P'.data.toList) (Gal.co q.data.toList) m top v (k + 1) j' = Gal.left (Gal.co P'.data.toList) (Gal.co q.data.toList) m top v k j' ^^^ Gal.mul c (Gal.sh at0 (Gal.co q.data.toList) j') by
          rw [qa, ← hx, ← hi, ← hat]
          rfl))
        have HC2 := Lib.hid hc
        have HAT := Lib.hid hat
        have HI := Lib.hid hi
        have d1 : (i : Int) - (top : Int) = (at0 : Int) := by omega
        clear hL hC hB hx qa hc hat hi HL2 HC HB6 c2 f2
        go_upto_region 9 with fail
        refine coefRegion lb i top a C x y q (Gal.left (Gal.co P'.data.toList) (Gal.co q.data.toList) m top v k) ia (by omega) NL.out HX.out tQ HY.out (by kernel_rfl) rfl rfl rfl rfl rfl rfl rfl rfl rfl rfl rfl rfl rfl rfl rfl rfl rfl rfl rfl ?_
        intro w7 B7
        simp only [Act.put, List.setIfInBounds_toArray, List.set_cons_succ, List.set_cons_zero]
        rw [HDX.out, HDE.out]
        have NL7 := NL.out.below B7
        have NC7 := NC.out.below B7
        have c2 := NC7.cell ta
        have f2 := NC7.frozen ta
        obtain ⟨cn, hcn⟩ : ∃ cn, c.toNat = cn := ⟨_, rfl⟩
        have NC8 := NC7.set (g := fun j => if m - (k + 1) ≤ j then (Gal.quo (Gal.co P'.data.toList) (Gal.co q.data.toList) m top v j).toNat else 0) at0 cn ta (by rw [if_pos (by have := HAT.out; omega), HC2.out]; exact hcn) (fun j hj hjk => by
          have := HAT.out
          by_cases e : m - k ≤ j
          · rw [if_pos e, if_pos (by omega)]
          · rw [if_neg e, if_neg (by omega)])
        have NL8 := NL7.setOther (c := cb) (i := at0) (by omega) (.int .u8 (cn : Nat))
        have B8 := (bt NB.out B7).setCell (p := ⟨cb, at0, none⟩) (by show w.heap.size ≤ cb; omega) (.int .u8 (cn : Nat))
        have GC := Lib.hid NC8
        have GL := Lib.hid NL8
        have GB := Lib.hid B8
        obtain ⟨xn, hxn⟩ : ∃ xn, x.toNat = xn := ⟨_, rfl⟩
        obtain ⟨yn, hyn⟩ : ∃ yn, y.toNat = yn := ⟨_, rfl⟩
        rw [hxn, hyn, hcn]
        have HCN := Lib.hid hcn
        clear NL7 NC7 NC8 NL8 B8 B7 NL NC NB hcn hxn hyn HX HDX
        go_wp2_with fail
        obtain ⟨w9, hw9⟩ : ∃ w9, w7.setCell ⟨cb, at0, none⟩ (.int .u8 (cn : Nat)) = w9 := ⟨_, rfl⟩
        rw [hw9] at GC GL GB ⊢
        clear hw9 c2 f2
        go_loopw [13] (fun u wr => ∃ j : Nat, j ≤ b ∧ u = .int .i64 j ∧ NumsK .u8 wr lb a (fun j' => (rowF (Gal.left (Gal.co P'.data.toList) (Gal.co q.data.toList) m top v k) c (Gal.co q.data.toList) at0 j j').toNat) ∧ But lb w9 wr) (fun u _ => b - (intOf u).toNat)
        case atStart => exact ⟨0, Nat.zero_le _, rfl, GL.out.congr (fun j hj => by rw [rowF_zero]), But.refl _ _⟩
        case round =>
          obtain ⟨j, hj, rfl, hF, hB⟩ := hrel
          by_cases hlt2 : j < b
          · have NF := Lib.hid hF
            have NB2 := Lib.hid hB
            have jt : (j : Int) ≤ (top : Int) := by omega
            have jq : j < q.size := by omega
            clear hF hB
            go_upto_region 14 with fail
            refine subRegion lb i top at0 j (at0 + j) a C c q (rowF (Gal.left (Gal.co P'.data.toList) (Gal.co q.data.toList) m top v k) c (Gal.co q.data.toList) at0 j) d1 (by omega) (by omega) jq (by have := HI.out; omega) (by omega) NF.out (by kernel_rfl) rfl rfl rfl rfl rfl rfl rfl rfl rfl rfl rfl rfl rfl rfl rfl rfl rfl rfl rfl rfl rfl rfl rfl rfl rfl rfl rfl rfl (by rw [HCN.out]; rfl) rfl ?_
            intro w10 B10
            simp only [Act.put, List.setIfInBounds_toArray, List.set_cons_succ, List.set_cons_zero]
            rw [rowF_at]
            obtain ⟨u, hu⟩ : ∃ u, (Gal.left (Gal.co P'.data.toList) (Gal.co q.data.toList) m top v k (at0 + j) ^^^ Gal.mul c (Gal.co q.data.toList j)).toNat = u := ⟨_, rfl⟩
            have N1 := Lib.hid ((NF.out.below B10).set (g := fun j' => (rowF (Gal.left (Gal.co P'.data.toList) (Gal.co q.data.toList) m top v k) c (Gal.co q.data.toList) at0 (j + 1) j').toNat) (at0 + j) u (by have := HI.out; omega) (by show (rowF _ _ _ _ _ _).toNat = _; rw [rowF_new]; exact hu) (fun j' hj hjk => by show (rowF _ _ _ _ _ _).toNat = (rowF _ _ _ _ _ _).toNat; rw [rowF_other _ _ _ _ _ _ hjk]))
            have N2 := Lib.hid ((NB2.out.trans (But.of_below B10 (Nat.le_of_lt NF.out.1))).setCell (at0 + j) (.int .u8 (u : Nat)))
            rw [hu]
            obtain ⟨w11, hw11⟩ : ∃ w6, w10.setCell ⟨lb, at0 + j, none⟩ (.int .u8 (u : Nat)) = w6 := ⟨_, rfl⟩
            rw [hw11] at N1 N2 ⊢
            obtain ⟨y1, hy1⟩ : ∃ y, (Gal.co q.data.toList j).toNat = y := ⟨_, rfl⟩
            obtain ⟨y2, hy2⟩ : ∃ y, (Gal.mul c (Gal.co q.data.toList j)).toNat = y := ⟨_, rfl⟩
            obtain ⟨y3, hy3⟩ : ∃ y, (Gal.left (Gal.co P'.data.toList) (Gal.co q.data.toList) m top v k (at0 + j)).toNat = y := ⟨_, rfl⟩
            rw [hy1, hy2, hy3, HCN.out]
            clear hw11 B10 NF NB2 hu hy1 hy2 hy3
            go_wp2_with fail
            go_roundw
            case rel => exact ⟨j + 1, by omega, by go_num, N1.out, N2.out⟩
            case measure => simp [intOf]; omega
          · obtain rfl : j = b := by omega
            have jt : ¬ (j : Int) ≤ (top : Int) := by omega
            have N5 := Lib.hid (show NumsK .u8 _ lb a (fun j' => (Gal.left (Gal.co P'.data.toList) (Gal.co q.data.toList) m top v (k + 1) j').toNat) from hF.congr (fun j' hj => by rw [rowF_all _ _ _ _ _ _ HG.out, LS.out]))
            have N6 := Lib.hid (GC.out.but hB (by omega))
            have B6 := Lib.hid (GB.out.trans (hB.below.mono lb1))
            have i3 : IntKind.i64.wrap ((i : Int) - 1) = (i : Int) - 1 := by rw [IntKind.wrap_i64]; omega
            have HK := Lib.hid (show (i : Int) - 1 = (a : Int) - 1 - ((k + 1 : Nat) : Int) by have := HAT.out; have := HI.out; omega)
            clear hF hB GC GL GB LS
            go_wp2_with fail
            go_roundw
            case rel => exact ⟨k + 1, by omega, by rw [HK.out], N5.out, N6.out, B6.out⟩
            case measure => simp [intOf]; try omega
      · obtain rfl : k = m := by omega
        have NL := Lib.hid hL
        have NC := Lib.hid (hC.congr (g := fun j => (Gal.quo (Gal.co P'.data.toList) (Gal.co q.data.toList) k top v j).toNat) (fun j hj => by rw [if_pos (by omega)]))
        have NB := Lib.hid hB
        have t1 : decide ((top : Int) ≤ (a : Int) - 1 - (k : Int)) = false := by simp; omega
        have t2 : ¬ (top : Int) ≤ (a : Int) - 1 - (k : Int) := by omega
        clear hL hC hB HL2 HC HB6
        go_upto_region 15 with fail
        refine rquotEnd lb cb a C a a (Gal.left (Gal.co P'.data.toList) (Gal.co q.data.toList) k top v k) (Gal.quo (Gal.co P'.data.toList) (Gal.co q.data.toList) k top v) (by omega) (by omega) NL.out NC.out (by kernel_rfl) rfl rfl rfl rfl rfl rfl rfl rfl rfl rfl rfl rfl rfl ?_
        intro w9 B9
        simp only [Act.put, List.setIfInBounds_toArray, List.set_cons_succ, List.set_cons_zero]
        have HB9 := Lib.hid (bt NB.out B9)
        clear B9 NL NC NB
        go_wp2_with fail
        go_ret3
        exact ⟨rfl, HB9.out⟩
end Go.Proofs.YtlpjhmafplljaaaGreatDoor
