/- The contracts of perigeeref04's at, Sum, Derived, Eval over this program. -/
import Derived.Test.YtinjppijcmhhbaaDoorGalRReg
import Derived.Test.YtinjppijcmhhbaaDoorGalFns
import Derived.RangeFuncBox
namespace Go.Proofs.YtinjppijcmhhbaaDoor
open Go.RowKit
set_option linter.unusedVariables false

theorem at_any (p : ByteArray) (i n : Nat) (hn : p.size = n) (h1 : n ≤ 1000000) (h2 : i ≤ 1000000) (w : World) :
    Calls Tryd.prog 40 #[.string p, .int .i64 (i : Nat)] w fun e w' => e = .returned (.int .u8 ((Gal.co p.data.toList i).toNat : Nat)) ∧ w = w' := by
  by_cases h : i < n
  · have hp : i < p.size := by omega
    have bc := byte_co p i hp
    obtain ⟨v, hv⟩ : ∃ v, (Gal.co p.data.toList i).toNat = v := ⟨_, rfl⟩
    rw [hv] at bc ⊢
    have hlt : (i : Int) < (n : Int) := by omega
    clear hv
    go_enter Tryd.func40, Tryd.ntmps40
    go_wp2_with fail
    go_ret
    exact ⟨rfl, rfl⟩
  · rw [Gal.co_out (by rw [ls]; omega), show ((0#8 : BitVec 8).toNat : Int) = 0 from rfl]
    have hge : ¬ (i : Int) < (n : Int) := by omega
    go_enter Tryd.func40, Tryd.ntmps40
    go_wp2_with fail
    go_ret
    exact ⟨rfl, rfl⟩
def slen : Value → Nat
  | .slice _ n _ => n
  | _ => 0
theorem own_slen {w : World} {base e n : Nat} {v : Value} {xs : List Value} (h : w.ownsRow base e 1 v n xs) : slen v = n := by
  rcases h.2 with ⟨rfl, rfl⟩ | ⟨_, _, _, rfl, _⟩ <;> rfl
theorem own_block_ge {w : World} {base e size n g : Nat} {v : Value} {xs : List Value} (h : w.ownsRow base e size v n xs) (hg : v.ownBlock = some g) : base ≤ g := by
  rcases h.2 with ⟨rfl, _⟩ | ⟨g', c, _, rfl, hb, _⟩
  · cases hg
  · cases hg; exact hb
theorem cell_new_l (w : World) (v : Value) (t : TypeId) : (w.alloc (.cells #[v] t)).cell? ⟨w.heap.size, 0, none⟩ = some v ∧ (w.alloc (.cells #[v] t)).frozen? ⟨w.heap.size, 0, none⟩ = false := by
  constructor <;> go_simp
theorem cell_one {w : World} {v : Value} {t : TypeId} : ∀ j u, [v][j]? = some u → (w.alloc (.cells #[v] t)).cell? ((⟨w.heap.size, 0, none⟩ : Addr).add j) = some u := by
  intro j u hu
  have hj : j < 1 := by
    have := (List.getElem?_eq_some_iff.1 hu).1
    simpa using this
  obtain rfl : j = 0 := by omega
  have e : (⟨w.heap.size, 0, none⟩ : Addr).add 0 = ⟨w.heap.size, 0, none⟩ := by unfold Addr.add; split <;> simp_all
  rw [e]
  have := (cell_new_l w v t).1
  simp at hu
  subst hu
  exact this
/-- So many bytes as values. -/
def vals (f : Nat → BitVec 8) (n : Nat) : List Value := (List.range n).map (fun j => .int .u8 ((f j).toNat : Nat))
theorem vals_succ (f : Nat → BitVec 8) (n : Nat) : vals f (n + 1) = vals f n ++ [.int .u8 ((f n).toNat : Nat)] := by simp [vals, List.range_succ]
/-- A string made of a []byte that was appended to. -/
theorem own_back {w : World} {base : Nat} {v : Value} {n : Nat} {f : Nat → BitVec 8} (h : w.ownsRow base 5 1 v n (vals f n)) : (convert 43 9 v).run Tryd.prog w = .ok (.string ⟨(Gal.coefs f n).toArray⟩) w := by
  rcases h.2 with ⟨rfl, rfl⟩ | ⟨g, cap, cur, rfl, hb, hg, hnc, hm, hsz, ht⟩
  · rw [run_convert_bytes_string w 43 9 5 none 0 0 Tryd.underlying43 Tryd.underlying5 Tryd.underlying9]
    rfl
  · have hl := Gal.coefs_length f n
    have := run_convert_bytes_back (P := Tryd.prog) w 43 9 5 ⟨g, 0, none⟩ cap (Gal.coefs f n) Tryd.underlying43 Tryd.underlying5 Tryd.underlying9 (fun j hj => by
      have e : (⟨g, 0, none⟩ : Addr).add j = ⟨g, j, none⟩ := by unfold Addr.add; split <;> simp_all
      rw [hl] at hj
      have e1 : w.cell? ⟨g, j, none⟩ = cur[j]? := by
        unfold World.cell?
        rw [hg]
        simp
      have e2 : (cur.toList.take (n * 1))[j]? = cur[j]? := by
        rw [List.getElem?_take_of_lt (by omega)]
        simp
      rw [e, e1, ← e2, ht]
      simp [Gal.coefs, vals, hj])
    rwa [hl] at this
set_option maxRecDepth 100000 in
theorem rsum_any (p q : ByteArray) (hp : p.size ≤ 400000) (hq : q.size ≤ 400000) (w : World) :
    Calls Tryd.prog 25 #[.string p, .string q] w fun e w' => e = .returned (.string ⟨(Gal.sumV p.data.toList q.data.toList).toArray⟩) ∧ Below w.heap.size w w' := by
  obtain ⟨m, hm⟩ : ∃ m, p.size = m := ⟨_, rfl⟩
  obtain ⟨n, hn⟩ : ∃ n, q.size = n := ⟨_, rfl⟩
  obtain ⟨N, hN⟩ : ∃ N, max m n = N := ⟨_, rfl⟩
  have ev : Gal.sumV p.data.toList q.data.toList = Gal.pol (Gal.sumF p.data.toList q.data.toList) N := by
    unfold Gal.sumV
    rw [ls, ls, hm, hn, hN]
  rw [ev]
  rw [hm] at hp
  rw [hn] at hq
  have mN : m ≤ N := by omega
  have nN : n ≤ N := by omega
  have mn : N ≤ m ∨ N ≤ n := by omega
  have N2 : N ≤ 400000 := by omega
  have A1 := Lib.hid (fun i h w => at_any p i m hm (by omega) h w)
  have A2 := Lib.hid (fun i h w => at_any q i n hn (by omega) h w)
  have TR := Lib.hid (rtrimB (Gal.sumF p.data.toList q.data.toList) N (by omega))
  clear ev hN
  go_enter Tryd.func25, Tryd.ntmps25
  go_wp2_with fail
  go_loopw [5, 6] (fun o i wr => ∃ k : Nat, k ≤ N ∧ i = .int .i64 k ∧ wr.ownsRow w.heap.size 5 1 o k (vals (Gal.sumF p.data.toList q.data.toList) k) ∧ Below w.heap.size w wr) (fun o _ _ => N - slen o)
  case atStart => exact ⟨0, Nat.zero_le _, rfl, World.ownsRow_nil _ _ _ _, Below.refl _ _⟩
  case round =>
    obtain ⟨k, hk, rfl, hown, hB⟩ := hrel
    by_cases hlt : k < N
    · have C1 := Lib.hid (A1.out k (by omega))
      have C2 := Lib.hid (A2.out k (by omega))
      have x1 := xor8 (Gal.co p.data.toList k) (Gal.co q.data.toList k)
      have ns := vals_succ (Gal.sumF p.data.toList q.data.toList) k
      rw [show Gal.sumF p.data.toList q.data.toList k = Gal.co p.data.toList k ^^^ Gal.co q.data.toList k from rfl] at ns
      obtain ⟨y1, hy1⟩ : ∃ y, (Gal.co p.data.toList k).toNat = y := ⟨_, rfl⟩
      obtain ⟨y2, hy2⟩ : ∃ y, (Gal.co q.data.toList k).toNat = y := ⟨_, rfl⟩
      obtain ⟨u, hu⟩ : ∃ y, (Gal.co p.data.toList k ^^^ Gal.co q.data.toList k).toNat = y := ⟨_, rfl⟩
      rw [hy1] at C1 x1
      rw [hy2] at C2 x1
      rw [hu] at x1 ns
      have NS := Lib.hid ns
      have SL := Lib.hid (own_slen hown)
      have HO := Lib.hid hown
      obtain ⟨i0, hi, hz0, hz1, hz2⟩ := info_parts info_u8
      have B1 := Lib.hid (hB.alloc hB.size (.cells #[.int .u8 (u : Int)] 5))
      clear hy1 hy2 hu ns hown hB A1 A2
      by_cases km : k < m
      · have t1 : decide ((k : Int) < (m : Int)) = true := by simp; omega
        clear mn
        go_wp2_with fail
        (with_reducible refine (C1.out _).mono ?_)
        rintro e w' ⟨rfl, rfl⟩
        go_wp2_with fail
        (with_reducible refine (C2.out _).mono ?_)
        rintro e w' ⟨rfl, rfl⟩
        go_wp2_with (at_builtin; refine wpList_append_own _ rfl _ _ 43 rfl w.heap.size 5 i0 (.int .u8 0) 1 1 Tryd.underlying43 hi hz0 hz1 hz2 rfl (by decide) _ _ _ rfl (HO.out.alloc _) ⟨wr.heap.size, 0, none⟩ 1 1 [.int .u8 (u : Int)] rfl rfl cell_one (by simp [Value.oneCell']) (by unfold maxLen; omega) (by omega) (by have := B1.out.size; simp at this ⊢; omega) ?_; intro v' w2 hown2 hgrow _; obtain ⟨g', cap', rfl⟩ := ownsRow_succ hown2; have HO2 := Lib.hid hown2; have BW2 := Lib.hid (B1.out.grown hgrow B1.out.size (fun k e => own_block_ge HO.out e)); clear hown2 hgrow)
        go_roundw
        case rel => exact ⟨k + 1, by omega, by go_num, by rw [NS.out]; exact HO2.out, BW2.out⟩
        case measure => rw [SL.out]; simp [slen]; omega
      · have t1 : decide ((k : Int) < (m : Int)) = false := by simp; omega
        have t2 : decide ((k : Int) < (n : Int)) = true := by simp; omega
        have kn : k < n := by omega
        have t3 : decide (k < n) = true := by simp; omega
        clear mn
        go_wp2_with fail
        (with_reducible refine (C1.out _).mono ?_)
        rintro e w' ⟨rfl, rfl⟩
        go_wp2_with fail
        (with_reducible refine (C2.out _).mono ?_)
        rintro e w' ⟨rfl, rfl⟩
        go_wp2_with (at_builtin; refine wpList_append_own _ rfl _ _ 43 rfl w.heap.size 5 i0 (.int .u8 0) 1 1 Tryd.underlying43 hi hz0 hz1 hz2 rfl (by decide) _ _ _ rfl (HO.out.alloc _) ⟨wr.heap.size, 0, none⟩ 1 1 [.int .u8 (u : Int)] rfl rfl cell_one (by simp [Value.oneCell']) (by unfold maxLen; omega) (by omega) (by have := B1.out.size; simp at this ⊢; omega) ?_; intro v' w2 hown2 hgrow _; obtain ⟨g', cap', rfl⟩ := ownsRow_succ hown2; have HO2 := Lib.hid hown2; have BW2 := Lib.hid (B1.out.grown hgrow B1.out.size (fun k e => own_block_ge HO.out e)); clear hown2 hgrow)
        go_roundw
        case rel => exact ⟨k + 1, by omega, by go_num, by rw [NS.out]; exact HO2.out, BW2.out⟩
        case measure => rw [SL.out]; simp [slen]; omega
    · obtain rfl : k = N := by omega
      have t1 : decide ((k : Int) < (m : Int)) = false := by simp; omega
      have t2 : decide ((k : Int) < (n : Int)) = false := by simp; omega
      have t3 : decide (k < m) = false := by simp; omega
      have t4 : decide (k < n) = false := by simp; omega
      have CV := Lib.hid (own_back hown)
      have HB := Lib.hid hB
      clear hown hB A1 A2 mn
      go_wp2_with (simp only [CV.out])
      (with_reducible refine (TR.out _).mono ?_)
      rintro e w3 ⟨rfl, B3⟩
      have HB3 := Lib.hid (bt HB.out B3)
      clear B3
      go_wp2_with fail
      go_ret
      exact ⟨rfl, HB3.out⟩
set_option maxRecDepth 100000 in
theorem rderived_any (p : ByteArray) (hp : p.size ≤ 400000) (w : World) :
    Calls Tryd.prog 27 #[.string p] w fun e w' => e = .returned (.string ⟨(Gal.derV p.data.toList).toArray⟩) ∧ Below w.heap.size w w' := by
  obtain ⟨m, hm⟩ : ∃ m, p.size = m := ⟨_, rfl⟩
  obtain ⟨N, hN⟩ : ∃ N, m - 1 = N := ⟨_, rfl⟩
  have ev : Gal.derV p.data.toList = Gal.pol (Gal.der (Gal.co p.data.toList)) N := by
    unfold Gal.derV
    rw [ls, hm, hN]
  rw [ev]
  rw [hm] at hp
  have N2 : N ≤ 400000 := by omega
  have m1 : N ≤ m - 1 := by omega
  have m2 : m - 1 ≤ N := by omega
  have TR := Lib.hid (rtrimB (Gal.der (Gal.co p.data.toList)) N (by omega))
  have HM := Lib.hid hm
  have HBY := Lib.hid (fun i h => byte_co p i h)
  clear ev hN
  go_enter Tryd.func27, Tryd.ntmps27
  go_wp2_with fail
  go_loopw [3, 4] (fun o i wr => ∃ k : Nat, k ≤ N ∧ i = .int .i64 k ∧ wr.ownsRow w.heap.size 5 1 o k (vals (Gal.der (Gal.co p.data.toList)) k) ∧ Below w.heap.size w wr) (fun o _ _ => N - slen o)
  case atStart => exact ⟨0, Nat.zero_le _, rfl, World.ownsRow_nil _ _ _ _, Below.refl _ _⟩
  case round =>
    obtain ⟨k, hk, rfl, hown, hB⟩ := hrel
    obtain ⟨j, hj⟩ : ∃ j, k + 1 = j := ⟨_, rfl⟩
    have ij : (k : Int) + 1 = (j : Int) := by omega
    have ij2 : IntKind.i64.wrap ((k : Int) + 1) = (j : Int) := by rw [ij, IntKind.wrap_i64]; omega
    by_cases hlt : k < N
    · have jp : j < p.size := by rw [HM.out]; omega
      have bj := HBY.out j jp
      have t2 : (k : Int).tmod 2 = ((k % 2 : Nat) : Int) := by rw [Int.tmod_eq_emod_of_nonneg (by omega)]; omega
      obtain ⟨t, ht⟩ : ∃ t, k % 2 = t := ⟨_, rfl⟩
      rw [ht] at t2
      have t3 : (k : Int) % 2 = (t : Int) := by omega
      have jm : decide ((j : Int) < (m : Int)) = true := by simp; omega
      have ns := vals_succ (Gal.der (Gal.co p.data.toList)) k
      have SL := Lib.hid (own_slen hown)
      have HO := Lib.hid hown
      have HJ := Lib.hid hj
      obtain ⟨i0, hi, hz0, hz1, hz2⟩ := info_parts info_u8
      by_cases g : t = 0
      · subst g
        have dv : (Gal.der (Gal.co p.data.toList) k).toNat = (Gal.co p.data.toList j).toNat := by
          unfold Gal.der
          rw [if_pos ht, hj]
        obtain ⟨u, hu⟩ : ∃ v, (Gal.co p.data.toList j).toNat = v := ⟨_, rfl⟩
        rw [hu] at bj dv
        rw [dv] at ns
        have NS := Lib.hid ns
        have B1 := Lib.hid (hB.alloc hB.size (.cells #[.int .u8 (u : Int)] 5))
        clear hown hB hu dv ht hj HM HBY ns
        go_wp2_with (at_builtin; refine wpList_append_own _ rfl _ _ 43 rfl w.heap.size 5 i0 (.int .u8 0) 1 1 Tryd.underlying43 hi hz0 hz1 hz2 rfl (by decide) _ _ _ rfl (HO.out.alloc _) ⟨wr.heap.size, 0, none⟩ 1 1 [.int .u8 (u : Int)] rfl rfl cell_one (by simp [Value.oneCell']) (by unfold maxLen; omega) (by omega) (by have := B1.out.size; simp at this ⊢; omega) ?_; intro v' w2 hown2 hgrow _; obtain ⟨g', cap', rfl⟩ := ownsRow_succ hown2; have HO2 := Lib.hid hown2; have BW2 := Lib.hid (B1.out.grown hgrow B1.out.size (fun k e => own_block_ge HO.out e)); clear hown2 hgrow)
        go_roundw
        case rel => exact ⟨k + 1, by omega, by rw [HJ.out], by rw [NS.out]; exact HO2.out, BW2.out⟩
        case measure => rw [SL.out]; simp [slen]; omega
      · have t1 : t = 1 := by omega
        subst t1
        have dv : (Gal.der (Gal.co p.data.toList) k).toNat = 0 := by
          unfold Gal.der
          rw [if_neg (by omega)]
          rfl
        rw [dv, show ((0 : Nat) : Int) = 0 from rfl] at ns
        have NS := Lib.hid ns
        have B1 := Lib.hid (hB.alloc hB.size (.cells #[.int .u8 0] 5))
        clear hown hB dv ht hj HM HBY ns bj
        go_wp2_with (at_builtin; refine wpList_append_own _ rfl _ _ 43 rfl w.heap.size 5 i0 (.int .u8 0) 1 1 Tryd.underlying43 hi hz0 hz1 hz2 rfl (by decide) _ _ _ rfl (HO.out.alloc _) ⟨wr.heap.size, 0, none⟩ 1 1 [.int .u8 0] rfl rfl cell_one (by simp [Value.oneCell']) (by unfold maxLen; omega) (by omega) (by have := B1.out.size; simp at this ⊢; omega) ?_; intro v' w2 hown2 hgrow _; obtain ⟨g', cap', rfl⟩ := ownsRow_succ hown2; have HO2 := Lib.hid hown2; have BW2 := Lib.hid (B1.out.grown hgrow B1.out.size (fun k e => own_block_ge HO.out e)); clear hown2 hgrow)
        go_roundw
        case rel => exact ⟨k + 1, by omega, by rw [HJ.out], by rw [NS.out]; exact HO2.out, BW2.out⟩
        case measure => rw [SL.out]; simp [slen]; omega
    · obtain rfl : k = N := by omega
      have jm : decide ((j : Int) < (m : Int)) = false := by simp; omega
      have CV := Lib.hid (own_back hown)
      have HB := Lib.hid hB
      clear hown hB HBY HM hj
      go_wp2_with (simp only [CV.out])
      (with_reducible refine (TR.out _).mono ?_)
      rintro e w3 ⟨rfl, B3⟩
      have HB3 := Lib.hid (bt HB.out B3)
      clear B3
      go_wp2_with fail
      go_ret
      exact ⟨rfl, HB3.out⟩
set_option maxRecDepth 100000 in
theorem reval_any (p : ByteArray) (x : BitVec 8) (hp : p.size ≤ 400000) (w : World) :
    Calls Tryd.prog 29 #[.string p, .int .u8 (x.toNat : Nat)] w fun e w' => e = .returned (.int .u8 ((Gal.evalV p.data.toList x).toNat : Nat)) ∧ w = w' := by
  obtain ⟨n, hn⟩ : ∃ n, p.size = n := ⟨_, rfl⟩
  have ev : Gal.evalV p.data.toList x = Gal.evl (Gal.co p.data.toList) x n := by
    unfold Gal.evalV
    rw [ls, hn]
  rw [ev]
  rw [hn] at hp
  have RM := Lib.hid (fun a b w => rmul_any a b w)
  have HN := Lib.hid hn
  have HBY := Lib.hid (fun i h => byte_co p i h)
  obtain ⟨X, hX⟩ : ∃ X, x.toNat = X := ⟨_, rfl⟩
  rw [hX]
  have HX := Lib.hid hX
  clear ev hX
  go_enter Tryd.func29, Tryd.ntmps29
  go_wp2_with fail
  go_loop [5, 6, 7] (fun o v i => ∃ k : Nat, k ≤ n ∧ i = .int .i64 k ∧ o = .int .u8 ((Gal.evl (Gal.co p.data.toList) x k).toNat : Nat) ∧ v = .int .u8 ((Gal.pown x k).toNat : Nat)) (fun _ _ i => n - (intOf i).toNat)
  case atStart => exact ⟨0, Nat.zero_le _, rfl, rfl, rfl⟩
  case round =>
    obtain ⟨k, hk, rfl, rfl, rfl⟩ := hrel
    by_cases hlt : k < n
    · have kp : k < p.size := by rw [HN.out]; exact hlt
      have bk := HBY.out k kp
      have C1 := Lib.hid (RM.out (Gal.co p.data.toList k) (Gal.pown x k))
      have C2 := Lib.hid (RM.out (Gal.pown x k) x)
      rw [show Gal.mul (Gal.pown x k) x = Gal.pown x (k + 1) from rfl, HX.out] at C2
      have x1 := xor8 (Gal.evl (Gal.co p.data.toList) x k) (Gal.mul (Gal.co p.data.toList k) (Gal.pown x k))
      rw [show Gal.evl (Gal.co p.data.toList) x k ^^^ Gal.mul (Gal.co p.data.toList k) (Gal.pown x k) = Gal.evl (Gal.co p.data.toList) x (k + 1) from rfl] at x1
      obtain ⟨y1, hy1⟩ : ∃ y, (Gal.co p.data.toList k).toNat = y := ⟨_, rfl⟩
      obtain ⟨y2, hy2⟩ : ∃ y, (Gal.pown x k).toNat = y := ⟨_, rfl⟩
      obtain ⟨y3, hy3⟩ : ∃ y, (Gal.mul (Gal.co p.data.toList k) (Gal.pown x k)).toNat = y := ⟨_, rfl⟩
      obtain ⟨y4, hy4⟩ : ∃ y, (Gal.evl (Gal.co p.data.toList) x k).toNat = y := ⟨_, rfl⟩
      obtain ⟨y5, hy5⟩ : ∃ y, (Gal.evl (Gal.co p.data.toList) x (k + 1)).toNat = y := ⟨_, rfl⟩
      obtain ⟨y6, hy6⟩ : ∃ y, (Gal.pown x (k + 1)).toNat = y := ⟨_, rfl⟩
      rw [hy1, hy2, hy3] at C1
      rw [hy2, hy6] at C2
      rw [hy3, hy4, hy5] at x1
      rw [hy1] at bk
      rw [hy4, hy2]
      have H5 := Lib.hid hy5
      have H6 := Lib.hid hy6
      clear hy1 hy2 hy3 hy4 hy5 hy6 RM HBY
      go_wp2_with fail
      (with_reducible refine (C1.out _).mono ?_)
      rintro e w' ⟨rfl, rfl⟩
      go_wp2_with fail
      (with_reducible refine (C2.out _).mono ?_)
      rintro e w' ⟨rfl, rfl⟩
      go_wp2_with fail
      go_round
      case rel => exact ⟨k + 1, by omega, by go_num, by rw [H5.out], by rw [H6.out]⟩
      case measure => simp [intOf]; omega
    · obtain rfl : k = n := by omega
      clear RM HBY
      go_wp2_with fail
      go_ret
      exact ⟨rfl, rfl⟩
end Go.Proofs.YtinjppijcmhhbaaDoor
