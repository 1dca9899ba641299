/- The contract of viterbi's best over this program. -/
import Derived.Test.YtgfihljledmaaaaVpBestR
namespace Go.Proofs.Ytgfihljledmaaaa
open Go.RowKit
set_option linter.unusedVariables false

theorem iSt : (Try.prog.info? 62).map (·.size) = some 3 := by kernel_rfl
/-- The sum of the way with the bit k. -/
def cv (x y : Int) (Y : Nat → Int) (j k : Nat) : Int := (Cv.s1 j k : Nat) * x + (Cv.s2 j k : Nat) * y + Y (Cv.nx j k)
/-- The survivor out of the ways. -/
def bestV (L : Nat) (z0 z1 : Int) : Array Value := if L = 2 ∧ z0 < z1 then #[.int .i64 1, .int .i64 z1] else #[.int .i64 0, .int .i64 z0]
/-- The ways as they come up. -/
def wayF (Z : Nat → Int) (k j : Nat) : Value := if j / 2 < k then (if j % 2 = 0 then .int .i64 (j / 2 : Nat) else .int .i64 (Z (j / 2))) else .int .i64 0
theorem cmpS_yes {z0 z1 : Int} (h : z0 < z1) : cmpS 1 z1 0 z0 < 0 := by
  unfold cmpS orI cmpI
  rw [if_pos h]
  decide
theorem cmpS_no {z0 z1 : Int} (h : ¬ z0 < z1) : ¬ cmpS 1 z1 0 z0 < 0 := by
  unfold cmpS orI cmpI
  rw [if_neg h]
  by_cases q : z1 < z0
  · rw [if_pos q]; decide
  · rw [if_neg q]; decide
theorem mul_small {p : Nat} (hp : p < 2) {x : Int} (hx : -8 ≤ x ∧ x ≤ 7) : -100 ≤ (p : Int) * x ∧ (p : Int) * x ≤ 100 := by
  match p, hp with
  | 0, _ => simp
  | 1, _ => simp; omega
theorem set_two {w : World} {b : Nat} {a c : Value} {t : TypeId} (x y : Value) (h : w.heap[b]? = some (.cells #[a, c] t (0, 0))) : ((w.setCell ⟨b, 0, none⟩ x).setCell ⟨b, 1, none⟩ y).heap[b]? = some (.cells #[x, y] t (0, 0)) := by
  rw [setCell_eq_setRow w b 0 _ t (0, 0) x h]
  have h1 := setRow_heap w b _ (#[a, c].setIfInBounds 0 x) t _ h
  rw [setCell_eq_setRow _ b 1 _ t (0, 0) y h1]
  exact setRow_heap _ b _ ((#[a, c].setIfInBounds 0 x).setIfInBounds 1 y) t _ h1
set_option maxRecDepth 100000 in
set_option maxHeartbeats 1000000 in
theorem best_any (L j : Nat) (hL : L = 1 ∨ L = 2) (hj : j < 64) (D o sb so n cap H : Nat) (x y : Int) (Y : Nat → Int) (w : World) (lD : D < w.heap.size) (lS : sb < w.heap.size) (lH : H < w.heap.size) (hn : 2 ≤ n)
    (hx : -8 ≤ x ∧ x ≤ 7) (hy : -8 ≤ y ∧ y ≤ 7) (hY : ∀ t, t < 64 → -10000000 ≤ Y t ∧ Y t ≤ 10000000)
    (cD : ∀ k q, k < 2 → q < 3 → w.cell? ⟨D, o + (k * 3 + q), none⟩ = some (.int .i64 (tabN (j * 6 + k * 3 + q) : Nat)))
    (cS0 : w.cell? ⟨sb, so, none⟩ = some (.int .i64 x)) (cS1 : w.cell? ⟨sb, so + 1, none⟩ = some (.int .i64 y)) (cH : ∀ t, t < 64 → w.cell? ⟨H, t * 2 + 1, none⟩ = some (.int .i64 (Y t))) :
    Calls Try.prog 35 #[.slice (some ⟨D, o, none⟩) L 2, .slice (some ⟨sb, so, none⟩) n cap, .pointer (some ⟨H, 0, none⟩)] w fun e w' => e = .returned (.agg (bestV L (cv x y Y j 0) (cv x y Y j 1))) ∧ Below w.heap.size w w' := by
  have hL2 : L ≤ 2 := by omega
  have cDh := Lib.hid (fun k (hk : k < 2) => ((tab_nums j k hk)))
  have B2 := ba (ba (Below.refl w.heap.size w) (.cells #[.int .i64 0, .int .i64 0] 68)) (.cells #[.int .i64 0, .int .i64 0, .int .i64 0, .int .i64 0] 85)
  have C2 := Cel.new (n := 4) (f := wayF (cv x y Y j) 0) (w.alloc (.cells #[.int .i64 0, .int .i64 0] 68)) #[.int .i64 0, .int .i64 0, .int .i64 0, .int .i64 0] 85 (fun i hi => match i, hi with | 0, _ => rfl | 1, _ => rfl | 2, _ => rfl | 3, _ => rfl)
  rw [World.size_alloc] at C2
  have R2 : ((w.alloc (.cells #[.int .i64 0, .int .i64 0] 68)).alloc (.cells #[.int .i64 0, .int .i64 0, .int .i64 0, .int .i64 0] 85)).heap[w.heap.size]? = some (.cells #[.int .i64 0, .int .i64 0] 68 (0, 0)) := (Below.heap_alloc _ _ _ (by rw [World.size_alloc]; omega)).trans (heap_alloc_new _ _)
  have HB2 := Lib.hid B2
  have HC2 := Lib.hid C2
  have HR2 := Lib.hid R2
  have HLD := Lib.hid lD
  have HLS := Lib.hid lS
  have HLH := Lib.hid lH
  have HCD := Lib.hid cD
  have HS0 := Lib.hid cS0
  have HS1 := Lib.hid cS1
  have HCH := Lib.hid cH
  have HYb := Lib.hid hY
  have HX := Lib.hid hx
  have HY := Lib.hid hy
  obtain ⟨Z, hZ⟩ : ∃ Z, cv x y Y j = Z := ⟨_, rfl⟩
  have HZ := Lib.hid (fun k => (congrFun hZ k).symm)
  rw [hZ] at HC2 ⊢
  clear B2 C2 R2 lD lS lH cD cS0 cS1 cH hY hx hy hZ
  go_enter Try.func35, Try.ntmps35
  go_wp2_with fail
  go_loopw [12] (fun i wr => ∃ k : Nat, k ≤ L ∧ i = .int .i64 (k : Nat) ∧ Cel wr (w.heap.size + 1) 4 (wayF Z k) ∧ wr.heap[w.heap.size]? = some (.cells #[.int .i64 0, .int .i64 0] 68 (0, 0)) ∧ Below w.heap.size w wr) (fun i _ => L - (intOf i).toNat)
  case atStart => exact ⟨0, Nat.zero_le _, rfl, HC2.out, HR2.out, HB2.out⟩
  case round =>
    obtain ⟨k, hk, rfl, hC, hR, hB⟩ := hrel
    have HC := Lib.hid hC
    have HR := Lib.hid hR
    have HB := Lib.hid hB
    clear hC hR HC2 HR2 HB2
    by_cases hlt : k < L
    · have k2 : k < 2 := by omega
      have t1 : decide ((k : Int) < (L : Int)) = true := by simp; omega
      have tn := cDh.out k k2
      obtain ⟨t, ht⟩ : ∃ t, Cv.nx j k = t := ⟨_, rfl⟩
      obtain ⟨u, hu⟩ : ∃ t, Cv.s1 j k = t := ⟨_, rfl⟩
      obtain ⟨v, hv⟩ : ∃ t, Cv.s2 j k = t := ⟨_, rfl⟩
      have t64 : t < 64 := by rw [← ht]; exact Cv.nx_lt hj k2
      have u2 : u < 2 := by rw [← hu]; exact Cv.s1_lt j k
      have v2 : v < 2 := by rw [← hv]; exact Cv.s2_lt j k
      rw [ht, hu, hv] at tn
      have d0 := (hB.cell (p := ⟨D, o + (k * 3 + 0), none⟩) HLD.out).trans (HCD.out k 0 k2 (by omega))
      have d1 := (hB.cell (p := ⟨D, o + (k * 3 + 1), none⟩) HLD.out).trans (HCD.out k 1 k2 (by omega))
      have d2 := (hB.cell (p := ⟨D, o + (k * 3 + 2), none⟩) HLD.out).trans (HCD.out k 2 k2 (by omega))
      rw [show j * 6 + k * 3 + 2 = j * 6 + k * 3 + 1 + 1 from rfl, tn.2.2] at d2
      rw [tn.2.1] at d1
      rw [Nat.add_zero, Nat.add_zero, tn.1] at d0
      rw [show o + (k * 3 + 1) = o + k * 3 + 1 by omega] at d1
      rw [show o + (k * 3 + 2) = o + k * 3 + 2 by omega] at d2
      have ZK := Lib.hid (show Z k = (u : Int) * x + (v : Int) * y + Y t by rw [HZ.out k]; unfold cv; rw [ht, hu, hv])
      have k9 : (k : Int) < (L : Int) := by omega
      clear tn ht hu hv hB
      go_upto_region 5 with fail
      have BE := ba HB.out (.cells #[.int .i64 (t : Nat), .int .i64 (u : Nat), .int .i64 (v : Nat)] 62)
      have CE := Cel.new (n := 3) (f := fun q => if q = 0 then .int .i64 (t : Nat) else if q = 1 then .int .i64 (u : Nat) else .int .i64 (v : Nat)) wr #[.int .i64 (t : Nat), .int .i64 (u : Nat), .int .i64 (v : Nat)] 62 (fun i hi => match i, hi with | 0, _ => rfl | 1, _ => rfl | 2, _ => rfl)
      have by0 := HYb.out t t64
      refine bestRegion k wr.heap.size sb so n cap H t (w.heap.size + 1) (u : Int) (v : Int) x y ((u : Int) * x) ((v : Int) * y) ((u : Int) * x + (v : Int) * y) (Y t) (Z k) k2 t64 hn CE.lt (Nat.lt_of_lt_of_le HLS.out BE.size) (Nat.lt_of_lt_of_le HLH.out BE.size) (CE.cell (by omega)) (CE.cell (by omega)) (CE.cell (by omega)) ((BE.cell (p := ⟨sb, so, none⟩) HLS.out).trans HS0.out) ((BE.cell (p := ⟨sb, so + 1, none⟩) HLS.out).trans HS1.out) ((BE.cell (p := ⟨H, t * 2 + 1, none⟩) HLH.out).trans (HCH.out t t64))
        rfl rfl (mul_small u2 HX.out) (mul_small v2 HY.out) rfl by0 ZK.out (by kernel_rfl) rfl rfl rfl rfl rfl rfl rfl rfl rfl rfl rfl rfl rfl rfl rfl rfl rfl rfl rfl rfl rfl rfl rfl rfl rfl rfl rfl rfl rfl rfl rfl ?_
      intro w1 D1
      simp only [Act.put, List.setIfInBounds_toArray, List.set_cons_succ, List.set_cons_zero, List.drop_succ_cons, List.drop_zero]
      have C3 := (HC.out.alloc (.cells #[.int .i64 (t : Nat), .int .i64 (u : Nat), .int .i64 (v : Nat)] 62)).below D1
      have R3 := (D1.block _ (by rw [World.size_alloc]; have := HB.out.size; have := HC.out.lt; omega)).trans ((Below.heap_alloc wr (.cells #[.int .i64 (t : Nat), .int .i64 (u : Nat), .int .i64 (v : Nat)] 62) w.heap.size (by have := HC.out.lt; omega)).trans HR.out)
      have B3 := bt BE D1
      refine wpList_store_mid rfl 68 (.tmp 41) (.tmp 40) rfl (w.heap.size + 1) (k * 2) #[.int .i64 (k : Nat), .int .i64 (Z k)] rfl rfl (C3.there (k * 2) 2 (by omega)) iSv (by simp [Value.oneCell']) ?_
      refine wpList_nil ?_
      have C4 := Lib.hid ((C3.setMany (k * 2) [.int .i64 (k : Nat), .int .i64 (Z k)] (by show k * 2 + 2 ≤ 4; omega) (.int .i64 0)).congr (g := wayF Z (k + 1)) (fun c hc => by
        show (if k * 2 ≤ c ∧ c < k * 2 + 2 then ([.int .i64 (k : Nat), .int .i64 (Z k)] : List Value).getD (c - k * 2) (.int .i64 0) else wayF Z k c) = wayF Z (k + 1) c
        unfold wayF
        by_cases e : k * 2 ≤ c ∧ c < k * 2 + 2
        · rw [if_pos e, if_pos (show c / 2 < k + 1 by omega)]
          by_cases e0 : c % 2 = 0
          · rw [if_pos e0, show c - k * 2 = 0 by omega, show c / 2 = k by omega]
            rfl
          · rw [if_neg e0, show c - k * 2 = 1 by omega, show c / 2 = k by omega]
            rfl
        · rw [if_neg e]
          by_cases g : c / 2 < k
          · rw [if_pos g, if_pos (show c / 2 < k + 1 by omega)]
          · rw [if_neg g, if_neg (show ¬ c / 2 < k + 1 by omega)]))
      have R4 := Lib.hid ((heap_setCells_ne (w.heap.size + 1) [.int .i64 (k : Nat), .int .i64 (Z k)] (k * 2) w1 w.heap.size (by omega)).trans R3)
      have B4 := Lib.hid (below_setCells (Nat.le_succ w.heap.size) [.int .i64 (k : Nat), .int .i64 (Z k)] (k * 2) w1 B3)
      obtain ⟨w2, hw2⟩ : ∃ w2, w1.setCells (w.heap.size + 1) (k * 2) [.int .i64 (k : Nat), .int .i64 (Z k)] = w2 := ⟨_, rfl⟩
      rw [hw2] at C4 R4 B4
      simp only [Act.put]
      rw [hw2]
      clear hw2 C3 R3 B3 BE CE D1 HC HR HB d0 d1 d2 by0
      go_wp2_with fail
      go_roundw
      case rel => exact ⟨k + 1, by omega, by go_num, C4.out, R4.out, B4.out⟩
      case measure => simp [intOf]; omega
    · obtain rfl : L = k := by omega
      have t1 : decide ((L : Int) < (L : Int)) = false := by simp
      have lV := HC.out.lt
      rcases hL with rfl | rfl
      · have V := Lib.hid (show bestV 1 (Z 0) (Z 1) = #[.int .i64 0, .int .i64 (Z 0)] from if_neg (by omega))
        have M := Lib.hid (min1_any (w.heap.size + 1) 0 (Z 0) wr lV (HC.out.cell (j := 0) (by omega)) (HC.out.cell (j := 1) (by omega)))
        have n1 : (0 : Int) ≤ 2 := by omega
        clear lV
        go_wp2_with fail
        (with_reducible refine M.out.mono ?_)
        rintro e w2 ⟨rfl, h2⟩
        have R5 := (h2.block _ (by have := HC.out.lt; omega)).trans HR.out
        have B5 := bt HB.out h2
        have r0 := cell_of_row w2 w.heap.size 0 _ _ _ R5
        have r1 := cell_of_row w2 w.heap.size 1 _ _ _ R5
        rw [show (#[Value.int .i64 0, Value.int .i64 0] : Array Value)[0]? = some (.int .i64 0) from rfl] at r0
        rw [show (#[Value.int .i64 0, Value.int .i64 0] : Array Value)[1]? = some (.int .i64 0) from rfl] at r1
        have z0 : w2.frozen? ⟨w.heap.size, 0, none⟩ = false := by unfold World.frozen?; rw [R5]; simp
        have z1 : w2.frozen? ⟨w.heap.size, 1, none⟩ = false := by unfold World.frozen?; rw [R5]; simp
        have R6 := Lib.hid (set_two (.int .i64 0) (.int .i64 (Z 0)) R5)
        have B6 := Lib.hid ((B5.setCell (p := ⟨w.heap.size, 0, none⟩) (Nat.le_refl _) (.int .i64 0)).setCell (p := ⟨w.heap.size, 1, none⟩) (Nat.le_refl _) (.int .i64 (Z 0)))
        clear R5 B5 h2 HC HR HB
        go_wp2_with fail
        exact bodyPost_ret (v := .agg #[.int .i64 0, .int .i64 (Z 0)]) (results_cell_row Try.results35 _ _ w.heap.size 68 #[.int .i64 0, .int .i64 (Z 0)] (0, 0) _ rfl R6.out Try.underlying68 rfl iSv) rfl ⟨by rw [V.out], B6.out⟩
      · have V := Lib.hid (show bestV 2 (Z 0) (Z 1) = if Z 0 < Z 1 then #[.int .i64 1, .int .i64 (Z 1)] else #[.int .i64 0, .int .i64 (Z 0)] from by unfold bestV; simp)
        have M := Lib.hid (min2_any (w.heap.size + 1) 0 (Z 0) 1 (Z 1) wr lV (HC.out.cell (j := 0) (by omega)) (HC.out.cell (j := 1) (by omega)) (HC.out.cell (j := 2) (by omega)) (HC.out.cell (j := 3) (by omega)))
        clear lV
        by_cases q : Z 0 < Z 1
        · have M1 := Lib.hid (M.out.mono (fun e w' h => show e = .returned (.agg #[.int .i64 1, .int .i64 (Z 1)]) ∧ Below wr.heap.size wr w' from ⟨h.1.trans (by rw [if_pos (cmpS_yes q)]), h.2⟩))
          have V1 := Lib.hid (V.out.trans (if_pos q))
          clear V M q
          go_wp2_with fail
          (with_reducible refine M1.out.mono ?_)
          rintro e w2 ⟨rfl, h2⟩
          have R5 := (h2.block _ (by have := HC.out.lt; omega)).trans HR.out
          have B5 := bt HB.out h2
          have r0 := cell_of_row w2 w.heap.size 0 _ _ _ R5
          have r1 := cell_of_row w2 w.heap.size 1 _ _ _ R5
          rw [show (#[Value.int .i64 0, Value.int .i64 0] : Array Value)[0]? = some (.int .i64 0) from rfl] at r0
          rw [show (#[Value.int .i64 0, Value.int .i64 0] : Array Value)[1]? = some (.int .i64 0) from rfl] at r1
          have z0 : w2.frozen? ⟨w.heap.size, 0, none⟩ = false := by unfold World.frozen?; rw [R5]; simp
          have z1 : w2.frozen? ⟨w.heap.size, 1, none⟩ = false := by unfold World.frozen?; rw [R5]; simp
          have R6 := Lib.hid (set_two (.int .i64 1) (.int .i64 (Z 1)) R5)
          have B6 := Lib.hid ((B5.setCell (p := ⟨w.heap.size, 0, none⟩) (Nat.le_refl _) (.int .i64 1)).setCell (p := ⟨w.heap.size, 1, none⟩) (Nat.le_refl _) (.int .i64 (Z 1)))
          clear R5 B5 h2 HC HR HB
          go_wp2_with fail
          exact bodyPost_ret (v := .agg #[.int .i64 1, .int .i64 (Z 1)]) (results_cell_row Try.results35 _ _ w.heap.size 68 #[.int .i64 1, .int .i64 (Z 1)] (0, 0) _ rfl R6.out Try.underlying68 rfl iSv) rfl ⟨by rw [V1.out], B6.out⟩
        · have M1 := Lib.hid (M.out.mono (fun e w' h => show e = .returned (.agg #[.int .i64 0, .int .i64 (Z 0)]) ∧ Below wr.heap.size wr w' from ⟨h.1.trans (by rw [if_neg (cmpS_no q)]), h.2⟩))
          have V1 := Lib.hid (V.out.trans (if_neg q))
          clear V M q
          go_wp2_with fail
          (with_reducible refine M1.out.mono ?_)
          rintro e w2 ⟨rfl, h2⟩
          have R5 := (h2.block _ (by have := HC.out.lt; omega)).trans HR.out
          have B5 := bt HB.out h2
          have r0 := cell_of_row w2 w.heap.size 0 _ _ _ R5
          have r1 := cell_of_row w2 w.heap.size 1 _ _ _ R5
          rw [show (#[Value.int .i64 0, Value.int .i64 0] : Array Value)[0]? = some (.int .i64 0) from rfl] at r0
          rw [show (#[Value.int .i64 0, Value.int .i64 0] : Array Value)[1]? = some (.int .i64 0) from rfl] at r1
          have z0 : w2.frozen? ⟨w.heap.size, 0, none⟩ = false := by unfold World.frozen?; rw [R5]; simp
          have z1 : w2.frozen? ⟨w.heap.size, 1, none⟩ = false := by unfold World.frozen?; rw [R5]; simp
          have R6 := Lib.hid (set_two (.int .i64 0) (.int .i64 (Z 0)) R5)
          have B6 := Lib.hid ((B5.setCell (p := ⟨w.heap.size, 0, none⟩) (Nat.le_refl _) (.int .i64 0)).setCell (p := ⟨w.heap.size, 1, none⟩) (Nat.le_refl _) (.int .i64 (Z 0)))
          clear R5 B5 h2 HC HR HB
          go_wp2_with fail
          exact bodyPost_ret (v := .agg #[.int .i64 0, .int .i64 (Z 0)]) (results_cell_row Try.results35 _ _ w.heap.size 68 #[.int .i64 0, .int .i64 (Z 0)] (0, 0) _ rfl R6.out Try.underlying68 rfl iSv) rfl ⟨by rw [V1.out], B6.out⟩
end Go.Proofs.Ytgfihljledmaaaa
