/- The contract of block's solved over this program. -/
import Derived.Test.YtlpjhmafplljaaaGreatDoorBlkIso
namespace Go.Proofs.YtlpjhmafplljaaaGreatDoor
open Go.RowKit
set_option linter.unusedVariables false

structure EntRegion (b i j : Nat) (y : BitVec 8) (fid : FuncId) (cap : Array Value) (A : Act) (w0 : World) (s : Nat → Bool) (a : Act) (w : World) : Prop where
  off : Off [20, 21, 22, 23, 24, 25, 26, 27] a A
  before : Below w0.heap.size w0 w
  t0 : s 0 = true → a.eval (.tmp 20) = .int .i64 (i : Nat)
  t1 : s 1 = true → a.eval (.tmp 21) = .int .i64 (j : Nat)
  t2 : s 2 = true → a.eval (.tmp 22) = .func (.func fid) #[] cap
  t3 : s 3 = true → a.eval (.tmp 23) = .int .i64 (i : Nat)
  t4 : s 4 = true → a.eval (.tmp 24) = .int .i64 (j : Nat)
  t5 : s 5 = true → a.eval (.tmp 25) = .int .u8 (y.toNat : Nat)
  t6 : s 6 = true → a.eval (.tmp 26) = .pointer (some ⟨b, i * 9, none⟩)
  t7 : s 7 = true → a.eval (.tmp 27) = .pointer (some ⟨b, i * 9 + j, none⟩)
set_option maxHeartbeats 2000000 in
set_option maxRecDepth 100000 in
theorem entRegion {id : Nat} {l : List Oper} {A : Act} {w : World} {Q : Exit → Act → World → Prop} (b i j : Nat) (y : BitVec 8) (fid : FuncId) (cap : Array Value)
    (hi : i < 8) (hj : j < 9) (hf : ∀ args w, (callFunc fid args).run Tryz.prog w = .ok (.enter fid args) w) (hE : ∀ w', Below w.heap.size w w' → Calls Tryz.prog fid (#[] ++ #[.int .i64 (i : Nat), .int .i64 (j : Nat)] ++ cap) w' fun e w2 => e = .returned (.int .u8 (y.toNat : Nat)) ∧ Below w'.heap.size w' w2)
    (hB : tableH l.toArray 8 (fun i => match i with | 0 => [] | 1 => [] | 2 => [] | 3 => [] | 4 => [] | 5 => [2, 3, 4] | 6 => [0] | 7 => [1, 6] | _ => []) (fun _ => []) = true)
    (h0 : pick l 0 = some (.move (.tmp 6), some 20))
    (h1 : pick l 1 = some (.move (.tmp 7), some 21))
    (h2 : pick l 2 = some (.move (.tmp 1), some 22))
    (h3 : pick l 3 = some (.move (.tmp 6), some 23))
    (h4 : pick l 4 = some (.move (.tmp 7), some 24))
    (h5 : pick l 5 = some (.call { callee := .value (.tmp 22), args := #[.tmp 23, .tmp 24], argTypes := #[3, 3] }, some 25))
    (h6 : pick l 6 = some (.indexAddr 120 (.tmp 5) (.tmp 20), some 26))
    (h7 : pick l 7 = some (.indexAddr 118 (.tmp 26) (.tmp 21), some 27))
    (hs : A.tmps.size = 54)
    (x5 : A.eval (.tmp 5) = .pointer (some ⟨b, 0, none⟩))
    (x6 : A.eval (.tmp 6) = .int .i64 (i : Nat))
    (x7 : A.eval (.tmp 7) = .int .i64 (j : Nat))
    (x1 : A.eval (.tmp 1) = .func (.func fid) #[] cap)
    (h : ∀ w1, Below w.heap.size w w1 → wpList Tryz.prog l.toArray Q (l.drop 8) ((((((((A.put (some 20) (.int .i64 (i : Nat))).put (some 21) (.int .i64 (j : Nat))).put (some 22) (.func (.func fid) #[] cap)).put (some 23) (.int .i64 (i : Nat))).put (some 24) (.int .i64 (j : Nat))).put (some 25) (.int .u8 (y.toNat : Nat))).put (some 26) (.pointer (some ⟨b, i * 9, none⟩))).put (some 27) (.pointer (some ⟨b, i * 9 + j, none⟩))) w1) :
    (Code.region id l.toArray true).wp Tryz.prog Q A w := by
  refine wp_region_head (by kernel_rfl) _ _ _ hB (EntRegion b i j y fid cap A w) ⟨Off.refl _ _, (Below.refl _ _).drew, by simp, by simp, by simp, by simp, by simp, by simp, by simp, by simp⟩ ?_ ?_
  · intro s a w' S i' o il ho hsi hT K hK
    have sz : a.tmps.size = 54 := by rw [S.off.2.1]; exact hs
    have y5 : a.eval (.tmp 5) = .pointer (some ⟨b, 0, none⟩) := by rw [S.off.eval (by decide)]; exact x5
    have y6 : a.eval (.tmp 6) = .int .i64 (i : Nat) := by rw [S.off.eval (by decide)]; exact x6
    have y7 : a.eval (.tmp 7) = .int .i64 (j : Nat) := by rw [S.off.eval (by decide)]; exact x7
    have y1 : a.eval (.tmp 1) = .func (.func fid) #[] cap := by rw [S.off.eval (by decide)]; exact x1
    match i', il, ho, hsi, hT with
    | 0, _, ho, hsi, hT =>
      obtain ⟨e1, e2⟩ := pick_of h0 ho
      have BW := S.before
      refine step_val (v := .int .i64 (i : Nat)) (by simp only [execOp, e1, y6]; go_simp) (hK _ _ ?_)
      rw [e2]
      exact ⟨S.off.put (by decide) _, S.before, fun _ => (eval_put _ _ _ (by omega)).trans rfl, kp S.t1, kp S.t2, kp S.t3, kp S.t4, kp S.t5, kp S.t6, kp S.t7⟩
    | 1, _, ho, hsi, hT =>
      obtain ⟨e1, e2⟩ := pick_of h1 ho
      have BW := S.before
      refine step_val (v := .int .i64 (j : Nat)) (by simp only [execOp, e1, y7]; go_simp) (hK _ _ ?_)
      rw [e2]
      exact ⟨S.off.put (by decide) _, S.before, kp S.t0, fun _ => (eval_put _ _ _ (by omega)).trans rfl, kp S.t2, kp S.t3, kp S.t4, kp S.t5, kp S.t6, kp S.t7⟩
    | 2, _, ho, hsi, hT =>
      obtain ⟨e1, e2⟩ := pick_of h2 ho
      have BW := S.before
      refine step_val (v := .func (.func fid) #[] cap) (by simp only [execOp, e1, y1]; go_simp) (hK _ _ ?_)
      rw [e2]
      exact ⟨S.off.put (by decide) _, S.before, kp S.t0, kp S.t1, fun _ => (eval_put _ _ _ (by omega)).trans rfl, kp S.t3, kp S.t4, kp S.t5, kp S.t6, kp S.t7⟩
    | 3, _, ho, hsi, hT =>
      obtain ⟨e1, e2⟩ := pick_of h3 ho
      have BW := S.before
      refine step_val (v := .int .i64 (i : Nat)) (by simp only [execOp, e1, y6]; go_simp) (hK _ _ ?_)
      rw [e2]
      exact ⟨S.off.put (by decide) _, S.before, kp S.t0, kp S.t1, kp S.t2, fun _ => (eval_put _ _ _ (by omega)).trans rfl, kp S.t4, kp S.t5, kp S.t6, kp S.t7⟩
    | 4, _, ho, hsi, hT =>
      obtain ⟨e1, e2⟩ := pick_of h4 ho
      have BW := S.before
      refine step_val (v := .int .i64 (j : Nat)) (by simp only [execOp, e1, y7]; go_simp) (hK _ _ ?_)
      rw [e2]
      exact ⟨S.off.put (by decide) _, S.before, kp S.t0, kp S.t1, kp S.t2, kp S.t3, fun _ => (eval_put _ _ _ (by omega)).trans rfl, kp S.t5, kp S.t6, kp S.t7⟩
    | 5, _, ho, hsi, hT =>
      obtain ⟨e1, e2⟩ := pick_of h5 ho
      have D2 : s 2 = true := list_pos hT (d := 2) (by decide)
      have D3 : s 3 = true := list_pos hT (d := 3) (by decide)
      have D4 : s 4 = true := list_pos hT (d := 4) (by decide)
      have BW := S.before
      refine step_callc fid #[] cap hf _ (by simp only [S.t2 D2]) _ _ e1 #[.int .i64 (i : Nat), .int .i64 (j : Nat)] (by simp only [List.map_toArray, List.map_cons, List.map_nil, S.t3 D3, S.t4 D4]) ((hE _ BW).mono ?_)
      rintro e w2 ⟨rfl, BB⟩
      refine ⟨_, rfl, hK _ _ ?_⟩
      rw [e2]
      exact ⟨S.off.put (by decide) _, bt BW BB, kp S.t0, kp S.t1, kp S.t2, kp S.t3, kp S.t4, fun _ => (eval_put _ _ _ (by omega)).trans rfl, kp S.t6, kp S.t7⟩
    | 6, _, ho, hsi, hT =>
      obtain ⟨e1, e2⟩ := pick_of h6 ho
      have D0 : s 0 = true := list_pos hT (d := 0) (by decide)
      have BW := S.before
      refine step_val (v := .pointer (some ⟨b, i * 9, none⟩)) (by simp only [execOp, e1, y5, S.t0 D0]; go_simp; intro h; omega) (hK _ _ ?_)
      rw [e2]
      exact ⟨S.off.put (by decide) _, S.before, kp S.t0, kp S.t1, kp S.t2, kp S.t3, kp S.t4, kp S.t5, fun _ => (eval_put _ _ _ (by omega)).trans rfl, kp S.t7⟩
    | 7, _, ho, hsi, hT =>
      obtain ⟨e1, e2⟩ := pick_of h7 ho
      have D1 : s 1 = true := list_pos hT (d := 1) (by decide)
      have D6 : s 6 = true := list_pos hT (d := 6) (by decide)
      have BW := S.before
      refine step_val (v := .pointer (some ⟨b, i * 9 + j, none⟩)) (by simp only [execOp, e1, S.t1 D1, S.t6 D6]; go_simp; intro h; omega) (hK _ _ ?_)
      rw [e2]
      exact ⟨S.off.put (by decide) _, S.before, kp S.t0, kp S.t1, kp S.t2, kp S.t3, kp S.t4, kp S.t5, kp S.t6, fun _ => (eval_put _ _ _ (by omega)).trans rfl⟩
    | _ + 8, il, _, _, _ => exact absurd il (by omega)
  · intro s a w' S hall
    have a0 := hall 0 (by omega)
    have a1 := hall 1 (by omega)
    have a2 := hall 2 (by omega)
    have a3 := hall 3 (by omega)
    have a4 := hall 4 (by omega)
    have a5 := hall 5 (by omega)
    have a6 := hall 6 (by omega)
    have a7 := hall 7 (by omega)
    have e := off_norm _ (by intro d hd; simp at hd; omega) S.off
    simp only [List.foldl, S.t0 a0, S.t1 a1, S.t2 a2, S.t3 a3, S.t4 a4, S.t5 a5, S.t6 a6, S.t7 a7] at e
    rw [e]
    exact h _ S.before
/-- What solved does: the only solution, or a panic where something other than 0 is sent to 0. -/
def Slvd (n : Nat) (M : Nat → Nat → BitVec 8) (w : World) (e : Ending) (w' : World) : Prop :=
  Below w.heap.size w w' ∧ ((∃ g y, e = .returned (.slice (some ⟨g, 0, none⟩) n n) ∧ w.heap.size ≤ g ∧ NumsK .u8 w' g n (fun i => (y i).toNat) ∧ Blk.Solves M n y 1#8 ∧ ∀ z, Blk.Solves M n z 1#8 → ∀ r, r < n → z r = y r) ∨
    ((∃ z r, r < n ∧ Blk.Solves M n z 0#8 ∧ z r = 1#8) ∧ ∃ p, e = .panicked p ∧ Pan p))
set_option maxRecDepth 100000 in
set_option maxHeartbeats 1000000 in
theorem solved_any (n : Nat) (fid : FuncId) (cap : Array Value) (M : Nat → Nat → BitVec 8) (hn : n ≤ 8) (w : World) (hf : ∀ args w, (callFunc fid args).run Tryz.prog w = .ok (.enter fid args) w)
    (hE : ∀ i j w1, i < n → j ≤ n → Below w.heap.size w w1 → Calls Tryz.prog fid (#[] ++ #[.int .i64 (i : Nat), .int .i64 (j : Nat)] ++ cap) w1 fun e w2 => e = .returned (.int .u8 ((M i j).toNat : Nat)) ∧ Below w1.heap.size w1 w2) :
    Calls Tryz.prog 72 #[.int .i64 (n : Nat), .func (.func fid) #[] cap] w (Slvd n M w) := by
  have HE := Lib.hid hE
  have HFF := Lib.hid hf
  have M0 := Lib.hid (new_mat w)
  have B0 := Lib.hid (ba (Below.refl w.heap.size w) (.cells Tryz.zeroCells120 120))
  clear hE hf
  go_enter Tryz.func72, Tryz.ntmps72
  go_wp2_with fail
  go_loopw [12] (fun u wr => ∃ (i : Nat) (m : Nat → Nat → BitVec 8), i ≤ n ∧ u = .int .i64 (i : Nat) ∧ Matx wr w.heap.size m ∧ (∀ r c, r < i → c ≤ n → m r c = M r c) ∧ Below w.heap.size w wr) (fun u _ => n - (intOf u).toNat)
  case atStart => exact ⟨0, _, Nat.zero_le _, rfl, M0.out, fun r c h _ => absurd h (Nat.not_lt_zero _), B0.out⟩
  case round =>
    obtain ⟨i, m, hi, rfl, hM, hA, hB⟩ := hrel
    have HM := Lib.hid hM
    have HA := Lib.hid hA
    have HB := Lib.hid hB
    clear hM hA hB M0 B0
    by_cases hlt : i < n
    · have i8 : i < 8 := by omega
      go_wp2_with fail
      go_loopw [17] (fun u wr => ∃ (j : Nat) (m : Nat → Nat → BitVec 8), j ≤ n + 1 ∧ u = .int .i64 (j : Nat) ∧ Matx wr w.heap.size m ∧ (∀ r c, r < i → c ≤ n → m r c = M r c) ∧ (∀ c, c < j → m i c = M i c) ∧ Below w.heap.size w wr) (fun u _ => n + 1 - (intOf u).toNat)
      case atStart => exact ⟨0, _, Nat.zero_le _, rfl, HM.out, HA.out, fun c h => absurd h (Nat.not_lt_zero _), HB.out⟩
      case round =>
        obtain ⟨j, m, hj, rfl, hM, hA, hC, hB⟩ := hrel
        have HM := Lib.hid hM
        have HA := Lib.hid hA
        have HC := Lib.hid hC
        have HB := Lib.hid hB
        clear hM hA hC hB
        by_cases hjn : j < n + 1
        · have j9 : j < 9 := by omega
          have jn : (j : Int) < (n : Int) + 1 := by omega
          have EN := Lib.hid (fun w' (b : Below wr.heap.size wr w') => HE.out i j w' hlt (by omega) (bt HB.out b))
          obtain ⟨y, hy⟩ : ∃ y, M i j = y := ⟨_, rfl⟩
          rw [hy] at EN
          have HY := Lib.hid hy
          clear hy
          go_upto_region 8 with fail
          refine entRegion w.heap.size i j y fid cap i8 j9 HFF.out EN.out (by kernel_rfl) rfl rfl rfl rfl rfl rfl rfl rfl rfl rfl rfl rfl rfl ?_
          intro w1 B1
          simp only [Act.put, List.setIfInBounds_toArray, List.set_cons_succ, List.set_cons_zero, List.drop_succ_cons, List.drop_zero]
          have M1 := HM.out.below B1
          have c1 := M1.cell i8 j9
          have f1 := M1.free i8 j9
          obtain ⟨old, hold⟩ : ∃ y, (m i j).toNat = y := ⟨_, rfl⟩
          rw [hold] at c1
          have M2 := Lib.hid (M1.put i8 j9 y)
          have A2 := Lib.hid (show ∀ r c, r < i → c ≤ n → (fun i' j' => if i' = i ∧ j' = j then y else m i' j') r c = M r c from fun r c h1 h2 => by
            show (if r = i ∧ c = j then y else m r c) = _
            rw [if_neg (by omega)]
            exact HA.out r c h1 h2)
          have C2 := Lib.hid (show ∀ c, c < j + 1 → (fun i' j' => if i' = i ∧ j' = j then y else m i' j') i c = M i c from fun c h => by
            show (if i = i ∧ c = j then y else m i c) = _
            by_cases e : c = j
            · rw [if_pos ⟨rfl, e⟩, e, HY.out]
            · rw [if_neg (fun q => e q.2)]
              exact HC.out c (by omega))
          have B2 := Lib.hid ((bt HB.out B1).setCell (p := ⟨w.heap.size, i * 9 + j, none⟩) (Nat.le_refl _) (.int .u8 (y.toNat : Nat)))
          obtain ⟨m', hm'⟩ : ∃ m', (fun i' j' => if i' = i ∧ j' = j then y else m i' j') = m' := ⟨_, rfl⟩
          rw [hm'] at M2 A2 C2
          obtain ⟨yn, hyn⟩ : ∃ v, y.toNat = v := ⟨_, rfl⟩
          rw [hyn] at M2 B2 ⊢
          clear hm' hyn hold M1 B1 HM HA HC HB EN
          go_wp2_with fail
          go_roundw
          case rel => exact ⟨j + 1, m', by omega, by go_num, M2.out, A2.out, C2.out, B2.out⟩
          case measure => simp [intOf]; omega
        · obtain rfl : j = n + 1 := by omega
          have A2 := Lib.hid (show ∀ r c, r < i + 1 → c ≤ n → m r c = M r c from fun r c h1 h2 => by
            by_cases e : r = i
            · rw [e]; exact HC.out c (by omega)
            · exact HA.out r c (by omega) h2)
          have jn : ¬ ((n + 1 : Nat) : Int) < (n : Int) + 1 := by omega
          clear HA HC
          go_wp2_with fail
          go_roundw
          case rel => exact ⟨i + 1, m, by omega, by go_num, HM.out, A2.out, HB.out⟩
          case measure => simp [intOf]; omega
    · obtain rfl : i = n := by omega
      have HQ := Lib.hid (Blk.Equiv.of_eq (n := i) (A := M) (B := m) (fun r c hr hc => (HA.out r c hr hc).symm))
      clear HA HE HFF
      go_wp2_with fail
      go_loopw [31] (fun u wr => ∃ (t : Nat) (m : Nat → Nat → BitVec 8), t ≤ i ∧ u = .int .i64 (t : Nat) ∧ Matx wr w.heap.size m ∧ Blk.Equiv i M m ∧ Blk.UnitTo m i t ∧ Below w.heap.size w wr) (fun u _ => i - (intOf u).toNat)
      case atStart => exact ⟨0, m, Nat.zero_le _, rfl, HM.out, HQ.out, Blk.unit_zero m i, HB.out⟩
      case round =>
        obtain ⟨t, m, ht, rfl, hM, hQ, hU, hB⟩ := hrel
        have HM := Lib.hid hM
        have HQ := Lib.hid hQ
        have HU := Lib.hid hU
        have HB := Lib.hid hB
        clear hM hQ hU hB
        by_cases htn : t < i
        · have IS := Lib.hid (isolate_any w.heap.size i t m hn htn wr HM.out HU.out)
          go_wp2_with fail
          (with_reducible refine IS.out.mono ?_)
          rintro e w2 ⟨hb, ⟨M', rfl, hM2, hQ2, hU2⟩ | ⟨hz, p, rfl, hp⟩⟩
          · have M2 := Lib.hid hM2
            have Q2 := Lib.hid (HQ.out.trans hQ2)
            have U2 := Lib.hid hU2
            have B2 := Lib.hid (HB.out.trans hb.below)
            clear hM2 hQ2 hU2 hb IS HM HQ HU HB
            go_wp2_with fail
            go_roundw
            case rel => exact ⟨t + 1, M', by omega, by go_num, M2.out, Q2.out, U2.out, B2.out⟩
            case measure => simp [intOf]; omega
          · have FIN := Lib.hid (show Slvd i M w (.panicked p) w2 from ⟨HB.out.trans hb.below, .inr ⟨by
              obtain ⟨z, h1, h2⟩ := Blk.stuck_kernel HU.out htn hz
              exact ⟨z, t, htn, (HQ.out z 0#8).2 h1, h2⟩, p, rfl, hp⟩⟩)
            exact ⟨rfl, FIN.out⟩
        · obtain rfl : t = i := by omega
          rename World => w1
          have S1 := Lib.hid ((HQ.out (fun r => m r t) 1#8).2 ((Blk.unit_solves HU.out (fun r => m r t) 1#8).2 (fun r hr => by rw [Gal.mul_one])))
          have S2 := Lib.hid (show ∀ z, Blk.Solves M t z 1#8 → ∀ r, r < t → z r = (fun r => m r t) r from fun z hz r hr => by
            have := (Blk.unit_solves HU.out z 1#8).1 ((HQ.out z 1#8).1 hz) r hr
            rwa [Gal.mul_one] at this)
          have BT := Lib.hid HB.out.size
          have hbt := HM.out.lt
          have HBT := Lib.hid hbt
          obtain ⟨i0, hi0, hz0, hz1, hz2⟩ := info_parts info_u8
          clear HQ HU hbt
          go_wp2_with (at_make; refine wpList_make_full _ rfl _ _ 41 rfl w1.heap.size 5 i0 (.int .u8 0) 1 Tryz.underlying41 hi0 hz0 hz1 .i64 .i64 _ _ t rfl rfl rfl rfl (by rw [hz2]; omega) (by unfold maxLen; omega) (Nat.le_refl _) ?_; intro w5 hown hgrow; have B5 := (Below.refl w1.heap.size w1).grown hgrow (Nat.le_refl _) (fun k e => by cases e); have M5 := Lib.hid (HM.out.below B5); have N5 := Lib.hid (madeNums hown); have B6 := Lib.hid (bt HB.out B5); clear hown hgrow B5)
          go_loopw [41] (fun u wr => ∃ k : Nat, k ≤ t ∧ u = .int .i64 (k : Nat) ∧ Matx wr w.heap.size m ∧ NumsK .u8 wr w1.heap.size t (fun r => (if r < k then m r t else 0#8).toNat) ∧ Below w.heap.size w wr) (fun u _ => t - (intOf u).toNat)
          case atStart => exact ⟨0, Nat.zero_le _, rfl, M5.out, N5.out.congr (fun r _ => by rw [if_neg (Nat.not_lt_zero _)]; rfl), B6.out⟩
          case round =>
            obtain ⟨k, hk, rfl, hM, hN, hB⟩ := hrel
            have HM3 := Lib.hid hM
            have HN3 := Lib.hid hN
            have HB3 := Lib.hid hB
            by_cases hkt : k < t
            · have k8 : k < 8 := by omega
              have t9 : t < 9 := by omega
              have c1 := hM.cell k8 t9
              have c2 := hN.cell hkt
              have f2 := hN.frozen hkt
              obtain ⟨old, hold⟩ : ∃ y, (if k < k then m k t else 0#8).toNat = y := ⟨_, rfl⟩
              rw [hold] at c2
              obtain ⟨v, hv⟩ : ∃ y, (m k t).toNat = y := ⟨_, rfl⟩
              rw [hv] at c1
              have N7 := Lib.hid (HN3.out.set (g := fun r => (if r < k + 1 then m r t else 0#8).toNat) k v hkt (by rw [if_pos (by omega), hv]) (fun r _ hr => by
                by_cases q : r < k
                · rw [if_pos q, if_pos (by omega)]
                · rw [if_neg q, if_neg (by omega)]))
              have M7 := Lib.hid (show Matx (wr.setCell ⟨w1.heap.size, k, none⟩ (.int .u8 (v : Nat))) w.heap.size m from NumsK.setOther HM3.out (c := w1.heap.size) (by have := HBT.out; omega) _)
              have B7 := Lib.hid (HB3.out.setCell (p := ⟨w1.heap.size, k, none⟩) BT.out (.int .u8 (v : Nat)))
              have q1 : (k : Int) < 8 := by omega
              have q2 : (t : Int) < 9 := by omega
              clear hM hN hB hold hv HM3 HN3 HB3
              go_wp2_with fail
              go_roundw
              case rel => exact ⟨k + 1, by omega, by go_num, M7.out, N7.out, B7.out⟩
              case measure => simp [intOf]; omega
            · obtain rfl : k = t := by omega
              have FIN := Lib.hid (show ∀ q, Slvd k M w (.returned (.slice (some ⟨w1.heap.size, 0, none⟩) k k)) q ∨ q ≠ wr from fun q => by
                by_cases e : q = wr
                · subst e
                  exact .inl ⟨HB3.out, .inl ⟨w1.heap.size, fun r => m r k, rfl, BT.out, HN3.out.congr (fun r hr => by rw [if_pos hr]), S1.out, S2.out⟩⟩
                · exact .inr e)
              clear hM hN hB
              go_wp2_with fail
              go_ret
              rcases FIN.out wr with h | h
              · exact h
              · exact absurd rfl h
end Go.Proofs.YtlpjhmafplljaaaGreatDoor
