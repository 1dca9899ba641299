/- The contract of block's corrected over this program: the walk. -/
import Derived.Test.YtlpjhmafplljaaaGreatDoorPkC
namespace Go.Proofs.YtlpjhmafplljaaaGreatDoor
open Go.RowKit
set_option linter.unusedVariables false

/-- The doubtful places of a locator that is the only one. -/
def DouV (bl : List UInt8) (er : Nat → Bool) (n q B : Nat) (v : Value) (w : World) : Prop := ∃ y, (∀ z, Blk.Solves (Blk.locB (Blk.twist (Blk.elem n) (Blk.ers er n) (Blk.syn bl)) (Blk.ers er n).length q) q z 1#8 → ∀ r, r < q → z r = y r) ∧
  w.ownsRow B 3 1 v (Blk.ers (Blk.dbt er (Blk.elem n) (Blk.locP y q)) n).length (plv (Blk.ers (Blk.dbt er (Blk.elem n) (Blk.locP y q)) n))
theorem DouV.mono {bl : List UInt8} {er : Nat → Bool} {n q B : Nat} {v : Value} {w w' : World} (h : DouV bl er n q B v w) (hb : Below w.heap.size w w') : DouV bl er n q B v w' := by
  obtain ⟨y, h1, h2⟩ := h
  exact ⟨y, h1, own_below h2 hb⟩
/-- A variable for places, made anew. -/
def AlV (B : Nat) (v : Value) (w : World) : Prop := ∃ g, v = .pointer (some ⟨g, 0, none⟩) ∧ B ≤ g ∧ w.heap[g]? = some (.cells #[.slice none 0 0] 28)
theorem AlV.mono {B : Nat} {v : Value} {w w' : World} (h : AlV B v w) (hb : Below w.heap.size w w') : AlV B v w' := by
  obtain ⟨g, h1, h2, h3⟩ := h
  exact ⟨g, h1, h2, (hb.block g (Array.getElem?_eq_some_iff.1 h3).1).trans h3⟩
theorem al_new {B : Nat} (w : World) (hB : B ≤ w.heap.size) : AlV B (.pointer (some ⟨w.heap.size, 0, none⟩)) (w.alloc (.cells #[.slice none 0 0] 28)) := ⟨_, rfl, hB, heap_alloc_last w _⟩
structure ClRegion (bx sy b cb eb ce n pb q B0 : Nat) (bl : List UInt8) (er : Nat → Bool) (LV : Value → Prop) (LB : List PanicEntry → Prop) (A : Act) (w0 : World) (s : Nat → Bool) (a : Act) (w : World) : Prop where
  off : Off [14, 15, 16, 17, 18, 19, 7] a A
  before : Below w0.heap.size w0 w
  t0 : s 0 = true → a.eval (.tmp 14) = .agg #[.slice (some ⟨b, 0, none⟩) n cb, .slice (some ⟨eb, 0, none⟩) n ce]
  t1 : s 1 = true → a.eval (.tmp 15) = .agg #[.slice (some ⟨b, 0, none⟩) n cb, .slice (some ⟨eb, 0, none⟩) n ce]
  t2 : s 2 = true → a.eval (.tmp 16) = .func (.func 89) #[] #[.pointer (some ⟨pb, 0, none⟩)]
  t3 : s 3 = true → a.eval (.tmp 17) = .int .i64 (q : Nat)
  t4 : s 4 = true → ∃ v4, a.eval (.tmp 18) = v4 ∧ LV v4
  t5 : s 5 = true → ∃ v5, a.eval (.tmp 19) = v5 ∧ DouV bl er n q B0 v5 w
  t6 : s 6 = true → ∃ v6, a.eval (.tmp 7) = v6 ∧ AlV B0 v6 w
set_option maxHeartbeats 2000000 in
set_option maxRecDepth 100000 in
theorem clRegion {id : Nat} {l : List Oper} {A : Act} {w : World} {Q : Exit → Act → World → Prop} (bx sy b cb eb ce n pb q B0 : Nat) (bl : List UInt8) (er : Nat → Bool) (LV : Value → Prop) (LB : List PanicEntry → Prop)
    (hB0 : B0 ≤ w.heap.size) (hD : ∀ v w', LV v → Below w.heap.size w w' → Calls Tryz.prog 70 #[.agg #[.slice (some ⟨b, 0, none⟩) n cb, .slice (some ⟨eb, 0, none⟩) n ce], v] w' fun e w2 => ∃ u, e = .returned u ∧ DouV bl er n q B0 u w2 ∧ Below w'.heap.size w' w2)
    (hbx : bx < w.heap.size) (hc0 : w.cell? ⟨bx, 0, none⟩ = some (.slice (some ⟨b, 0, none⟩) n cb)) (hc1 : w.cell? ⟨bx, 1, none⟩ = some (.slice (some ⟨eb, 0, none⟩) n ce)) (hsy : sy < w.heap.size) (hcs : w.cell? ⟨sy, 0, none⟩ = some (.func (.func 89) #[] #[.pointer (some ⟨pb, 0, none⟩)])) (hL : ∀ w', Below w.heap.size w w' → Calls Tryz.prog 71 #[.agg #[.slice (some ⟨b, 0, none⟩) n cb, .slice (some ⟨eb, 0, none⟩) n ce], .func (.func 89) #[] #[.pointer (some ⟨pb, 0, none⟩)], .int .i64 (q : Nat)] w' fun e w2 => (∃ v, e = .returned v ∧ LV v ∧ Below w'.heap.size w' w2) ∨ (∃ p, e = .panicked p ∧ LB p ∧ Below w'.heap.size w' w2))
    (hB : tableH l.toArray 7 (fun i => match i with | 0 => [] | 1 => [] | 2 => [] | 3 => [] | 4 => [1, 2, 3] | 5 => [0, 4] | 6 => [] | _ => []) (fun _ => []) = true)
    (h0 : pick l 0 = some (.load 53 (.tmp 2), some 14))
    (h1 : pick l 1 = some (.load 53 (.tmp 2), some 15))
    (h2 : pick l 2 = some (.load 59 (.tmp 6), some 16))
    (h3 : pick l 3 = some (.move (.tmp 1), some 17))
    (h4 : pick l 4 = some (.call { callee := .value (.func 71), args := #[.tmp 15, .tmp 16, .tmp 17], argTypes := #[53, 59, 3] }, some 18))
    (h5 : pick l 5 = some (.call { callee := .value (.func 70), args := #[.tmp 14, .tmp 18], argTypes := #[53, 9] }, some 19))
    (h6 : pick l 6 = some (.alloc 28, some 7))
    (hs : A.tmps.size = 50)
    (x1 : A.eval (.tmp 1) = .int .i64 (q : Nat))
    (x2 : A.eval (.tmp 2) = .pointer (some ⟨bx, 0, none⟩))
    (x6 : A.eval (.tmp 6) = .pointer (some ⟨sy, 0, none⟩))
    (hp4 : ∀ a w' p, Off [14, 15, 16, 17, 18, 19, 7] a A → Below w.heap.size w w' → LB p → Q (.panic p) a w')
    (h : ∀ v4 v5 v6 w1, Below w.heap.size w w1 → LV v4 → DouV bl er n q B0 v5 w1 → AlV B0 v6 w1 → wpList Tryz.prog l.toArray Q (l.drop 7) (((((((A.put (some 14) (.agg #[.slice (some ⟨b, 0, none⟩) n cb, .slice (some ⟨eb, 0, none⟩) n ce])).put (some 15) (.agg #[.slice (some ⟨b, 0, none⟩) n cb, .slice (some ⟨eb, 0, none⟩) n ce])).put (some 16) (.func (.func 89) #[] #[.pointer (some ⟨pb, 0, none⟩)])).put (some 17) (.int .i64 (q : Nat))).put (some 18) (v4)).put (some 19) (v5)).put (some 7) (v6)) w1) :
    (Code.region id l.toArray true).wp Tryz.prog Q A w := by
  refine wp_region_head (by kernel_rfl) _ _ _ hB (ClRegion bx sy b cb eb ce n pb q B0 bl er LV LB A w) ⟨Off.refl _ _, (Below.refl _ _).drew, by simp, by simp, by simp, by simp, by simp, by simp, by simp⟩ ?_ ?_
  · intro s a w' S i' o il ho hsi hT K hK
    have sz : a.tmps.size = 50 := by rw [S.off.2.1]; exact hs
    have y1 : a.eval (.tmp 1) = .int .i64 (q : Nat) := by rw [S.off.eval (by decide)]; exact x1
    have y2 : a.eval (.tmp 2) = .pointer (some ⟨bx, 0, none⟩) := by rw [S.off.eval (by decide)]; exact x2
    have y6 : a.eval (.tmp 6) = .pointer (some ⟨sy, 0, none⟩) := by rw [S.off.eval (by decide)]; exact x6
    match i', il, ho, hsi, hT with
    | 0, _, ho, hsi, hT =>
      obtain ⟨e1, e2⟩ := pick_of h0 ho
      have BW := S.before
      have cl0 := (BW.cell (p := ⟨bx, 0, none⟩) hbx).trans hc0
      have cl1 := (BW.cell (p := ⟨bx, 1, none⟩) hbx).trans hc1
      refine step_val (v := .agg #[.slice (some ⟨b, 0, none⟩) n cb, .slice (some ⟨eb, 0, none⟩) n ce]) (by simp only [execOp, e1, y2]; go_simp) (hK _ _ ?_)
      rw [e2]
      exact ⟨S.off.put (by decide) _, S.before, fun _ => (eval_put _ _ _ (by omega)).trans rfl, kp S.t1, kp S.t2, kp S.t3, fun g => (S.t4 (by simpa using g)).imp fun b hb => ⟨by rw [eval_put_ne _ _ _ _ (by decide)]; exact hb.1, hb.2⟩, fun g => (S.t5 (by simpa using g)).imp fun b hb => ⟨by rw [eval_put_ne _ _ _ _ (by decide)]; exact hb.1, hb.2⟩, fun g => (S.t6 (by simpa using g)).imp fun b hb => ⟨by rw [eval_put_ne _ _ _ _ (by decide)]; exact hb.1, hb.2⟩⟩
    | 1, _, ho, hsi, hT =>
      obtain ⟨e1, e2⟩ := pick_of h1 ho
      have BW := S.before
      have cl0 := (BW.cell (p := ⟨bx, 0, none⟩) hbx).trans hc0
      have cl1 := (BW.cell (p := ⟨bx, 1, none⟩) hbx).trans hc1
      refine step_val (v := .agg #[.slice (some ⟨b, 0, none⟩) n cb, .slice (some ⟨eb, 0, none⟩) n ce]) (by simp only [execOp, e1, y2]; go_simp) (hK _ _ ?_)
      rw [e2]
      exact ⟨S.off.put (by decide) _, S.before, kp S.t0, fun _ => (eval_put _ _ _ (by omega)).trans rfl, kp S.t2, kp S.t3, fun g => (S.t4 (by simpa using g)).imp fun b hb => ⟨by rw [eval_put_ne _ _ _ _ (by decide)]; exact hb.1, hb.2⟩, fun g => (S.t5 (by simpa using g)).imp fun b hb => ⟨by rw [eval_put_ne _ _ _ _ (by decide)]; exact hb.1, hb.2⟩, fun g => (S.t6 (by simpa using g)).imp fun b hb => ⟨by rw [eval_put_ne _ _ _ _ (by decide)]; exact hb.1, hb.2⟩⟩
    | 2, _, ho, hsi, hT =>
      obtain ⟨e1, e2⟩ := pick_of h2 ho
      have BW := S.before
      have cl := (BW.cell (p := ⟨sy, 0, none⟩) hsy).trans hcs
      refine step_val (v := .func (.func 89) #[] #[.pointer (some ⟨pb, 0, none⟩)]) (by simp only [execOp, e1, y6]; go_simp) (hK _ _ ?_)
      rw [e2]
      exact ⟨S.off.put (by decide) _, S.before, kp S.t0, kp S.t1, fun _ => (eval_put _ _ _ (by omega)).trans rfl, kp S.t3, fun g => (S.t4 (by simpa using g)).imp fun b hb => ⟨by rw [eval_put_ne _ _ _ _ (by decide)]; exact hb.1, hb.2⟩, fun g => (S.t5 (by simpa using g)).imp fun b hb => ⟨by rw [eval_put_ne _ _ _ _ (by decide)]; exact hb.1, hb.2⟩, fun g => (S.t6 (by simpa using g)).imp fun b hb => ⟨by rw [eval_put_ne _ _ _ _ (by decide)]; exact hb.1, hb.2⟩⟩
    | 3, _, ho, hsi, hT =>
      obtain ⟨e1, e2⟩ := pick_of h3 ho
      have BW := S.before
      refine step_val (v := .int .i64 (q : Nat)) (by simp only [execOp, e1, y1]; go_simp) (hK _ _ ?_)
      rw [e2]
      exact ⟨S.off.put (by decide) _, S.before, kp S.t0, kp S.t1, kp S.t2, fun _ => (eval_put _ _ _ (by omega)).trans rfl, fun g => (S.t4 (by simpa using g)).imp fun b hb => ⟨by rw [eval_put_ne _ _ _ _ (by decide)]; exact hb.1, hb.2⟩, fun g => (S.t5 (by simpa using g)).imp fun b hb => ⟨by rw [eval_put_ne _ _ _ _ (by decide)]; exact hb.1, hb.2⟩, fun g => (S.t6 (by simpa using g)).imp fun b hb => ⟨by rw [eval_put_ne _ _ _ _ (by decide)]; exact hb.1, hb.2⟩⟩
    | 4, _, ho, hsi, hT =>
      obtain ⟨e1, e2⟩ := pick_of h4 ho
      have D1 : s 1 = true := list_pos hT (d := 1) (by decide)
      have D2 : s 2 = true := list_pos hT (d := 2) (by decide)
      have D3 : s 3 = true := list_pos hT (d := 3) (by decide)
      have BW := S.before
      refine step_callp 71 (fun args w => by go_simp) _ _ e1 #[.agg #[.slice (some ⟨b, 0, none⟩) n cb, .slice (some ⟨eb, 0, none⟩) n ce], .func (.func 89) #[] #[.pointer (some ⟨pb, 0, none⟩)], .int .i64 (q : Nat)] (by simp only [List.map_toArray, List.map_cons, List.map_nil, S.t1 D1, S.t2 D2, S.t3 D3]) ((hL _ BW).mono ?_)
      rintro e w2 (⟨v, rfl, FF, BB⟩ | ⟨p, rfl, FF, BB⟩)
      · refine .inl ⟨_, rfl, hK _ _ ?_⟩
        rw [e2]
        exact ⟨S.off.put (by decide) _, bt BW BB, kp S.t0, kp S.t1, kp S.t2, kp S.t3, fun _ => ⟨_, (eval_put _ _ _ (by omega)).trans rfl, FF⟩, fun g => (S.t5 (by simpa using g)).imp fun b hb => ⟨by rw [eval_put_ne _ _ _ _ (by decide)]; exact hb.1, (DouV.mono hb.2 BB)⟩, fun g => (S.t6 (by simpa using g)).imp fun b hb => ⟨by rw [eval_put_ne _ _ _ _ (by decide)]; exact hb.1, (AlV.mono hb.2 BB)⟩⟩
      · exact .inr ⟨_, rfl, hp4 _ _ _ S.off (bt BW BB) FF⟩
    | 5, _, ho, hsi, hT =>
      obtain ⟨e1, e2⟩ := pick_of h5 ho
      have D0 : s 0 = true := list_pos hT (d := 0) (by decide)
      have D4 : s 4 = true := list_pos hT (d := 4) (by decide)
      have BW := S.before
      obtain ⟨v4, M4, F4⟩ := S.t4 D4
      refine step_call 70 (fun args w => by go_simp) _ _ e1 #[.agg #[.slice (some ⟨b, 0, none⟩) n cb, .slice (some ⟨eb, 0, none⟩) n ce], v4] (by simp only [List.map_toArray, List.map_cons, List.map_nil, S.t0 D0, M4]) ((hD v4 _ F4 BW).mono ?_)
      rintro e w2 ⟨v, rfl, FF, BB⟩
      refine ⟨_, rfl, hK _ _ ?_⟩
      rw [e2]
      exact ⟨S.off.put (by decide) _, bt BW BB, kp S.t0, kp S.t1, kp S.t2, kp S.t3, fun g => (S.t4 (by simpa using g)).imp fun b hb => ⟨by rw [eval_put_ne _ _ _ _ (by decide)]; exact hb.1, ((fun (h : LV _) _ => h) hb.2 BB)⟩, fun _ => ⟨_, (eval_put _ _ _ (by omega)).trans rfl, FF⟩, fun g => (S.t6 (by simpa using g)).imp fun b hb => ⟨by rw [eval_put_ne _ _ _ _ (by decide)]; exact hb.1, (AlV.mono hb.2 BB)⟩⟩
    | 6, _, ho, hsi, hT =>
      obtain ⟨e1, e2⟩ := pick_of h6 ho
      have BW := S.before
      refine step_to1 (w2 := w'.alloc (.cells #[.slice none 0 0] 28)) (v := .pointer (some ⟨w'.heap.size, 0, none⟩)) (by simp only [execOp, e1]; go_simp) (hK _ _ ?_)
      have BB := ba (Below.refl w'.heap.size w') (.cells #[.slice none 0 0] 28)
      have FF := al_new w' (Nat.le_trans hB0 BW.size)
      rw [e2]
      exact ⟨S.off.put (by decide) _, bt BW BB, kp S.t0, kp S.t1, kp S.t2, kp S.t3, fun g => (S.t4 (by simpa using g)).imp fun b hb => ⟨by rw [eval_put_ne _ _ _ _ (by decide)]; exact hb.1, ((fun (h : LV _) _ => h) hb.2 BB)⟩, fun g => (S.t5 (by simpa using g)).imp fun b hb => ⟨by rw [eval_put_ne _ _ _ _ (by decide)]; exact hb.1, (DouV.mono hb.2 BB)⟩, fun _ => ⟨_, (eval_put _ _ _ (by omega)).trans rfl, FF⟩⟩
    | _ + 7, il, _, _, _ => exact absurd il (by omega)
  · intro s a w' S hall
    have a0 := hall 0 (by omega)
    have a1 := hall 1 (by omega)
    have a2 := hall 2 (by omega)
    have a3 := hall 3 (by omega)
    have a4 := hall 4 (by omega)
    have a5 := hall 5 (by omega)
    have a6 := hall 6 (by omega)
    have e := off_norm _ (by intro d hd; simp at hd; omega) S.off
    obtain ⟨v4, M4, F4⟩ := S.t4 a4
    obtain ⟨v5, M5, F5⟩ := S.t5 a5
    obtain ⟨v6, M6, F6⟩ := S.t6 a6
    simp only [List.foldl, S.t0 a0, S.t1 a1, S.t2 a2, S.t3 a3, M4, M5, M6] at e
    rw [e]
    exact h _ _ _ _ S.before F4 F5 F6
structure PaRegion (c4 g cc gy cy n m k p : Nat) (x y : BitVec 8) (A : Act) (w0 : World) (s : Nat → Bool) (a : Act) (w : World) : Prop where
  off : Off [35, 36, 37, 38, 39, 40, 41, 42, 43, 44, 45] a A
  before : Below w0.heap.size w0 w
  t0 : s 0 = true → a.eval (.tmp 35) = .pointer (some ⟨c4, 0, none⟩)
  t1 : s 1 = true → a.eval (.tmp 36) = .slice (some ⟨g, 0, none⟩) n cc
  t2 : s 2 = true → a.eval (.tmp 37) = .int .i64 (p : Nat)
  t3 : s 3 = true → a.eval (.tmp 38) = .pointer (some ⟨g, p, none⟩)
  t4 : s 4 = true → a.eval (.tmp 39) = .int .u8 (x.toNat : Nat)
  t5 : s 5 = true → a.eval (.tmp 40) = .slice (some ⟨gy, 0, none⟩) m cy
  t6 : s 6 = true → a.eval (.tmp 41) = .int .i64 (k : Nat)
  t7 : s 7 = true → a.eval (.tmp 42) = .pointer (some ⟨gy, k, none⟩)
  t8 : s 8 = true → a.eval (.tmp 43) = .int .u8 (y.toNat : Nat)
  t9 : s 9 = true → a.eval (.tmp 44) = .int .u8 ((x ^^^ y).toNat : Nat)
  t10 : s 10 = true → a.eval (.tmp 45) = .pointer (some ⟨g, p, none⟩)
set_option maxHeartbeats 2000000 in
set_option maxRecDepth 100000 in
theorem paRegion {id : Nat} {l : List Oper} {A : Act} {w : World} {Q : Exit → Act → World → Prop} (c4 g cc gy cy n m k p : Nat) (x y : BitVec 8)
    (hn : n ≤ 1000) (hm : m ≤ 1000) (hp : p < n) (hk : k < m) (hl4 : c4 < w.heap.size) (hc4 : w.cell? ⟨c4, 0, none⟩ = some (.slice (some ⟨g, 0, none⟩) n cc)) (hg : g < w.heap.size) (hx : w.cell? ⟨g, p, none⟩ = some (.int .u8 (x.toNat : Nat))) (hgy : gy < w.heap.size) (hy : w.cell? ⟨gy, k, none⟩ = some (.int .u8 (y.toNat : Nat)))
    (hB : tableH l.toArray 11 (fun i => match i with | 0 => [] | 1 => [0] | 2 => [] | 3 => [1, 2] | 4 => [3] | 5 => [] | 6 => [] | 7 => [5, 6] | 8 => [7] | 9 => [4, 8] | 10 => [1, 2] | _ => []) (fun _ => []) = true)
    (h0 : pick l 0 = some (.fieldAddr 53 (.tmp 4) 0, some 35))
    (h1 : pick l 1 = some (.load 41 (.tmp 35), some 36))
    (h2 : pick l 2 = some (.move (.tmp 10), some 37))
    (h3 : pick l 3 = some (.indexAddr 41 (.tmp 36) (.tmp 37), some 38))
    (h4 : pick l 4 = some (.load 5 (.tmp 38), some 39))
    (h5 : pick l 5 = some (.move (.tmp 8), some 40))
    (h6 : pick l 6 = some (.move (.tmp 9), some 41))
    (h7 : pick l 7 = some (.indexAddr 41 (.tmp 40) (.tmp 41), some 42))
    (h8 : pick l 8 = some (.load 5 (.tmp 42), some 43))
    (h9 : pick l 9 = some (.binOp .xor 5 (.tmp 39) (.tmp 43) 5, some 44))
    (h10 : pick l 10 = some (.indexAddr 41 (.tmp 36) (.tmp 37), some 45))
    (hs : A.tmps.size = 50)
    (x4 : A.eval (.tmp 4) = .pointer (some ⟨c4, 0, none⟩))
    (x8 : A.eval (.tmp 8) = .slice (some ⟨gy, 0, none⟩) m cy)
    (x9 : A.eval (.tmp 9) = .int .i64 (k : Nat))
    (x10 : A.eval (.tmp 10) = .int .i64 (p : Nat))
    (h : ∀ w1, Below w.heap.size w w1 → wpList Tryz.prog l.toArray Q (l.drop 11) (((((((((((A.put (some 35) (.pointer (some ⟨c4, 0, none⟩))).put (some 36) (.slice (some ⟨g, 0, none⟩) n cc)).put (some 37) (.int .i64 (p : Nat))).put (some 38) (.pointer (some ⟨g, p, none⟩))).put (some 39) (.int .u8 (x.toNat : Nat))).put (some 40) (.slice (some ⟨gy, 0, none⟩) m cy)).put (some 41) (.int .i64 (k : Nat))).put (some 42) (.pointer (some ⟨gy, k, none⟩))).put (some 43) (.int .u8 (y.toNat : Nat))).put (some 44) (.int .u8 ((x ^^^ y).toNat : Nat))).put (some 45) (.pointer (some ⟨g, p, none⟩))) w1) :
    (Code.region id l.toArray true).wp Tryz.prog Q A w := by
  refine wp_region_head (by kernel_rfl) _ _ _ hB (PaRegion c4 g cc gy cy n m k p x y A w) ⟨Off.refl _ _, (Below.refl _ _).drew, by simp, by simp, by simp, by simp, by simp, by simp, by simp, by simp, by simp, by simp, by simp⟩ ?_ ?_
  · intro s a w' S i' o il ho hsi hT K hK
    have sz : a.tmps.size = 50 := by rw [S.off.2.1]; exact hs
    have y4 : a.eval (.tmp 4) = .pointer (some ⟨c4, 0, none⟩) := by rw [S.off.eval (by decide)]; exact x4
    have y8 : a.eval (.tmp 8) = .slice (some ⟨gy, 0, none⟩) m cy := by rw [S.off.eval (by decide)]; exact x8
    have y9 : a.eval (.tmp 9) = .int .i64 (k : Nat) := by rw [S.off.eval (by decide)]; exact x9
    have y10 : a.eval (.tmp 10) = .int .i64 (p : Nat) := by rw [S.off.eval (by decide)]; exact x10
    match i', il, ho, hsi, hT with
    | 0, _, ho, hsi, hT =>
      obtain ⟨e1, e2⟩ := pick_of h0 ho
      have BW := S.before
      refine step_val (v := .pointer (some ⟨c4, 0, none⟩)) (by simp only [execOp, e1, y4]; go_simp) (hK _ _ ?_)
      rw [e2]
      exact ⟨S.off.put (by decide) _, S.before, fun _ => (eval_put _ _ _ (by omega)).trans rfl, kp S.t1, kp S.t2, kp S.t3, kp S.t4, kp S.t5, kp S.t6, kp S.t7, kp S.t8, kp S.t9, kp S.t10⟩
    | 1, _, ho, hsi, hT =>
      obtain ⟨e1, e2⟩ := pick_of h1 ho
      have D0 : s 0 = true := list_pos hT (d := 0) (by decide)
      have BW := S.before
      have cl := (BW.cell (p := ⟨c4, 0, none⟩) hl4).trans hc4
      refine step_val (v := .slice (some ⟨g, 0, none⟩) n cc) (by simp only [execOp, e1, S.t0 D0]; go_simp) (hK _ _ ?_)
      rw [e2]
      exact ⟨S.off.put (by decide) _, S.before, kp S.t0, fun _ => (eval_put _ _ _ (by omega)).trans rfl, kp S.t2, kp S.t3, kp S.t4, kp S.t5, kp S.t6, kp S.t7, kp S.t8, kp S.t9, kp S.t10⟩
    | 2, _, ho, hsi, hT =>
      obtain ⟨e1, e2⟩ := pick_of h2 ho
      have BW := S.before
      refine step_val (v := .int .i64 (p : Nat)) (by simp only [execOp, e1, y10]; go_simp) (hK _ _ ?_)
      rw [e2]
      exact ⟨S.off.put (by decide) _, S.before, kp S.t0, kp S.t1, fun _ => (eval_put _ _ _ (by omega)).trans rfl, kp S.t3, kp S.t4, kp S.t5, kp S.t6, kp S.t7, kp S.t8, kp S.t9, kp S.t10⟩
    | 3, _, ho, hsi, hT =>
      obtain ⟨e1, e2⟩ := pick_of h3 ho
      have D1 : s 1 = true := list_pos hT (d := 1) (by decide)
      have D2 : s 2 = true := list_pos hT (d := 2) (by decide)
      have BW := S.before
      refine step_val (v := .pointer (some ⟨g, p, none⟩)) (by simp only [execOp, e1, S.t1 D1, S.t2 D2]; go_simp) (hK _ _ ?_)
      rw [e2]
      exact ⟨S.off.put (by decide) _, S.before, kp S.t0, kp S.t1, kp S.t2, fun _ => (eval_put _ _ _ (by omega)).trans rfl, kp S.t4, kp S.t5, kp S.t6, kp S.t7, kp S.t8, kp S.t9, kp S.t10⟩
    | 4, _, ho, hsi, hT =>
      obtain ⟨e1, e2⟩ := pick_of h4 ho
      have D3 : s 3 = true := list_pos hT (d := 3) (by decide)
      have BW := S.before
      have cl := (BW.cell (p := ⟨g, p, none⟩) hg).trans hx
      refine step_val (v := .int .u8 (x.toNat : Nat)) (by simp only [execOp, e1, S.t3 D3]; go_simp) (hK _ _ ?_)
      rw [e2]
      exact ⟨S.off.put (by decide) _, S.before, kp S.t0, kp S.t1, kp S.t2, kp S.t3, fun _ => (eval_put _ _ _ (by omega)).trans rfl, kp S.t5, kp S.t6, kp S.t7, kp S.t8, kp S.t9, kp S.t10⟩
    | 5, _, ho, hsi, hT =>
      obtain ⟨e1, e2⟩ := pick_of h5 ho
      have BW := S.before
      refine step_val (v := .slice (some ⟨gy, 0, none⟩) m cy) (by simp only [execOp, e1, y8]; go_simp) (hK _ _ ?_)
      rw [e2]
      exact ⟨S.off.put (by decide) _, S.before, kp S.t0, kp S.t1, kp S.t2, kp S.t3, kp S.t4, fun _ => (eval_put _ _ _ (by omega)).trans rfl, kp S.t6, kp S.t7, kp S.t8, kp S.t9, kp S.t10⟩
    | 6, _, ho, hsi, hT =>
      obtain ⟨e1, e2⟩ := pick_of h6 ho
      have BW := S.before
      refine step_val (v := .int .i64 (k : Nat)) (by simp only [execOp, e1, y9]; go_simp) (hK _ _ ?_)
      rw [e2]
      exact ⟨S.off.put (by decide) _, S.before, kp S.t0, kp S.t1, kp S.t2, kp S.t3, kp S.t4, kp S.t5, fun _ => (eval_put _ _ _ (by omega)).trans rfl, kp S.t7, kp S.t8, kp S.t9, kp S.t10⟩
    | 7, _, ho, hsi, hT =>
      obtain ⟨e1, e2⟩ := pick_of h7 ho
      have D5 : s 5 = true := list_pos hT (d := 5) (by decide)
      have D6 : s 6 = true := list_pos hT (d := 6) (by decide)
      have BW := S.before
      refine step_val (v := .pointer (some ⟨gy, k, none⟩)) (by simp only [execOp, e1, S.t5 D5, S.t6 D6]; go_simp) (hK _ _ ?_)
      rw [e2]
      exact ⟨S.off.put (by decide) _, S.before, kp S.t0, kp S.t1, kp S.t2, kp S.t3, kp S.t4, kp S.t5, kp S.t6, fun _ => (eval_put _ _ _ (by omega)).trans rfl, kp S.t8, kp S.t9, kp S.t10⟩
    | 8, _, ho, hsi, hT =>
      obtain ⟨e1, e2⟩ := pick_of h8 ho
      have D7 : s 7 = true := list_pos hT (d := 7) (by decide)
      have BW := S.before
      have cl := (BW.cell (p := ⟨gy, k, none⟩) hgy).trans hy
      refine step_val (v := .int .u8 (y.toNat : Nat)) (by simp only [execOp, e1, S.t7 D7]; go_simp) (hK _ _ ?_)
      rw [e2]
      exact ⟨S.off.put (by decide) _, S.before, kp S.t0, kp S.t1, kp S.t2, kp S.t3, kp S.t4, kp S.t5, kp S.t6, kp S.t7, fun _ => (eval_put _ _ _ (by omega)).trans rfl, kp S.t9, kp S.t10⟩
    | 9, _, ho, hsi, hT =>
      obtain ⟨e1, e2⟩ := pick_of h9 ho
      have D4 : s 4 = true := list_pos hT (d := 4) (by decide)
      have D8 : s 8 = true := list_pos hT (d := 8) (by decide)
      have BW := S.before
      have xr := xor8 x y
      refine step_val (v := .int .u8 ((x ^^^ y).toNat : Nat)) (by simp only [execOp, e1, S.t4 D4, S.t8 D8]; go_simp) (hK _ _ ?_)
      rw [e2]
      exact ⟨S.off.put (by decide) _, S.before, kp S.t0, kp S.t1, kp S.t2, kp S.t3, kp S.t4, kp S.t5, kp S.t6, kp S.t7, kp S.t8, fun _ => (eval_put _ _ _ (by omega)).trans rfl, kp S.t10⟩
    | 10, _, ho, hsi, hT =>
      obtain ⟨e1, e2⟩ := pick_of h10 ho
      have D1 : s 1 = true := list_pos hT (d := 1) (by decide)
      have D2 : s 2 = true := list_pos hT (d := 2) (by decide)
      have BW := S.before
      refine step_val (v := .pointer (some ⟨g, p, none⟩)) (by simp only [execOp, e1, S.t1 D1, S.t2 D2]; go_simp) (hK _ _ ?_)
      rw [e2]
      exact ⟨S.off.put (by decide) _, S.before, kp S.t0, kp S.t1, kp S.t2, kp S.t3, kp S.t4, kp S.t5, kp S.t6, kp S.t7, kp S.t8, kp S.t9, fun _ => (eval_put _ _ _ (by omega)).trans rfl⟩
    | _ + 11, il, _, _, _ => exact absurd il (by omega)
  · intro s a w' S hall
    have a0 := hall 0 (by omega)
    have a1 := hall 1 (by omega)
    have a2 := hall 2 (by omega)
    have a3 := hall 3 (by omega)
    have a4 := hall 4 (by omega)
    have a5 := hall 5 (by omega)
    have a6 := hall 6 (by omega)
    have a7 := hall 7 (by omega)
    have a8 := hall 8 (by omega)
    have a9 := hall 9 (by omega)
    have a10 := hall 10 (by omega)
    have e := off_norm _ (by intro d hd; simp at hd; omega) S.off
    simp only [List.foldl, S.t0 a0, S.t1 a1, S.t2 a2, S.t3 a3, S.t4 a4, S.t5 a5, S.t6 a6, S.t7 a7, S.t8 a8, S.t9 a9, S.t10 a10] at e
    rw [e]
    exact h _ S.before
structure FiRegion (c4 g cc n : Nat) (r : Bool) (A : Act) (w0 : World) (s : Nat → Bool) (a : Act) (w : World) : Prop where
  off : Off [47, 48, 49] a A
  before : Below w0.heap.size w0 w
  t0 : s 0 = true → a.eval (.tmp 47) = .agg #[.slice (some ⟨g, 0, none⟩) n cc, .slice none 0 0]
  t1 : s 1 = true → a.eval (.tmp 48) = .agg #[.slice (some ⟨g, 0, none⟩) n cc, .slice none 0 0]
  t2 : s 2 = true → a.eval (.tmp 49) = .bool r
set_option maxHeartbeats 2000000 in
set_option maxRecDepth 100000 in
theorem fiRegion {id : Nat} {l : List Oper} {A : Act} {w : World} {Q : Exit → Act → World → Prop} (c4 g cc n : Nat) (r : Bool)
    (h4 : c4 < w.heap.size) (hc0 : w.cell? ⟨c4, 0, none⟩ = some (.slice (some ⟨g, 0, none⟩) n cc)) (hc1 : w.cell? ⟨c4, 1, none⟩ = some (.slice none 0 0)) (hI : ∀ w', Below w.heap.size w w' → Calls Tryz.prog 48 #[.agg #[.slice (some ⟨g, 0, none⟩) n cc, .slice none 0 0]] w' fun e w2 => e = .returned (.bool r) ∧ Below w'.heap.size w' w2)
    (hB : tableH l.toArray 3 (fun i => match i with | 0 => [] | 1 => [] | 2 => [1] | _ => []) (fun _ => []) = true)
    (h0 : pick l 0 = some (.load 53 (.tmp 4), some 47))
    (h1 : pick l 1 = some (.load 53 (.tmp 4), some 48))
    (h2 : pick l 2 = some (.call { callee := .value (.func 48), args := #[.tmp 48], argTypes := #[53] }, some 49))
    (hs : A.tmps.size = 50)
    (x4 : A.eval (.tmp 4) = .pointer (some ⟨c4, 0, none⟩))
    (h : ∀ w1, Below w.heap.size w w1 → wpList Tryz.prog l.toArray Q (l.drop 3) (((A.put (some 47) (.agg #[.slice (some ⟨g, 0, none⟩) n cc, .slice none 0 0])).put (some 48) (.agg #[.slice (some ⟨g, 0, none⟩) n cc, .slice none 0 0])).put (some 49) (.bool r)) w1) :
    (Code.region id l.toArray true).wp Tryz.prog Q A w := by
  refine wp_region_head (by kernel_rfl) _ _ _ hB (FiRegion c4 g cc n r A w) ⟨Off.refl _ _, (Below.refl _ _).drew, by simp, by simp, by simp⟩ ?_ ?_
  · intro s a w' S i' o il ho hsi hT K hK
    have sz : a.tmps.size = 50 := by rw [S.off.2.1]; exact hs
    have y4 : a.eval (.tmp 4) = .pointer (some ⟨c4, 0, none⟩) := by rw [S.off.eval (by decide)]; exact x4
    match i', il, ho, hsi, hT with
    | 0, _, ho, hsi, hT =>
      obtain ⟨e1, e2⟩ := pick_of h0 ho
      have BW := S.before
      have cl0 := (BW.cell (p := ⟨c4, 0, none⟩) h4).trans hc0
      have cl1 := (BW.cell (p := ⟨c4, 1, none⟩) h4).trans hc1
      refine step_val (v := .agg #[.slice (some ⟨g, 0, none⟩) n cc, .slice none 0 0]) (by simp only [execOp, e1, y4]; go_simp) (hK _ _ ?_)
      rw [e2]
      exact ⟨S.off.put (by decide) _, S.before, fun _ => (eval_put _ _ _ (by omega)).trans rfl, kp S.t1, kp S.t2⟩
    | 1, _, ho, hsi, hT =>
      obtain ⟨e1, e2⟩ := pick_of h1 ho
      have BW := S.before
      have cl0 := (BW.cell (p := ⟨c4, 0, none⟩) h4).trans hc0
      have cl1 := (BW.cell (p := ⟨c4, 1, none⟩) h4).trans hc1
      refine step_val (v := .agg #[.slice (some ⟨g, 0, none⟩) n cc, .slice none 0 0]) (by simp only [execOp, e1, y4]; go_simp) (hK _ _ ?_)
      rw [e2]
      exact ⟨S.off.put (by decide) _, S.before, kp S.t0, fun _ => (eval_put _ _ _ (by omega)).trans rfl, kp S.t2⟩
    | 2, _, ho, hsi, hT =>
      obtain ⟨e1, e2⟩ := pick_of h2 ho
      have D1 : s 1 = true := list_pos hT (d := 1) (by decide)
      have BW := S.before
      refine step_call 48 (fun args w => by go_simp) _ _ e1 #[.agg #[.slice (some ⟨g, 0, none⟩) n cc, .slice none 0 0]] (by simp only [List.map_toArray, List.map_cons, List.map_nil, S.t1 D1]) ((hI _ BW).mono ?_)
      rintro e w2 ⟨rfl, BB⟩
      refine ⟨_, rfl, hK _ _ ?_⟩
      rw [e2]
      exact ⟨S.off.put (by decide) _, bt BW BB, kp S.t0, kp S.t1, fun _ => (eval_put _ _ _ (by omega)).trans rfl⟩
    | _ + 3, il, _, _, _ => exact absurd il (by omega)
  · intro s a w' S hall
    have a0 := hall 0 (by omega)
    have a1 := hall 1 (by omega)
    have a2 := hall 2 (by omega)
    have e := off_norm _ (by intro d hd; simp at hd; omega) S.off
    simp only [List.foldl, S.t0 a0, S.t1 a1, S.t2 a2] at e
    rw [e]
    exact h _ S.before
theorem Cells2.below {w w' : World} {c4 c5 : Nat} {a b c : Value} (h : Cells2 w c4 c5 a b c) (l4 : c4 < w.heap.size) (l5 : c5 < w.heap.size) (hb : Below w.heap.size w w') : Cells2 w' c4 c5 a b c :=
  ⟨(hb.cell (p := ⟨c4, 0, none⟩) l4).trans h.c0, (hb.cell (p := ⟨c4, 1, none⟩) l4).trans h.c1, (hb.cell (p := ⟨c5, 0, none⟩) l5).trans h.c2, (hb.frozen (p := ⟨c4, 0, none⟩) l4).trans h.f0, (hb.frozen (p := ⟨c4, 1, none⟩) l4).trans h.f1, (hb.frozen (p := ⟨c5, 0, none⟩) l5).trans h.f2, h.ne⟩
theorem Cells2.but {w w' : World} {c4 c5 g : Nat} {a b c : Value} (h : Cells2 w c4 c5 a b c) (l4 : c4 < w.heap.size) (l5 : c5 < w.heap.size) (n4 : c4 ≠ g) (n5 : c5 ≠ g) (hb : But g w w') : Cells2 w' c4 c5 a b c :=
  ⟨(World.cell?_of_block (w := w) (a := ⟨c4, 0, none⟩) (hb.rest c4 l4 n4)).trans h.c0, (World.cell?_of_block (w := w) (a := ⟨c4, 1, none⟩) (hb.rest c4 l4 n4)).trans h.c1, (World.cell?_of_block (w := w) (a := ⟨c5, 0, none⟩) (hb.rest c5 l5 n5)).trans h.c2,
    (World.frozen?_of_block (w := w) (a := ⟨c4, 0, none⟩) (hb.rest c4 l4 n4)).trans h.f0, (World.frozen?_of_block (w := w) (a := ⟨c4, 1, none⟩) (hb.rest c4 l4 n4)).trans h.f1, (World.frozen?_of_block (w := w) (a := ⟨c5, 0, none⟩) (hb.rest c5 l5 n5)).trans h.f2, h.ne⟩
theorem store_fn (w : World) (fn : Fn) (first cap : Array Value) (t : TypeId) : (store ⟨w.heap.size, 0, none⟩ (.func fn first cap)).run Tryz.prog (w.alloc (.cells #[.nilFunc] t)) = .ok () (w.alloc (.cells #[.func fn first cap] t)) := by
  rw [run_store Tryz.prog _ _ _ _ rfl]
  go_simp
/-- The locator that was found, or why there is none. -/
def LocV (bl : List UInt8) (er : Nat → Bool) (n q : Nat) (v : Value) : Prop := ∃ y, v = .string ⟨(Blk.locP y q).toArray⟩ ∧ ∀ z, Blk.Solves (Blk.locB (Blk.twist (Blk.elem n) (Blk.ers er n) (Blk.syn bl)) (Blk.ers er n).length q) q z 1#8 → ∀ r, r < q → z r = y r
def LocN (bl : List UInt8) (er : Nat → Bool) (n q : Nat) (p : List PanicEntry) : Prop := (∀ c, Blk.Near bl (Blk.ers er n) c → Blk.besides bl c (Blk.ers er n) ≠ q) ∧ Pan p
theorem loc_two (b cb eb ce n pb q : Nat) (f : Nat → BitVec 8) (er : Nat → Bool) (hn : n ≤ 231) (hq : (Blk.ers er n).length + 2 * q ≤ 8) (w : World) (H : Wd w b cb eb ce n f er) (hpb : pb < w.heap.size) (hps : w.cell? ⟨pb, 0, none⟩ = some (.string ⟨(Gal.coefs f n).reverse.toArray⟩)) :
    Calls Tryz.prog 71 #[.agg #[.slice (some ⟨b, 0, none⟩) n cb, .slice (some ⟨eb, 0, none⟩) n ce], .func (.func 89) #[] #[.pointer (some ⟨pb, 0, none⟩)], .int .i64 (q : Nat)] w fun e w2 => (∃ v, e = .returned v ∧ LocV (Gal.coefs f n) er n q v ∧ Below w.heap.size w w2) ∨ (∃ p, e = .panicked p ∧ LocN (Gal.coefs f n) er n q p ∧ Below w.heap.size w w2) :=
  (locator_any b cb eb ce n pb q f er hn hq w H hpb hps).mono fun e w2 h => by
    obtain ⟨hB, ⟨y, rfl, _, h2⟩ | ⟨hk, p, rfl, hp⟩⟩ := h
    · exact .inl ⟨_, rfl, ⟨y, rfl, h2⟩, hB⟩
    · exact .inr ⟨p, rfl, ⟨fun c hc => Blk.no_locator (Gal.coefs_length f n) hn hk hc, hp⟩, hB⟩
theorem dou_two (b cb eb ce n q B : Nat) (f : Nat → BitVec 8) (er : Nat → Bool) (hn : n ≤ 231) (hq : (Blk.ers er n).length + 2 * q ≤ 8) (v : Value) (w : World) (hv : LocV (Gal.coefs f n) er n q v) (H : Wd w b cb eb ce n f er) (hB : B ≤ w.heap.size) :
    Calls Tryz.prog 70 #[.agg #[.slice (some ⟨b, 0, none⟩) n cb, .slice (some ⟨eb, 0, none⟩) n ce], v] w fun e w2 => ∃ u, e = .returned u ∧ DouV (Gal.coefs f n) er n q B u w2 ∧ Below w.heap.size w w2 := by
  obtain ⟨y, rfl, hU⟩ := hv
  refine (doubtful_any b cb eb ce n f er ⟨(Blk.locP y q).toArray⟩ hn (by rw [sz, Blk.locP_length]; omega) w H).mono fun e w2 h => ?_
  obtain ⟨u, rfl, ho, hb⟩ := h
  exact ⟨u, rfl, ⟨y, hU, own_mono ho hB⟩, hb⟩
/-- What corrected does. -/
def CorP (bl : List UInt8) (er : Nat → Bool) (n q : Nat) (w : World) (e : Ending) (w' : World) : Prop :=
  Below w.heap.size w w' ∧ ((∃ g cc c, e = .returned (.tuple #[.agg #[.slice (some ⟨g, 0, none⟩) n cc, .slice none 0 0], .bool true]) ∧ n ≤ cc ∧ c.length = n ∧ NumsK .u8 w' g n (fun j => (Gal.co c j).toNat) ∧ Blk.Near bl (Blk.ers er n) c) ∨
    (∃ a m k, e = .returned (.tuple #[.agg #[.slice a m k, .slice none 0 0], .bool false]) ∧ ∀ c, Blk.Near bl (Blk.ers er n) c → Blk.besides bl c (Blk.ers er n) ≠ q))
set_option maxRecDepth 100000 in
set_option maxHeartbeats 1000000 in
theorem corrected_any (b cb eb ce n q : Nat) (f : Nat → BitVec 8) (er : Nat → Bool) (h9 : 9 ≤ n) (hn : n ≤ 231) (hq : (Blk.ers er n).length + 2 * q ≤ 8) (w : World) (H : Wd w b cb eb ce n f er) :
    Calls Tryz.prog 50 #[.agg #[.slice (some ⟨b, 0, none⟩) n cb, .slice (some ⟨eb, 0, none⟩) n ce], .int .i64 (q : Nat)] w (CorP (Gal.coefs f n) er n q w) := by
  have hbl := Gal.coefs_length f n
  have HBL := Lib.hid hbl
  have SY := Lib.hid (syndrome_any b cb n (.slice (some ⟨eb, 0, none⟩) n ce) f (by omega) (((w.alloc (.cells #[.slice (some ⟨b, 0, none⟩) n cb, .slice (some ⟨eb, 0, none⟩) n ce] 53)).alloc (.cells #[.slice none 0 0, .slice none 0 0] 53)).alloc (.cells #[.bool false] 4)) (((H.num.alloc _).alloc _).alloc _))
  have HH := Lib.hid H
  have x0 := Lib.hid (show (((w.alloc (.cells #[.slice (some ⟨b, 0, none⟩) n cb, .slice (some ⟨eb, 0, none⟩) n ce] 53)).alloc (.cells #[.slice none 0 0, .slice none 0 0] 53)).alloc (.cells #[.bool false] 4)).cell? ⟨w.heap.size, 0, none⟩ = some (.slice (some ⟨b, 0, none⟩) n cb) by go_simp)
  have x1 := Lib.hid (show (((w.alloc (.cells #[.slice (some ⟨b, 0, none⟩) n cb, .slice (some ⟨eb, 0, none⟩) n ce] 53)).alloc (.cells #[.slice none 0 0, .slice none 0 0] 53)).alloc (.cells #[.bool false] 4)).cell? ⟨w.heap.size, 1, none⟩ = some (.slice (some ⟨eb, 0, none⟩) n ce) by go_simp)
  have C0 := Lib.hid (show Cells2 (((w.alloc (.cells #[.slice (some ⟨b, 0, none⟩) n cb, .slice (some ⟨eb, 0, none⟩) n ce] 53)).alloc (.cells #[.slice none 0 0, .slice none 0 0] 53)).alloc (.cells #[.bool false] 4)) (w.heap.size + 1) (w.heap.size + 1 + 1) (.slice none 0 0) (.slice none 0 0) (.bool false) from ⟨by go_simp, by go_simp, by go_simp, by go_simp, by go_simp, by go_simp, by omega⟩)
  have z0 := Lib.hid (show (((w.alloc (.cells #[.slice (some ⟨b, 0, none⟩) n cb, .slice (some ⟨eb, 0, none⟩) n ce] 53)).alloc (.cells #[.slice none 0 0, .slice none 0 0] 53)).alloc (.cells #[.bool false] 4)).heap.size = w.heap.size + 1 + 1 + 1 by rw [World.size_alloc, World.size_alloc, World.size_alloc])
  have B0 := Lib.hid (ba (ba (ba (Below.refl w.heap.size w) (.cells #[.slice (some ⟨b, 0, none⟩) n cb, .slice (some ⟨eb, 0, none⟩) n ce] 53)) (.cells #[.slice none 0 0, .slice none 0 0] 53)) (.cells #[.bool false] 4))
  have FAIL := Lib.hid (show ∀ w' w'', Below w.heap.size w w' → w'' = ((w'.setCell ⟨w.heap.size + 1, 0, none⟩ (.slice none 0 0)).setCell ⟨w.heap.size + 1, 1, none⟩ (.slice none 0 0)).setCell ⟨w.heap.size + 1 + 1, 0, none⟩ (.bool false) → (∀ c, Blk.Near (Gal.coefs f n) (Blk.ers er n) c → Blk.besides (Gal.coefs f n) c (Blk.ers er n) ≠ q) → CorP (Gal.coefs f n) er n q w (.returned (.tuple #[.agg #[.slice none 0 0, .slice none 0 0], .bool false])) w'' from fun w' w'' hB e hno => by
    subst e
    exact ⟨((hB.setCell (p := ⟨w.heap.size + 1, 0, none⟩) (Nat.le_succ _) _).setCell (p := ⟨w.heap.size + 1, 1, none⟩) (Nat.le_succ _) _).setCell (p := ⟨w.heap.size + 1 + 1, 0, none⟩) (show w.heap.size ≤ w.heap.size + 1 + 1 by omega) _, .inr ⟨none, 0, 0, rfl, hno⟩⟩)
  have hmf : ∀ (fn : Fn) (first cap : Array Value) (w : World), (Instr.makeFunc fn first cap).run Tryz.prog w = .ok (.func fn first cap) w := fun _ _ _ _ => rfl
  clear H hbl
  go_enter_defers Tryz.func50, Tryz.ntmps50
  go_wp2_with fail
  (with_reducible refine SY.out.mono ?_)
  rintro e w1 ⟨pb, rfl, hpb1, hpb2, hcp, hB1⟩
  have l1 := hB1.size
  rw [z0.out] at l1 hpb1
  have B1 := Lib.hid (bt B0.out hB1)
  have st := store_fn w1 (.func 89) #[] #[.pointer (some ⟨pb, 0, none⟩)] 59
  have zz := z0.out
  have y0 := Lib.hid ((hB1.cell (p := ⟨w.heap.size, 0, none⟩) (show w.heap.size < _ by rw [zz]; omega)).trans x0.out)
  have y1 := Lib.hid ((hB1.cell (p := ⟨w.heap.size, 1, none⟩) (show w.heap.size < _ by rw [zz]; omega)).trans x1.out)
  have C1 := Lib.hid (C0.out.below (show w.heap.size + 1 < _ by rw [zz]; omega) (show w.heap.size + 1 + 1 < _ by rw [zz]; omega) hB1)
  have HPB := Lib.hid hpb2
  have HPS := Lib.hid hcp
  have L1 := Lib.hid l1
  have LPB := Lib.hid hpb1
  clear hB1 hpb1 hpb2 hcp l1 zz SY x0 x1 C0 z0 B0
  go_upto_region 3 with fail
  obtain ⟨w2, hw2⟩ : ∃ w2, w1.alloc (.cells #[.func (.func 89) #[] #[.pointer (some ⟨pb, 0, none⟩)]] 59) = w2 := ⟨_, rfl⟩
  obtain ⟨sy, hsy⟩ : ∃ sy, w1.heap.size = sy := ⟨_, rfl⟩
  have b12 := ba (Below.refl w1.heap.size w1) (.cells #[.func (.func 89) #[] #[.pointer (some ⟨pb, 0, none⟩)]] 59)
  have cs2 : (w1.alloc (.cells #[.func (.func 89) #[] #[.pointer (some ⟨pb, 0, none⟩)]] 59)).cell? ⟨w1.heap.size, 0, none⟩ = some (.func (.func 89) #[] #[.pointer (some ⟨pb, 0, none⟩)]) := World.cell?_alloc_new w1 _ _ 0
  have s2 : (w1.alloc (.cells #[.func (.func 89) #[] #[.pointer (some ⟨pb, 0, none⟩)]] 59)).heap.size = w1.heap.size + 1 := World.size_alloc ..
  rw [hw2] at b12 cs2 s2 ⊢
  rw [hsy] at cs2 ⊢
  have W2 := Lib.hid (HH.out.below (bt B1.out b12))
  have B2 := Lib.hid (bt B1.out b12)
  have lw := L1.out
  have z0 := Lib.hid ((b12.cell (p := ⟨w.heap.size, 0, none⟩) (show w.heap.size < w1.heap.size by omega)).trans y0.out)
  have z1 := Lib.hid ((b12.cell (p := ⟨w.heap.size, 1, none⟩) (show w.heap.size < w1.heap.size by omega)).trans y1.out)
  have C2 := Lib.hid (C1.out.below (by omega) (by omega) b12)
  have lx2 := Lib.hid (show w.heap.size < w2.heap.size by omega)
  have l42 := Lib.hid (show w.heap.size + 1 < w2.heap.size by omega)
  have l52 := Lib.hid (show w.heap.size + 1 + 1 < w2.heap.size by omega)
  have ls2 := Lib.hid (show sy < w2.heap.size by omega)
  have lp2 := Lib.hid (show pb < w2.heap.size by have := HPB.out; omega)
  have ps2 := Lib.hid ((b12.cell (p := ⟨pb, 0, none⟩) HPB.out).trans HPS.out)
  have CS2 := Lib.hid cs2
  have nsy := Lib.hid (show w.heap.size + 1 + 1 < sy by omega)
  clear hw2 hsy b12 cs2 s2 lw st C1 y0 y1 HPB HPS L1 LPB B1
  refine clRegion w.heap.size sy b cb eb ce n pb q w2.heap.size (Gal.coefs f n) er (LocV (Gal.coefs f n) er n q) (LocN (Gal.coefs f n) er n q) (Nat.le_refl _) (fun v w' hv hB => dou_two b cb eb ce n q w2.heap.size f er hn hq v w' hv (W2.out.below hB) hB.size) lx2.out z0.out z1.out ls2.out CS2.out (fun w' hB => loc_two b cb eb ce n pb q f er hn hq w' (W2.out.below hB) (Nat.lt_of_lt_of_le lp2.out hB.size) ((hB.cell (p := ⟨pb, 0, none⟩) lp2.out).trans ps2.out)) (by kernel_rfl) rfl rfl rfl rfl rfl rfl rfl rfl rfl rfl rfl ?_ ?_
  · intro a w' p hoff hB hb
    show bodyPostD Tryz.prog Tryz.f50 _ (.panic p) a w'
    exact door_pan (w.heap.size + 1) (w.heap.size + 1 + 1) _ _ _ (C2.out.below l42.out l52.out hB) hb.2 (by rw [hoff.1]; rfl) (by rw [hoff.eval (by decide)]; rfl) (by rw [hoff.eval (by decide)]; rfl) (fun w'' e => FAIL.out w' w'' (bt B2.out hB) e hb.1)
  · intro v4 v5 v6 w3 h3 hv4 hv5 hv6
    simp only [Act.put, List.setIfInBounds_toArray, List.set_cons_succ, List.set_cons_zero, List.drop_succ_cons, List.drop_zero]
    obtain ⟨y, hU, hown⟩ := hv5
    obtain ⟨pl, rfl, hpl, hplh⟩ := hv6
    obtain ⟨ap, cp, rfl⟩ := own_shape hown
    have HU := Lib.hid hU
    have PN := Lib.hid (show ∀ p, p ∈ Blk.ers (Blk.dbt er (Blk.elem n) (Blk.locP y q)) n → p < n from fun p hp => (Blk.mem_ers.1 hp).1)
    have PL8 := Lib.hid (show (Blk.ers (Blk.dbt er (Blk.elem n) (Blk.locP y q)) n).length ≤ 8 by have := Blk.dbt_length er y q (n := n) (by omega); omega)
    have NM := Lib.hid (fun c hk (hc : Blk.Near (Gal.coefs f n) (Blk.ers er n) c) => Blk.no_mend (Gal.coefs_length f n) hn HU.out hk hc)
    have MC := Lib.hid (fun c v hV (hc : Blk.Near (Gal.coefs f n) (Blk.ers er n) c) hq => Blk.mend_code (v := v) (Gal.coefs_length f n) hn HU.out hV hc hq)
    have MN := Lib.hid (fun v hc => Blk.mend_near (b := Gal.coefs f n) (er := er) (y := y) (v := v) (Gal.coefs_length f n) hn hq hc)
    have ND := Lib.hid (Blk.ers_nodup (Blk.dbt er (Blk.elem n) (Blk.locP y q)) n)
    obtain ⟨l, hl⟩ : ∃ l, Blk.ers (Blk.dbt er (Blk.elem n) (Blk.locP y q)) n = l := ⟨_, rfl⟩
    rw [hl] at hown PN PL8 NM MC MN ND ⊢
    have l3 : pl < w3.heap.size := (Array.getElem?_eq_some_iff.1 hplh).1
    have cpl : w3.cell? ⟨pl, 0, none⟩ = some (.slice none 0 0) := by unfold World.cell?; rw [hplh]; rfl
    have fpl : w3.frozen? ⟨pl, 0, none⟩ = false := by unfold World.frozen?; rw [hplh]; rfl
    have c5l := World.cell?_setCell_same' w3 ⟨pl, 0, none⟩ (.slice ap l.length cp) (by rw [cpl]; rfl)
    have own5 := own_keep (w' := w3.setCell ⟨pl, 0, none⟩ (.slice ap l.length cp)) hown (fun g hg hlt => by
      refine Below.heap_setCell _ _ _ _ (fun e => ?_)
      rcases hown.2 with ⟨h0, _⟩ | ⟨g', c', cur, h0, _, hh, _⟩
      · rw [h0] at hg; cases hg
      · rw [h0] at hg
        cases hg
        rw [show g' = pl from e] at hh
        rw [hplh] at hh
        simp at hh)
    have h5 := h3.setCell (p := ⟨pl, 0, none⟩) hpl (.slice ap l.length cp)
    have z5 : (w3.setCell ⟨pl, 0, none⟩ (.slice ap l.length cp)).heap.size = w3.heap.size := World.size_setCell ..
    obtain ⟨m, hm⟩ : ∃ m, l.length = m := ⟨_, rfl⟩
    rw [hm] at PL8 c5l own5 h5 z5 ⊢
    have HM := Lib.hid hm
    have s2w := Lib.hid h3.size
    have HPL := Lib.hid hpl
    clear hU hown hplh hl hm hv4 HU h3 hpl
    go_upto_region 4 with fail
    obtain ⟨w5, hw5⟩ : ∃ w5, w3.setCell ⟨pl, 0, none⟩ (.slice ap m cp) = w5 := ⟨_, rfl⟩
    rw [hw5] at c5l own5 h5 z5 ⊢
    have W5 := Lib.hid (W2.out.below h5)
    have B5 := Lib.hid (bt B2.out h5)
    have C5 := Lib.hid (C2.out.below l42.out l52.out h5)
    have s5 := h5.size
    have lx5 := Lib.hid (Nat.lt_of_lt_of_le lx2.out s5)
    have XB0 := Lib.hid ((h5.cell (p := ⟨w.heap.size, 0, none⟩) lx2.out).trans z0.out)
    have l45 := Lib.hid (Nat.lt_of_lt_of_le l42.out s5)
    have l55 := Lib.hid (Nat.lt_of_lt_of_le l52.out s5)
    have lpl5 := Lib.hid (show pl < w5.heap.size by omega)
    have OW5 := Lib.hid own5
    have CAP := Lib.hid (show CapW w5 pl sy w.heap.size pb b cb eb ce n f l (.slice ap m cp) from
      ⟨c5l, lpl5.out, ⟨_, by rw [HM.out]; exact OW5.out⟩, (h5.cell (p := ⟨sy, 0, none⟩) ls2.out).trans CS2.out, Nat.lt_of_lt_of_le ls2.out s5, (h5.cell (p := ⟨w.heap.size, 0, none⟩) lx2.out).trans z0.out, (h5.cell (p := ⟨w.heap.size, 1, none⟩) lx2.out).trans z1.out, lx5.out, (h5.cell (p := ⟨pb, 0, none⟩) lp2.out).trans ps2.out, Nat.lt_of_lt_of_le lp2.out s5⟩)
    have l8 := PL8.out
    have SV := Lib.hid (solved_any m 73 #[.pointer (some ⟨pl, 0, none⟩), .pointer (some ⟨sy, 0, none⟩), .pointer (some ⟨w.heap.size, 0, none⟩)] (Blk.mendM (Gal.coefs f n) l) l8 w5 (fun args w => by go_simp) (fun i j w6 hi hj hB6 => cor2_any pl sy w.heap.size pb b cb eb ce n i j f l _ hn (by rw [HM.out]; omega) PN.out (by omega) (by rw [HM.out]; exact hj) w6 (CAP.out.below hB6)))
    have PI := Lib.hid (show m = 0 ∨ ∃ gl, ap = some ⟨gl, 0, none⟩ ∧ w2.heap.size ≤ gl ∧ gl < w5.heap.size ∧ ∀ k, k < m → w5.cell? ⟨gl, k, none⟩ = some (.int .i64 (l.getD k 0 : Nat)) by
      by_cases e : m = 0
      · exact .inl e
      · refine .inr ?_
        have hh := OW5.out
        rcases hh.2 with ⟨h0, h1⟩ | ⟨gl, c', cur, h0, hgl, _, _⟩
        · exact absurd h1 e
        · simp only [Value.slice.injEq] at h0
          obtain ⟨rfl, _, rfl⟩ := h0
          have hi2 := own_ints (l := l) (n := m) (by rw [HM.out]; exact hh)
          exact ⟨gl, rfl, hgl, hi2.1, fun k hk => hi2.2 k (by rw [HM.out]; exact hk)⟩)
    have sw5 := Lib.hid s5
    clear hw5 z5 own5 h5 s5 l3 z0 z1 C2 ps2 CS2 W2 B2 cpl fpl CAP lp2 ls2 lx2
    go_wp2_with fail
    (with_reducible refine SV.out.mono ?_)
    rintro e w6 ⟨hb6, ⟨gy, v, rfl, hgy, hNy, hS1, hS2⟩ | ⟨hk, p, rfl, hp⟩⟩
    · have W6 := Lib.hid (W5.out.below hb6)
      have B6 := Lib.hid (bt B5.out hb6)
      have C6 := Lib.hid (C5.out.below l45.out l55.out hb6)
      have s6 := Lib.hid hb6.size
      have HNY := Lib.hid hNy
      have HNYL := Lib.hid (show gy < w6.heap.size from hNy.1)
      have HGY := Lib.hid hgy
      have SU := Lib.hid hS2
      have PI6 := Lib.hid (show m = 0 ∨ ∃ gl, ap = some ⟨gl, 0, none⟩ ∧ w2.heap.size ≤ gl ∧ gl < w6.heap.size ∧ ∀ k, k < m → w6.cell? ⟨gl, k, none⟩ = some (.int .i64 (l.getD k 0 : Nat)) by
        rcases PI.out with h | ⟨gl, h1, h2, h3, h4⟩
        · exact .inl h
        · exact .inr ⟨gl, h1, h2, Nat.lt_of_lt_of_le h3 hb6.size, fun k hk => (hb6.cell (p := ⟨gl, k, none⟩) h3).trans (h4 k hk)⟩)
      have CP6 := Lib.hid ((hb6.cell (p := ⟨pl, 0, none⟩) lpl5.out).trans c5l)
      have CL := Lib.hid (clone_any b cb n f (by omega) (by omega) w6 W6.out.num)
      have xb6 := W6.out
      have xw0 := Lib.hid (show w6.cell? ⟨w.heap.size, 0, none⟩ = some (.slice (some ⟨b, 0, none⟩) n cb) from (hb6.cell (p := ⟨w.heap.size, 0, none⟩) lx5.out).trans XB0.out)
      have q0 := xw0.out
      clear hb6 hNy hgy hS1 hS2 SV PI W5 B5 C5 xb6 c5l
      go_wp2_with fail
      (with_reducible refine CL.out.mono ?_)
      rintro e w7 ⟨g, cc, rfl, hcc, hgg, hNg, hb7⟩
      have B7 := Lib.hid (bt B6.out hb7)
      have C7 := Lib.hid (C6.out.below (by have := l45.out; have := s6.out; omega) (by have := l55.out; have := s6.out; omega) hb7)
      have s7 := Lib.hid hb7.size
      have HNG := Lib.hid hNg
      have HGG := Lib.hid hgg
      have HCC := Lib.hid hcc
      have HNY7 := Lib.hid (HNY.out.below hb7)
      have CP7 := Lib.hid ((hb7.cell (p := ⟨pl, 0, none⟩) (show pl < w6.heap.size by have := lpl5.out; have := s6.out; omega)).trans CP6.out)
      have PI7 := Lib.hid (show m = 0 ∨ ∃ gl, ap = some ⟨gl, 0, none⟩ ∧ w2.heap.size ≤ gl ∧ gl < w6.heap.size ∧ ∀ k, k < m → w7.cell? ⟨gl, k, none⟩ = some (.int .i64 (l.getD k 0 : Nat)) by
        rcases PI6.out with h | ⟨gl, h1, h2, h3, h4⟩
        · exact .inl h
        · exact .inr ⟨gl, h1, h2, h3, fun k hk => (hb7.cell (p := ⟨gl, k, none⟩) h3).trans (h4 k hk)⟩)
      have k0 := C7.out.c0
      have k1 := C7.out.c1
      have k2 := C7.out.f0
      have k3 := C7.out.f1
      clear hb7 hNg hgg hcc CL q0 HNY CP6 PI6 B6 C6 W6
      go_upto_region 6 with fail
      have n4 := Lib.hid (show w.heap.size + 1 ≠ g by have := l45.out; have := s6.out; have := HGG.out; omega)
      have n5 := Lib.hid (show w.heap.size + 1 + 1 ≠ g by have := l55.out; have := s6.out; have := HGG.out; omega)
      have ny := Lib.hid (show gy ≠ g by have := HNY7.out.1; have := HGG.out; have := HNYL.out; omega)
      have y4 := Lib.hid (show w.heap.size + 1 ≠ gy by have := l45.out; have := HGY.out; omega)
      have p4 := Lib.hid (show pl ≠ w.heap.size + 1 by have := HPL.out; have := l42.out; omega)
      have C8 := Lib.hid (show Cells2 ((w7.setCell ⟨w.heap.size + 1, 0, none⟩ (.slice (some ⟨g, 0, none⟩) n cc)).setCell ⟨w.heap.size + 1, 1, none⟩ (.slice none 0 0)) (w.heap.size + 1) (w.heap.size + 1 + 1) (.slice (some ⟨g, 0, none⟩) n cc) (.slice none 0 0) (.bool false) from
        ⟨by rw [World.cell?_setCell_other (h := addr_off (by omega))]; exact World.cell?_setCell_same' _ _ _ (by rw [k0]; rfl),
          World.cell?_setCell_same' _ _ _ (by rw [World.cell?_setCell_other (h := addr_off (by omega)), k1]; rfl),
          by rw [World.cell?_setCell_other (h := fun e => C7.out.ne (congrArg Addr.block e)), World.cell?_setCell_other (h := fun e => C7.out.ne (congrArg Addr.block e))]; exact C7.out.c2,
          by rw [World.frozen?_setCell, World.frozen?_setCell]; exact k2, by rw [World.frozen?_setCell, World.frozen?_setCell]; exact k3, by rw [World.frozen?_setCell, World.frozen?_setCell]; exact C7.out.f2, C7.out.ne⟩)
      have NG8 := Lib.hid ((HNG.out.setOther (c := w.heap.size + 1) (i := 0) n4.out (.slice (some ⟨g, 0, none⟩) n cc)).setOther (c := w.heap.size + 1) (i := 1) n4.out (.slice none 0 0))
      have NY8 := Lib.hid ((HNY7.out.setOther (c := w.heap.size + 1) (i := 0) y4.out (.slice (some ⟨g, 0, none⟩) n cc)).setOther (c := w.heap.size + 1) (i := 1) y4.out (.slice none 0 0))
      have CP8 := Lib.hid (show ((w7.setCell ⟨w.heap.size + 1, 0, none⟩ (.slice (some ⟨g, 0, none⟩) n cc)).setCell ⟨w.heap.size + 1, 1, none⟩ (.slice none 0 0)).cell? ⟨pl, 0, none⟩ = some (.slice ap m cp) by
        rw [World.cell?_setCell_other (h := fun e => p4.out (congrArg Addr.block e).symm), World.cell?_setCell_other (h := fun e => p4.out (congrArg Addr.block e).symm)]
        exact CP7.out)
      have PI8 := Lib.hid (show m = 0 ∨ ∃ gl, ap = some ⟨gl, 0, none⟩ ∧ gl ≠ g ∧ gl < w6.heap.size ∧ ∀ k, k < m → ((w7.setCell ⟨w.heap.size + 1, 0, none⟩ (.slice (some ⟨g, 0, none⟩) n cc)).setCell ⟨w.heap.size + 1, 1, none⟩ (.slice none 0 0)).cell? ⟨gl, k, none⟩ = some (.int .i64 (l.getD k 0 : Nat)) by
        rcases PI7.out with h | ⟨gl, h1, h2, h3, h4⟩
        · exact .inl h
        · have ng : gl ≠ w.heap.size + 1 := by have := l42.out; omega
          exact .inr ⟨gl, h1, by have := HGG.out; omega, h3, fun k hk => by
            rw [World.cell?_setCell_other (h := fun e => ng (congrArg Addr.block e).symm), World.cell?_setCell_other (h := fun e => ng (congrArg Addr.block e).symm)]
            exact h4 k hk⟩)
      have B8 := Lib.hid ((B7.out.setCell (p := ⟨w.heap.size + 1, 0, none⟩) (Nat.le_succ _) (.slice (some ⟨g, 0, none⟩) n cc)).setCell (p := ⟨w.heap.size + 1, 1, none⟩) (Nat.le_succ _) (.slice none 0 0))
      have z8 : ((w7.setCell ⟨w.heap.size + 1, 0, none⟩ (.slice (some ⟨g, 0, none⟩) n cc)).setCell ⟨w.heap.size + 1, 1, none⟩ (.slice none 0 0)).heap.size = w7.heap.size := by rw [World.size_setCell, World.size_setCell]
      obtain ⟨w8, hw8⟩ : ∃ w8, (w7.setCell ⟨w.heap.size + 1, 0, none⟩ (.slice (some ⟨g, 0, none⟩) n cc)).setCell ⟨w.heap.size + 1, 1, none⟩ (.slice none 0 0) = w8 := ⟨_, rfl⟩
      rw [hw8] at C8 NG8 NY8 CP8 PI8 B8 z8 ⊢
      have s8 := Lib.hid (show w6.heap.size ≤ w8.heap.size by rw [z8]; exact s7.out)
      have cp8 := CP8.out
      have PS := Lib.hid (show ∀ k p, Blk.patch (Gal.coefs f n) l v (k + 1) p = if p = l.getD k 0 then Blk.patch (Gal.coefs f n) l v k p ^^^ v k else Blk.patch (Gal.coefs f n) l v k p from fun _ _ => rfl)
      have P0 := Lib.hid (show ∀ p, p < n → Blk.patch (Gal.coefs f n) l v 0 p = f p from fun p hp => by
        show Gal.co (Gal.coefs f n) p = f p
        rw [Gal.co_coefs, if_pos hp])
      obtain ⟨PT, hPT⟩ : ∃ PT, Blk.patch (Gal.coefs f n) l v = PT := ⟨_, rfl⟩
      rw [hPT] at PS P0
      have HPT := Lib.hid hPT
      clear k0 k1 k2 k3 hw8 z8 hPT
      go_wp2_with fail
      clear cp8
      go_loopw [30] (fun u wr => ∃ k : Nat, k ≤ m ∧ u = .int .i64 (k : Nat) ∧ NumsK .u8 wr g n (fun p => (PT k p).toNat) ∧ But g w8 wr) (fun u _ => m - (intOf u).toNat)
      case atStart => exact ⟨0, Nat.zero_le _, rfl, NG8.out.congr (fun p hp => by rw [P0.out p hp]), But.refl _ _⟩
      case round =>
        obtain ⟨k, hk, rfl, hN, hB⟩ := hrel
        have HN := Lib.hid hN
        have HB := Lib.hid hB
        have l48 := Lib.hid (show w.heap.size + 1 < w8.heap.size by have := l45.out; have := s6.out; have := s8.out; omega)
        have l58 := Lib.hid (show w.heap.size + 1 + 1 < w8.heap.size by have := l55.out; have := s6.out; have := s8.out; omega)
        have CR := Lib.hid (C8.out.but l48.out l58.out n4.out n5.out hB)
        have sr := Lib.hid hB.below.size
        have l4r := Lib.hid (show w.heap.size + 1 < wr.heap.size by have := l48.out; have := sr.out; omega)
        have l5r := Lib.hid (show w.heap.size + 1 + 1 < wr.heap.size by have := l58.out; have := sr.out; omega)
        clear hN hB
        by_cases hlt : k < m
        · rcases PI8.out with h | ⟨gl, rfl, ng, lg, hint⟩
          · omega
          · have ci := (World.cell?_of_block (w := w8) (a := ⟨gl, k, none⟩) (HB.out.rest gl (by have := s8.out; omega) ng)).trans (hint k hlt)
            have pn := PN.out (l.getD k 0) (by
              rw [List.getD_eq_getElem?_getD, List.getElem?_eq_getElem (by rw [HM.out]; exact hlt), Option.getD_some]
              exact List.getElem_mem _)
            have ps := Lib.hid (PS.out k)
            obtain ⟨p, hp⟩ : ∃ p, l.getD k 0 = p := ⟨_, rfl⟩
            rw [hp] at ci pn ps
            have NYR := Lib.hid (NY8.out.but HB.out ny.out)
            have lgr := Lib.hid (show gl < wr.heap.size by have := s8.out; have := sr.out; omega)
            have m9 : m ≤ 8 := l8
            clear hp hint ng lg
            go_upto_region 9 with fail
            refine paRegion (w.heap.size + 1) g cc gy m n m k p (PT k p) (v k) (by omega) (by omega) pn hlt l4r.out CR.out.c0 HN.out.1 (HN.out.cell pn) NYR.out.1 (NYR.out.cell hlt) (by kernel_rfl) rfl rfl rfl rfl rfl rfl rfl rfl rfl rfl rfl rfl rfl rfl rfl rfl ?_
            intro w9 h9
            simp only [Act.put, List.setIfInBounds_toArray, List.set_cons_succ, List.set_cons_zero, List.drop_succ_cons, List.drop_zero]
            have N9 := HN.out.below h9
            have cc9 := N9.cell pn
            have ff9 := N9.frozen pn
            obtain ⟨old, hold⟩ : ∃ o, (PT k p).toNat = o := ⟨_, rfl⟩
            rw [hold] at cc9
            have HN9 := Lib.hid N9
            obtain ⟨xn, hxn⟩ : ∃ o, (PT k p ^^^ v k).toNat = o := ⟨_, rfl⟩
            have N10 := Lib.hid (HN9.out.set (g := fun p' => (PT (k + 1) p').toNat) p xn pn (by show (PT (k + 1) p).toNat = xn; rw [ps.out, if_pos rfl, hxn]) (fun j _ hj => by show (PT (k + 1) j).toNat = _; rw [ps.out, if_neg hj]))
            have B10 := Lib.hid ((HB.out.trans (But.of_below h9 (Nat.le_of_lt HN.out.1))).setCell p (.int .u8 (xn : Nat)))
            rw [hxn]
            clear hold hxn N9 h9 HN HB ci
            go_wp2_with fail
            go_roundw
            case rel => exact ⟨k + 1, by omega, by go_num, N10.out, B10.out⟩
            case measure => simp [intOf]; omega
        · obtain rfl : k = m := by omega
          have BR := Lib.hid (B8.out.trans (HB.out.below.mono (by have := l42.out; have := HGG.out; have := s6.out; have := sw5.out; have := s2w.out; omega)))
          have ISB := Lib.hid (fun w' (hb : Below wr.heap.size wr w') => isBlock_any g cc n (.slice none 0 0) (PT k) (by omega) hn HCC.out w' (HN.out.below hb))
          obtain ⟨r, hr⟩ : ∃ r, decide (Blk.Code (Gal.coefs (PT k) n)) = r := ⟨_, rfl⟩
          rw [hr] at ISB
          have HR := Lib.hid hr
          clear hr
          go_upto_region 11 with fail
          refine fiRegion (w.heap.size + 1) g cc n r l4r.out CR.out.c0 CR.out.c1 ISB.out (by kernel_rfl) rfl rfl rfl rfl rfl ?_
          intro w9 h9
          simp only [Act.put, List.setIfInBounds_toArray, List.set_cons_succ, List.set_cons_zero, List.drop_succ_cons, List.drop_zero]
          have C9 := CR.out.below l4r.out l5r.out h9
          have N9 := Lib.hid (HN.out.below h9)
          have B9 := Lib.hid (bt BR.out h9)
          have C9H := Lib.hid C9
          obtain ⟨k0, k1, k2, k3, k4, k5, k6⟩ := C9
          clear h9 k6
          go_wp2_with fail
          have C10 := Lib.hid (show Cells2 (((w9.setCell ⟨w.heap.size + 1, 0, none⟩ (.slice (some ⟨g, 0, none⟩) n cc)).setCell ⟨w.heap.size + 1, 1, none⟩ (.slice none 0 0)).setCell ⟨w.heap.size + 1 + 1, 0, none⟩ (.bool r)) (w.heap.size + 1) (w.heap.size + 1 + 1) (.slice (some ⟨g, 0, none⟩) n cc) (.slice none 0 0) (.bool r) from
            ⟨by rw [World.cell?_setCell_other (h := fun e => C9H.out.ne (congrArg Addr.block e).symm), World.cell?_setCell_other (h := addr_off (by omega))]; exact World.cell?_setCell_same' _ _ _ (by rw [k0]; rfl),
              by rw [World.cell?_setCell_other (h := fun e => C9H.out.ne (congrArg Addr.block e).symm)]; exact World.cell?_setCell_same' _ _ _ (by rw [World.cell?_setCell_other (h := addr_off (by omega)), k1]; rfl),
              World.cell?_setCell_same' _ _ _ (by rw [World.cell?_setCell_other (h := fun e => C9H.out.ne (congrArg Addr.block e)), World.cell?_setCell_other (h := fun e => C9H.out.ne (congrArg Addr.block e)), k2]; rfl),
              by rw [World.frozen?_setCell, World.frozen?_setCell, World.frozen?_setCell]; exact k3, by rw [World.frozen?_setCell, World.frozen?_setCell, World.frozen?_setCell]; exact k4, by rw [World.frozen?_setCell, World.frozen?_setCell, World.frozen?_setCell]; exact k5, C9H.out.ne⟩)
          have N10 := Lib.hid (((N9.out.setOther (c := w.heap.size + 1) (i := 0) n4.out (.slice (some ⟨g, 0, none⟩) n cc)).setOther (c := w.heap.size + 1) (i := 1) n4.out (.slice none 0 0)).setOther (c := w.heap.size + 1 + 1) (i := 0) n5.out (.bool r))
          have B10 := Lib.hid (((B9.out.setCell (p := ⟨w.heap.size + 1, 0, none⟩) (Nat.le_succ _) (.slice (some ⟨g, 0, none⟩) n cc)).setCell (p := ⟨w.heap.size + 1, 1, none⟩) (Nat.le_succ _) (.slice none 0 0)).setCell (p := ⟨w.heap.size + 1 + 1, 0, none⟩) (show w.heap.size ≤ w.heap.size + 1 + 1 by omega) (.bool r))
          obtain ⟨w10, hw10⟩ : ∃ w10, ((w9.setCell ⟨w.heap.size + 1, 0, none⟩ (.slice (some ⟨g, 0, none⟩) n cc)).setCell ⟨w.heap.size + 1, 1, none⟩ (.slice none 0 0)).setCell ⟨w.heap.size + 1 + 1, 0, none⟩ (.bool r) = w10 := ⟨_, rfl⟩
          rw [hw10] at C10 N10 B10 ⊢
          have PE : Gal.coefs (PT k) n = Gal.coefs (Blk.patch (Gal.coefs f n) l v l.length) n := by rw [HM.out, HPT.out]
          show bodyPostD Tryz.prog Tryz.f50 _ .ret _ w10
          refine door_ret (w.heap.size + 1) (w.heap.size + 1 + 1) _ _ _ C10.out rfl rfl rfl ⟨B10.out, ?_⟩
          have hr := HR.out
          cases r with
          | true =>
            have hc := of_decide_eq_true hr
            rw [PE] at hc
            refine .inl ⟨g, cc, Gal.coefs (PT k) n, rfl, HCC.out, Gal.coefs_length _ _, N10.out.congr (fun p hp => by rw [Gal.co_coefs, if_pos hp]), ?_⟩
            rw [PE]
            exact MN.out v hc
          | false =>
            refine .inr ⟨_, _, _, rfl, fun c hc hqq => ?_⟩
            have hd := of_decide_eq_false hr
            apply hd
            rw [PE, MC.out c v (by rw [HM.out]; exact SU.out) hc hqq]
            exact hc.1
    · have C6 := C5.out.below l45.out l55.out hb6
      show bodyPostD Tryz.prog Tryz.f50 _ (.panic p) _ w6
      exact door_pan (w.heap.size + 1) (w.heap.size + 1 + 1) _ _ _ C6 hp rfl rfl rfl (fun w'' e => FAIL.out w6 w'' (bt B5.out hb6) e (fun c hc => NM.out c (by rw [HM.out]; exact hk) hc))
end Go.Proofs.YtlpjhmafplljaaaGreatDoor
