/- Layer 8, the landed program: drop. -/
import Derived.Test.YtlfnglinalmpjaaMkPStat
import Derived.Laws.CopyOwn
namespace Go.Proofs.Ytlfnglinalmpjaa
open Go.RowKit
set_option linter.unusedVariables false

/-- copy(l, l[d:]) in a row of one's own. -/
theorem wpList_copy_down {P : Program} {w : World} {ops : Array Oper} {rest : List Oper} {o : Oper} {a : Act} {Q : Exit → Act → World → Prop} (hgd : o.guard = none) (x s : Operand) (dT sT : TypeId)
    (ho : o.op = .call { callee := .builtin .copy, args := #[x, s], argTypes := #[dT, sT] }) (elem : TypeId) (hu : P.underlying dT = some (.slice elem)) (hsz : (P.info? elem).map (·.size) = some 1)
    (base g q m md d cap : Nat) (xs : List Value) (hd : a.eval x = .slice (some ⟨g, 0, none⟩) m cap) (hs : a.eval s = .slice (some ⟨g, q, none⟩) md (cap - d)) (hmd : md + d = m) (hq : (d < cap ∧ q = d) ∨ (d = cap ∧ q = 0)) (hown : w.ownsRow base elem 1 (.slice (some ⟨g, 0, none⟩) m cap) m xs) (h1 : ∀ v ∈ xs, v.oneCell' = true)
    (h : ∀ w', But g w w' → w'.ownsRow base elem 1 (.slice (some ⟨g, 0, none⟩) md cap) md (xs.drop d) → wpList P ops Q rest (a.put o.dst (goInt md)) w') : wpList P ops Q (o :: rest) a w := by
  have hl := hown.1
  have hcell := hown.cells (g := g) rfl
  rcases hown.2 with ⟨e, _⟩ | ⟨g', cap', cur, e, hb, hg, hm, hcm, hcs, ht⟩
  · cases e
  · simp only [Value.slice.injEq, Option.some.injEq, Addr.mk.injEq] at e
    obtain ⟨⟨rfl, _⟩, _, rfl⟩ := e
    by_cases h0 : md = 0
    · refine wpList_copy_nothing hgd x s dT sT ho elem hu hsz _ _ _ _ _ _ hd hs (by rw [h0]; exact Nat.zero_min _) ?_
      subst h0
      refine h w (But.refl _ _) ⟨by rw [List.length_drop]; omega, .inr ⟨g, cap, cur, rfl, hb, hg, by omega, hcm, hcs, ?_⟩⟩
      rw [List.drop_eq_nil_of_le (by omega)]
      simp
    · have hqd : q = d := by omega
      subst hqd
      have hn : (xs.drop q).length = md := by rw [List.length_drop]; omega
      have hlen : cur.toList.length = cap := by rw [Array.length_toList, hcs]; omega
      refine wpList_copy_own hgd x s dT sT ho elem hu hsz g 0 m cap ⟨g, q, none⟩ md (cap - q) hd hs cur elem hg (xs.drop q) (by rw [hn]; exact (Nat.min_eq_left (by omega)).symm) (fun j v hv => ?_) (by rw [hn, hcs]; omega) (fun v hv => h1 v (List.mem_of_mem_drop hv)) ?_
      · rw [List.getElem?_drop] at hv
        have := hcell (q + j) v hv
        rw [add_off, Nat.zero_add] at this
        rw [add_off]
        exact this
      · rw [hn]
        refine h _ ⟨⟨rfl, rfl, rfl, by simp [World.setRow], fun k hk => setRow_other w g k _ (by omega)⟩, fun k _ hk => setRow_other w g k _ hk⟩ ⟨by rw [hn]; omega, .inr ⟨g, cap, _, rfl, hb, setRow_heap w g cur _ elem _ hg, by omega, hcm, ?_, ?_⟩⟩
        · rw [List.size_toArray]
          simp only [List.take_zero, List.nil_append, List.length_append, List.length_drop, hlen]
          omega
        · simp only [List.take_zero, List.nil_append, Nat.mul_one]
          rw [List.take_append_of_le_length (by omega), List.take_of_length_le (by omega)]
structure DrRegion (P g m cap d md q : Nat) (A : Act) (w0 : World) (s : Nat → Bool) (a : Act) (w : World) : Prop where
  off : Off [5, 6, 7, 8, 9, 10, 11, 12, 13, 14] a A
  before : Below w0.heap.size w0 w
  t0 : s 0 = true → a.eval (.tmp 5) = .pointer (some ⟨P, 0, none⟩)
  t1 : s 1 = true → a.eval (.tmp 6) = .pointer (some ⟨P, 0, none⟩)
  t2 : s 2 = true → a.eval (.tmp 7) = .pointer (some ⟨P, 5, none⟩)
  t3 : s 3 = true → a.eval (.tmp 8) = .slice (some ⟨g, 0, none⟩) m cap
  t4 : s 4 = true → a.eval (.tmp 9) = .pointer (some ⟨P, 0, none⟩)
  t5 : s 5 = true → a.eval (.tmp 10) = .pointer (some ⟨P, 0, none⟩)
  t6 : s 6 = true → a.eval (.tmp 11) = .pointer (some ⟨P, 5, none⟩)
  t7 : s 7 = true → a.eval (.tmp 12) = .slice (some ⟨g, 0, none⟩) m cap
  t8 : s 8 = true → a.eval (.tmp 13) = .int .i64 (d : Nat)
  t9 : s 9 = true → a.eval (.tmp 14) = .slice (some ⟨g, q, none⟩) md (cap - d)
set_option maxHeartbeats 2000000 in
set_option maxRecDepth 100000 in
theorem drRegion {id : Nat} {l : List Oper} {A : Act} {w : World} {Q : Exit → Act → World → Prop} (P g m cap d md q : Nat)
    (hmd : md + d = m) (hc : m ≤ cap) (hq : (d < cap ∧ q = d) ∨ (d = cap ∧ q = 0)) (lP : P < w.heap.size)
    (c5 : w.cell? ⟨P, 5, none⟩ = some (.slice (some ⟨g, 0, none⟩) m cap))
    (hB : tableH l.toArray 10 (fun i => match i with | 0 => [] | 1 => [0] | 2 => [1] | 3 => [2] | 4 => [] | 5 => [4] | 6 => [5] | 7 => [6] | 8 => [] | 9 => [7, 8] | _ => []) (fun _ => []) = true)
    (h0 : pick l 0 = some (.move (.tmp 0), some 5))
    (h1 : pick l 1 = some (.nilCheck (.tmp 5), some 6))
    (h2 : pick l 2 = some (.fieldAddr 63 (.tmp 6) 3, some 7))
    (h3 : pick l 3 = some (.load 29 (.tmp 7), some 8))
    (h4 : pick l 4 = some (.move (.tmp 0), some 9))
    (h5 : pick l 5 = some (.nilCheck (.tmp 9), some 10))
    (h6 : pick l 6 = some (.fieldAddr 63 (.tmp 10) 3, some 11))
    (h7 : pick l 7 = some (.load 29 (.tmp 11), some 12))
    (h8 : pick l 8 = some (.move (.tmp 1), some 13))
    (h9 : pick l 9 = some (.slice 29 (.tmp 12) (some (.tmp 13)) none none, some 14))
    (hs : A.tmps.size = 25)
    (x0 : A.eval (.tmp 0) = .pointer (some ⟨P, 0, none⟩))
    (x1 : A.eval (.tmp 1) = .int .i64 (d : Nat))
    (h : ∀ w1, Below w.heap.size w w1 → wpList Try.prog l.toArray Q (l.drop 10) ((((((((((A.put (some 5) (.pointer (some ⟨P, 0, none⟩))).put (some 6) (.pointer (some ⟨P, 0, none⟩))).put (some 7) (.pointer (some ⟨P, 5, none⟩))).put (some 8) (.slice (some ⟨g, 0, none⟩) m cap)).put (some 9) (.pointer (some ⟨P, 0, none⟩))).put (some 10) (.pointer (some ⟨P, 0, none⟩))).put (some 11) (.pointer (some ⟨P, 5, none⟩))).put (some 12) (.slice (some ⟨g, 0, none⟩) m cap)).put (some 13) (.int .i64 (d : Nat))).put (some 14) (.slice (some ⟨g, q, none⟩) md (cap - d))) w1) :
    (Code.region id l.toArray true).wp Try.prog Q A w := by
  refine wp_region_head (by kernel_rfl) _ _ _ hB (DrRegion P g m cap d md q A w) ⟨Off.refl _ _, (Below.refl _ _).drew, by simp, by simp, by simp, by simp, by simp, by simp, by simp, by simp, by simp, by simp⟩ ?_ ?_
  · intro s a w' S i' o il ho hsi hT K hK
    have sz : a.tmps.size = 25 := by rw [S.off.2.1]; exact hs
    have y0 : a.eval (.tmp 0) = .pointer (some ⟨P, 0, none⟩) := by rw [S.off.eval (by decide)]; exact x0
    have y1 : a.eval (.tmp 1) = .int .i64 (d : Nat) := by rw [S.off.eval (by decide)]; exact x1
    match i', il, ho, hsi, hT with
    | 0, _, ho, hsi, hT =>
      obtain ⟨e1, e2⟩ := pick_of h0 ho
      have BW := S.before
      refine step_val (v := .pointer (some ⟨P, 0, none⟩)) (by simp only [execOp, e1, y0]; go_simp) (hK _ _ ?_)
      rw [e2]
      exact ⟨S.off.put (by decide) _, S.before, fun _ => (eval_put _ _ _ (by omega)).trans rfl, fun g => by rw [eval_put_ne _ _ _ _ (by decide)]; exact S.t1 (by simpa using g), fun g => by rw [eval_put_ne _ _ _ _ (by decide)]; exact S.t2 (by simpa using g), fun g => by rw [eval_put_ne _ _ _ _ (by decide)]; exact S.t3 (by simpa using g), fun g => by rw [eval_put_ne _ _ _ _ (by decide)]; exact S.t4 (by simpa using g), fun g => by rw [eval_put_ne _ _ _ _ (by decide)]; exact S.t5 (by simpa using g), fun g => by rw [eval_put_ne _ _ _ _ (by decide)]; exact S.t6 (by simpa using g), fun g => by rw [eval_put_ne _ _ _ _ (by decide)]; exact S.t7 (by simpa using g), fun g => by rw [eval_put_ne _ _ _ _ (by decide)]; exact S.t8 (by simpa using g), fun g => by rw [eval_put_ne _ _ _ _ (by decide)]; exact S.t9 (by simpa using g)⟩
    | 1, _, ho, hsi, hT =>
      obtain ⟨e1, e2⟩ := pick_of h1 ho
      have D0 : s 0 = true := list_pos hT (d := 0) (by decide)
      have BW := S.before
      refine step_val (v := .pointer (some ⟨P, 0, none⟩)) (by simp only [execOp, e1, S.t0 D0]; go_simp) (hK _ _ ?_)
      rw [e2]
      exact ⟨S.off.put (by decide) _, S.before, fun g => by rw [eval_put_ne _ _ _ _ (by decide)]; exact S.t0 (by simpa using g), fun _ => (eval_put _ _ _ (by omega)).trans rfl, fun g => by rw [eval_put_ne _ _ _ _ (by decide)]; exact S.t2 (by simpa using g), fun g => by rw [eval_put_ne _ _ _ _ (by decide)]; exact S.t3 (by simpa using g), fun g => by rw [eval_put_ne _ _ _ _ (by decide)]; exact S.t4 (by simpa using g), fun g => by rw [eval_put_ne _ _ _ _ (by decide)]; exact S.t5 (by simpa using g), fun g => by rw [eval_put_ne _ _ _ _ (by decide)]; exact S.t6 (by simpa using g), fun g => by rw [eval_put_ne _ _ _ _ (by decide)]; exact S.t7 (by simpa using g), fun g => by rw [eval_put_ne _ _ _ _ (by decide)]; exact S.t8 (by simpa using g), fun g => by rw [eval_put_ne _ _ _ _ (by decide)]; exact S.t9 (by simpa using g)⟩
    | 2, _, ho, hsi, hT =>
      obtain ⟨e1, e2⟩ := pick_of h2 ho
      have D1 : s 1 = true := list_pos hT (d := 1) (by decide)
      have BW := S.before
      refine step_val (v := .pointer (some ⟨P, 5, none⟩)) (by simp only [execOp, e1, S.t1 D1]; go_simp) (hK _ _ ?_)
      rw [e2]
      exact ⟨S.off.put (by decide) _, S.before, fun g => by rw [eval_put_ne _ _ _ _ (by decide)]; exact S.t0 (by simpa using g), fun g => by rw [eval_put_ne _ _ _ _ (by decide)]; exact S.t1 (by simpa using g), fun _ => (eval_put _ _ _ (by omega)).trans rfl, fun g => by rw [eval_put_ne _ _ _ _ (by decide)]; exact S.t3 (by simpa using g), fun g => by rw [eval_put_ne _ _ _ _ (by decide)]; exact S.t4 (by simpa using g), fun g => by rw [eval_put_ne _ _ _ _ (by decide)]; exact S.t5 (by simpa using g), fun g => by rw [eval_put_ne _ _ _ _ (by decide)]; exact S.t6 (by simpa using g), fun g => by rw [eval_put_ne _ _ _ _ (by decide)]; exact S.t7 (by simpa using g), fun g => by rw [eval_put_ne _ _ _ _ (by decide)]; exact S.t8 (by simpa using g), fun g => by rw [eval_put_ne _ _ _ _ (by decide)]; exact S.t9 (by simpa using g)⟩
    | 3, _, ho, hsi, hT =>
      obtain ⟨e1, e2⟩ := pick_of h3 ho
      have D2 : s 2 = true := list_pos hT (d := 2) (by decide)
      have BW := S.before
      have cl := (BW.cell (p := ⟨P, 5, none⟩) lP).trans c5
      refine step_val (v := .slice (some ⟨g, 0, none⟩) m cap) (by simp only [execOp, e1, S.t2 D2]; go_simp) (hK _ _ ?_)
      rw [e2]
      exact ⟨S.off.put (by decide) _, S.before, fun g => by rw [eval_put_ne _ _ _ _ (by decide)]; exact S.t0 (by simpa using g), fun g => by rw [eval_put_ne _ _ _ _ (by decide)]; exact S.t1 (by simpa using g), fun g => by rw [eval_put_ne _ _ _ _ (by decide)]; exact S.t2 (by simpa using g), fun _ => (eval_put _ _ _ (by omega)).trans rfl, fun g => by rw [eval_put_ne _ _ _ _ (by decide)]; exact S.t4 (by simpa using g), fun g => by rw [eval_put_ne _ _ _ _ (by decide)]; exact S.t5 (by simpa using g), fun g => by rw [eval_put_ne _ _ _ _ (by decide)]; exact S.t6 (by simpa using g), fun g => by rw [eval_put_ne _ _ _ _ (by decide)]; exact S.t7 (by simpa using g), fun g => by rw [eval_put_ne _ _ _ _ (by decide)]; exact S.t8 (by simpa using g), fun g => by rw [eval_put_ne _ _ _ _ (by decide)]; exact S.t9 (by simpa using g)⟩
    | 4, _, ho, hsi, hT =>
      obtain ⟨e1, e2⟩ := pick_of h4 ho
      have BW := S.before
      refine step_val (v := .pointer (some ⟨P, 0, none⟩)) (by simp only [execOp, e1, y0]; go_simp) (hK _ _ ?_)
      rw [e2]
      exact ⟨S.off.put (by decide) _, S.before, fun g => by rw [eval_put_ne _ _ _ _ (by decide)]; exact S.t0 (by simpa using g), fun g => by rw [eval_put_ne _ _ _ _ (by decide)]; exact S.t1 (by simpa using g), fun g => by rw [eval_put_ne _ _ _ _ (by decide)]; exact S.t2 (by simpa using g), fun g => by rw [eval_put_ne _ _ _ _ (by decide)]; exact S.t3 (by simpa using g), fun _ => (eval_put _ _ _ (by omega)).trans rfl, fun g => by rw [eval_put_ne _ _ _ _ (by decide)]; exact S.t5 (by simpa using g), fun g => by rw [eval_put_ne _ _ _ _ (by decide)]; exact S.t6 (by simpa using g), fun g => by rw [eval_put_ne _ _ _ _ (by decide)]; exact S.t7 (by simpa using g), fun g => by rw [eval_put_ne _ _ _ _ (by decide)]; exact S.t8 (by simpa using g), fun g => by rw [eval_put_ne _ _ _ _ (by decide)]; exact S.t9 (by simpa using g)⟩
    | 5, _, ho, hsi, hT =>
      obtain ⟨e1, e2⟩ := pick_of h5 ho
      have D4 : s 4 = true := list_pos hT (d := 4) (by decide)
      have BW := S.before
      refine step_val (v := .pointer (some ⟨P, 0, none⟩)) (by simp only [execOp, e1, S.t4 D4]; go_simp) (hK _ _ ?_)
      rw [e2]
      exact ⟨S.off.put (by decide) _, S.before, fun g => by rw [eval_put_ne _ _ _ _ (by decide)]; exact S.t0 (by simpa using g), fun g => by rw [eval_put_ne _ _ _ _ (by decide)]; exact S.t1 (by simpa using g), fun g => by rw [eval_put_ne _ _ _ _ (by decide)]; exact S.t2 (by simpa using g), fun g => by rw [eval_put_ne _ _ _ _ (by decide)]; exact S.t3 (by simpa using g), fun g => by rw [eval_put_ne _ _ _ _ (by decide)]; exact S.t4 (by simpa using g), fun _ => (eval_put _ _ _ (by omega)).trans rfl, fun g => by rw [eval_put_ne _ _ _ _ (by decide)]; exact S.t6 (by simpa using g), fun g => by rw [eval_put_ne _ _ _ _ (by decide)]; exact S.t7 (by simpa using g), fun g => by rw [eval_put_ne _ _ _ _ (by decide)]; exact S.t8 (by simpa using g), fun g => by rw [eval_put_ne _ _ _ _ (by decide)]; exact S.t9 (by simpa using g)⟩
    | 6, _, ho, hsi, hT =>
      obtain ⟨e1, e2⟩ := pick_of h6 ho
      have D5 : s 5 = true := list_pos hT (d := 5) (by decide)
      have BW := S.before
      refine step_val (v := .pointer (some ⟨P, 5, none⟩)) (by simp only [execOp, e1, S.t5 D5]; go_simp) (hK _ _ ?_)
      rw [e2]
      exact ⟨S.off.put (by decide) _, S.before, fun g => by rw [eval_put_ne _ _ _ _ (by decide)]; exact S.t0 (by simpa using g), fun g => by rw [eval_put_ne _ _ _ _ (by decide)]; exact S.t1 (by simpa using g), fun g => by rw [eval_put_ne _ _ _ _ (by decide)]; exact S.t2 (by simpa using g), fun g => by rw [eval_put_ne _ _ _ _ (by decide)]; exact S.t3 (by simpa using g), fun g => by rw [eval_put_ne _ _ _ _ (by decide)]; exact S.t4 (by simpa using g), fun g => by rw [eval_put_ne _ _ _ _ (by decide)]; exact S.t5 (by simpa using g), fun _ => (eval_put _ _ _ (by omega)).trans rfl, fun g => by rw [eval_put_ne _ _ _ _ (by decide)]; exact S.t7 (by simpa using g), fun g => by rw [eval_put_ne _ _ _ _ (by decide)]; exact S.t8 (by simpa using g), fun g => by rw [eval_put_ne _ _ _ _ (by decide)]; exact S.t9 (by simpa using g)⟩
    | 7, _, ho, hsi, hT =>
      obtain ⟨e1, e2⟩ := pick_of h7 ho
      have D6 : s 6 = true := list_pos hT (d := 6) (by decide)
      have BW := S.before
      have cl := (BW.cell (p := ⟨P, 5, none⟩) lP).trans c5
      refine step_val (v := .slice (some ⟨g, 0, none⟩) m cap) (by simp only [execOp, e1, S.t6 D6]; go_simp) (hK _ _ ?_)
      rw [e2]
      exact ⟨S.off.put (by decide) _, S.before, fun g => by rw [eval_put_ne _ _ _ _ (by decide)]; exact S.t0 (by simpa using g), fun g => by rw [eval_put_ne _ _ _ _ (by decide)]; exact S.t1 (by simpa using g), fun g => by rw [eval_put_ne _ _ _ _ (by decide)]; exact S.t2 (by simpa using g), fun g => by rw [eval_put_ne _ _ _ _ (by decide)]; exact S.t3 (by simpa using g), fun g => by rw [eval_put_ne _ _ _ _ (by decide)]; exact S.t4 (by simpa using g), fun g => by rw [eval_put_ne _ _ _ _ (by decide)]; exact S.t5 (by simpa using g), fun g => by rw [eval_put_ne _ _ _ _ (by decide)]; exact S.t6 (by simpa using g), fun _ => (eval_put _ _ _ (by omega)).trans rfl, fun g => by rw [eval_put_ne _ _ _ _ (by decide)]; exact S.t8 (by simpa using g), fun g => by rw [eval_put_ne _ _ _ _ (by decide)]; exact S.t9 (by simpa using g)⟩
    | 8, _, ho, hsi, hT =>
      obtain ⟨e1, e2⟩ := pick_of h8 ho
      have BW := S.before
      refine step_val (v := .int .i64 (d : Nat)) (by simp only [execOp, e1, y1]; go_simp) (hK _ _ ?_)
      rw [e2]
      exact ⟨S.off.put (by decide) _, S.before, fun g => by rw [eval_put_ne _ _ _ _ (by decide)]; exact S.t0 (by simpa using g), fun g => by rw [eval_put_ne _ _ _ _ (by decide)]; exact S.t1 (by simpa using g), fun g => by rw [eval_put_ne _ _ _ _ (by decide)]; exact S.t2 (by simpa using g), fun g => by rw [eval_put_ne _ _ _ _ (by decide)]; exact S.t3 (by simpa using g), fun g => by rw [eval_put_ne _ _ _ _ (by decide)]; exact S.t4 (by simpa using g), fun g => by rw [eval_put_ne _ _ _ _ (by decide)]; exact S.t5 (by simpa using g), fun g => by rw [eval_put_ne _ _ _ _ (by decide)]; exact S.t6 (by simpa using g), fun g => by rw [eval_put_ne _ _ _ _ (by decide)]; exact S.t7 (by simpa using g), fun _ => (eval_put _ _ _ (by omega)).trans rfl, fun g => by rw [eval_put_ne _ _ _ _ (by decide)]; exact S.t9 (by simpa using g)⟩
    | 9, _, ho, hsi, hT =>
      obtain ⟨e1, e2⟩ := pick_of h9 ho
      have D7 : s 7 = true := list_pos hT (d := 7) (by decide)
      have D8 : s 8 = true := list_pos hT (d := 8) (by decide)
      have BW := S.before
      have q13 : a.tmps[13]'(by omega) = .int .i64 (d : Nat) := by have := S.t8 D8; simpa [Act.eval, sz] using this
      refine step_val (v := .slice (some ⟨g, q, none⟩) md (cap - d)) (by simp only [execOp, e1, Option.map_none, Option.map_some, S.t7 D7]; go_simp; rw [if_pos (by omega), show m - d = md by omega]; rcases hq with ⟨e1, e2⟩ | ⟨e1, e2⟩ <;> first | rw [if_neg (by omega), e2] | rw [if_pos (by omega), e2]) (hK _ _ ?_)
      rw [e2]
      exact ⟨S.off.put (by decide) _, S.before, fun g => by rw [eval_put_ne _ _ _ _ (by decide)]; exact S.t0 (by simpa using g), fun g => by rw [eval_put_ne _ _ _ _ (by decide)]; exact S.t1 (by simpa using g), fun g => by rw [eval_put_ne _ _ _ _ (by decide)]; exact S.t2 (by simpa using g), fun g => by rw [eval_put_ne _ _ _ _ (by decide)]; exact S.t3 (by simpa using g), fun g => by rw [eval_put_ne _ _ _ _ (by decide)]; exact S.t4 (by simpa using g), fun g => by rw [eval_put_ne _ _ _ _ (by decide)]; exact S.t5 (by simpa using g), fun g => by rw [eval_put_ne _ _ _ _ (by decide)]; exact S.t6 (by simpa using g), fun g => by rw [eval_put_ne _ _ _ _ (by decide)]; exact S.t7 (by simpa using g), fun g => by rw [eval_put_ne _ _ _ _ (by decide)]; exact S.t8 (by simpa using g), fun _ => (eval_put _ _ _ (by omega)).trans rfl⟩
    | _ + 10, il, _, _, _ => exact absurd il (by omega)
  · intro s a w' S hall
    have a0 := hall 0 (by omega)
    have a1 := hall 1 (by omega)
    have a2 := hall 2 (by omega)
    have a3 := hall 3 (by omega)
    have a4 := hall 4 (by omega)
    have a5 := hall 5 (by omega)
    have a6 := hall 6 (by omega)
    have a7 := hall 7 (by omega)
    have a8 := hall 8 (by omega)
    have a9 := hall 9 (by omega)
    have e := off_norm _ (by intro d hd; simp at hd; omega) S.off
    simp only [List.foldl, S.t0 a0, S.t1 a1, S.t2 a2, S.t3 a3, S.t4 a4, S.t5 a5, S.t6 a6, S.t7 a7, S.t8 a8, S.t9 a9] at e
    rw [e]
    exact h _ S.before
set_option maxRecDepth 100000 in
set_option maxHeartbeats 1000000 in
theorem drop_any (P len T ms g m cap d md base : Nat) (lk : Bool) (O : Addr) (hv : Value) (ks : List Int) (hm : ks.length = m) (hmd : md + d = m) (hm9 : m ≤ 1000000) (hcap : cap ≤ maxLen) (hgP : g ≠ P) (w : World) (F : Cel w P 7 (pobj O len T lk ms (.slice (some ⟨g, 0, none⟩) m cap) hv)) (R : w.ownsRow base 3 1 (.slice (some ⟨g, 0, none⟩) m cap) m (ks.map (Value.int .i64))) :
    Calls Try.prog 46 #[.pointer (some ⟨P, 0, none⟩), .int .i64 (d : Nat)] w fun e w' => e = .returned (.tuple #[]) ∧ Cel w' P 7 (pobj O len T lk ms (.slice (some ⟨g, 0, none⟩) md cap) hv) ∧ w'.ownsRow base 3 1 (.slice (some ⟨g, 0, none⟩) md cap) md ((ks.drop d).map (Value.int .i64)) ∧ Buts (fun k => k = P ∨ k = g) w w' := by
  obtain ⟨i0, hi, hz0, hz1, hz2⟩ := info_parts info_i64
  have HZ : Hid ((Try.prog.info? 3).map (·.size) = some 1) := Lib.hid (by rw [hi]; simp [hz1])
  have c5 := F.cell (j := 5) (by omega)
  simp only [pobj] at c5
  have lP := F.lt
  have hc : m ≤ cap := by
    rcases R.2 with ⟨e, _⟩ | ⟨_, _, _, e, _, _, h, _⟩
    · cases e
    · simp only [Value.slice.injEq] at e
      omega
  obtain ⟨q, hq⟩ : ∃ q, (d < cap ∧ q = d) ∨ (d = cap ∧ q = 0) := by
    by_cases h : d < cap
    · exact ⟨d, .inl ⟨h, rfl⟩⟩
    · exact ⟨0, .inr ⟨by omega, rfl⟩⟩
  have HC := Lib.hid c5
  have HF := Lib.hid F
  have HR := Lib.hid R
  have HQ := Lib.hid hq
  have HM := Lib.hid hmd
  have HK := Lib.hid hm
  have HCc := Lib.hid hc
  have H1 := Lib.hid (show ∀ v ∈ ks.map (Value.int .i64), v.oneCell' = true from fun v hv => by
    obtain ⟨z, _, rfl⟩ := List.mem_map.1 hv
    rfl)
  unfold maxLen at hcap
  clear F R hq c5 hmd hm hi hz0 hz1 hz2
  go_enter Try.func46, Try.ntmps46
  go_upto_region 0 with fail
  refine drRegion P g m cap d md q HM.out HCc.out HQ.out lP HC.out (by kernel_rfl) rfl rfl rfl rfl rfl rfl rfl rfl rfl rfl rfl rfl rfl ?_
  intro w1 B1
  have F1 := Lib.hid (HF.out.below B1)
  have R1 := Lib.hid (own_below HR.out B1)
  have U1 := Lib.hid (Buts.of_below (S := fun k => k = P ∨ k = g) B1)
  clear HF HR B1 HC
  simp only [Act.put, List.setIfInBounds_toArray, List.set_cons_succ, List.set_cons_zero]
  refine wpList_copy_down rfl _ _ 29 29 rfl 3 Try.underlying29 HZ.out base g q m md d cap _ rfl rfl HM.out HQ.out R1.out H1.out ?_
  intro w2 B2 R2
  have F2 := Lib.hid (F1.out.but B2 (Ne.symm hgP))
  have c5 := F2.out.cell (j := 5) (by omega)
  have z5 := F2.out.frozen (j := 5) (by omega)
  simp only [pobj] at c5
  have HR2 := Lib.hid R2
  have U2 := Lib.hid (U1.out.trans (Buts.of_but B2 (.inr rfl)))
  have F3 := Lib.hid ((F2.out.set 5 (.slice (some ⟨g, 0, none⟩) md cap)).congr (pobj_set5 O len T lk ms _ (.slice (some ⟨g, 0, none⟩) md cap) hv))
  have R3 := Lib.hid (own_keep (w' := w2.setCell ⟨P, 5, none⟩ (.slice (some ⟨g, 0, none⟩) md cap)) HR2.out (fun k hk _ => Below.heap_setCell _ _ _ _ (by cases hk; exact hgP)))
  have U3 := Lib.hid (U2.out.trans (Buts.of_but (S := fun k => k = P ∨ k = g) ((But.refl P w2).setCell 5 (.slice (some ⟨g, 0, none⟩) md cap)) (.inl rfl)))
  have k1 : md ≤ cap := by have := HM.out; have := HCc.out; omega
  clear R2 B2 HR2 U2 F2 U1 R1 F1
  go_wp2_with fail
  go_end0
  exact ⟨rfl, F3.out, by rw [List.map_drop]; exact R3.out, U3.out⟩
end Go.Proofs.Ytlfnglinalmpjaa
