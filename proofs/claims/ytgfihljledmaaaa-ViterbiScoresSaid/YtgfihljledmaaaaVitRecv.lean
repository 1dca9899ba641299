/- Blocks of numbers that may be written; the contract of perigeelaw07's received over this program. -/
import Derived.Test.YtgfihljledmaaaaVitRef
import Derived.Test.YtgfihljledmaaaaRegG
namespace Go.Proofs.Ytgfihljledmaaaa
open Go.RowKit
set_option linter.unusedVariables false

/-- The block b holds n numbers, and they may be written. -/
def IntsW (W : World) (b n : Nat) (f : Nat → Int) : Prop := b < W.heap.size ∧ ∀ j, j < n → W.cell? ⟨b, j, none⟩ = some (.int .i64 (f j)) ∧ W.frozen? ⟨b, j, none⟩ = false
namespace IntsW
variable {W W' : World} {b n : Nat} {f g : Nat → Int}
theorem cell (h : IntsW W b n f) {j : Nat} (hj : j < n) : W.cell? ⟨b, j, none⟩ = some (.int .i64 (f j)) := (h.2 j hj).1
theorem frozen (h : IntsW W b n f) {j : Nat} (hj : j < n) : W.frozen? ⟨b, j, none⟩ = false := (h.2 j hj).2
theorem set (h : IntsW W b n f) (i : Nat) (x : Int) : IntsW (W.setCell ⟨b, i, none⟩ (.int .i64 x)) b n (fun j => if j = i then x else f j) := by
  refine ⟨by rw [World.size_setCell]; exact h.1, fun j hj => ?_⟩
  obtain ⟨h1, h2⟩ := h.2 j hj
  refine ⟨?_, by rw [World.frozen?_setCell]; exact h2⟩
  show _ = some (Value.int .i64 (if j = i then x else f j))
  by_cases e : j = i
  · subst e
    rw [World.cell?_setCell_same' _ _ _ (by rw [h1]; rfl), if_pos rfl]
  · rw [World.cell?_setCell_other (h := addr_off (fun x => e x.symm)), if_neg e]
    exact h1
theorem setOther (h : IntsW W b n f) {c i : Nat} (hc : c ≠ b) (v : Value) : IntsW (W.setCell ⟨c, i, none⟩ v) b n f := by
  refine ⟨by rw [World.size_setCell]; exact h.1, fun j hj => ?_⟩
  obtain ⟨h1, h2⟩ := h.2 j hj
  exact ⟨by rw [World.cell?_setCell_other (h := fun e => hc (congrArg Addr.block e))]; exact h1, by rw [World.frozen?_setCell]; exact h2⟩
theorem below (h : IntsW W b n f) (hb : Below W.heap.size W W') : IntsW W' b n f :=
  ⟨Nat.lt_of_lt_of_le h.1 hb.size, fun j hj => ⟨(hb.cell (p := ⟨b, j, none⟩) h.1).trans (h.2 j hj).1, (hb.frozen (p := ⟨b, j, none⟩) h.1).trans (h.2 j hj).2⟩⟩
theorem congr (h : IntsW W b n f) (e : ∀ j, j < n → f j = g j) : IntsW W b n g := ⟨h.1, fun j hj => by rw [← e j hj]; exact h.2 j hj⟩
theorem ints (h : IntsW W b n f) : Ints W (some ⟨b, 0, none⟩) (zof f n) := .inr ⟨b, 0, rfl, h.1, fun j hj => by
  rw [zof_len] at hj
  rw [Nat.zero_add, zof_get _ _ _ hj]
  exact h.cell hj⟩
theorem of_own {base e cap : Nat} (h : W.ownsRow base e 1 (.slice (some ⟨b, 0, none⟩) n cap) n (zlist f n)) : IntsW W b n f := by
  obtain ⟨hl, h⟩ := h
  rcases h with ⟨hv, _⟩ | ⟨g, c, cur, hv, hb, hg, hnc, hm, hsz, ht⟩
  · simp at hv
  · simp only [Value.slice.injEq, Option.some.injEq, Addr.mk.injEq] at hv
    obtain ⟨⟨rfl, _, _⟩, _, rfl⟩ := hv
    refine ⟨(Array.getElem?_eq_some_iff.1 hg).1, fun j hj => ⟨?_, ?_⟩⟩
    · have e1 : W.cell? ⟨b, j, none⟩ = cur[j]? := by
        unfold World.cell?
        rw [hg]
        simp
      have e2 : (cur.toList.take (n * 1))[j]? = cur[j]? := by
        rw [List.getElem?_take_of_lt (by omega)]
        simp
      rw [e1, ← e2, ht]
      simp [zlist, hj]
    · unfold World.frozen?
      rw [hg]
      simp
end IntsW
structure RecvRegion (lb N lc nb no L nc i q : Nat) (x z u v1 v2 : Int) (f : Nat → Int) (A : Act) (w0 : World) (s : Nat → Bool) (a : Act) (w : World) : Prop where
  off : Off [31, 32, 33, 34, 35, 36, 37, 38, 39, 40, 41, 42, 43, 44, 45, 46, 47, 48] a A
  before : s 18 = false → Below w0.heap.size w0 w
  behind : s 18 = true → ∃ w1, Below w0.heap.size w0 w1 ∧ w = w1.setCell ⟨lb, i, none⟩ (.int .i64 v2)
  t0 : s 0 = true → a.eval (.tmp 31) = .slice (some ⟨lb, 0, none⟩) N lc
  t1 : s 1 = true → a.eval (.tmp 32) = .int .i64 (i : Nat)
  t2 : s 2 = true → a.eval (.tmp 33) = .slice (some ⟨lb, 0, none⟩) N lc
  t3 : s 3 = true → a.eval (.tmp 34) = .int .i64 (i : Nat)
  t4 : s 4 = true → a.eval (.tmp 35) = .pointer (some ⟨lb, i, none⟩)
  t5 : s 5 = true → a.eval (.tmp 36) = .int .i64 x
  t6 : s 6 = true → a.eval (.tmp 37) = .slice (some ⟨nb, no, none⟩) L nc
  t7 : s 7 = true → a.eval (.tmp 38) = .int .i64 (i : Nat)
  t8 : s 8 = true → a.eval (.tmp 39) = .slice (some ⟨nb, no, none⟩) L nc
  t9 : s 9 = true → a.eval (.tmp 40) = .int .i64 (L : Nat)
  t10 : s 10 = true → a.eval (.tmp 41) = .int .i64 (q : Nat)
  t11 : s 11 = true → a.eval (.tmp 42) = .pointer (some ⟨nb, no + q, none⟩)
  t12 : s 12 = true → a.eval (.tmp 43) = .int .i8 z
  t13 : s 13 = true → a.eval (.tmp 44) = .int .i64 z
  t14 : s 14 = true → a.eval (.tmp 45) = .int .i64 u
  t15 : s 15 = true → a.eval (.tmp 46) = .int .i64 v1
  t16 : s 16 = true → a.eval (.tmp 47) = .int .i64 v2
  t17 : s 17 = true → a.eval (.tmp 48) = .pointer (some ⟨lb, i, none⟩)
set_option maxHeartbeats 2000000 in
set_option maxRecDepth 100000 in
theorem recvRegion {id : Nat} {d : Bool} {l : List Oper} {A : Act} {w : World} {Q : Exit → Act → World → Prop} (lb N lc nb no L nc i q : Nat) (x z u v1 v2 : Int) (f : Nat → Int)
    (hi : i ≤ 20000) (hN : i < N) (hK : L ≤ 1000000) (hq : q < L) (hmod : (i : Int) % (L : Int) = (q : Int)) (hmod2 : (i : Int).tmod (L : Int) = (q : Int)) (hK0 : ¬ (L : Int) = 0) (hxb : -8 ≤ x ∧ x ≤ 7) (hzb : -128 ≤ z ∧ z ≤ 127) (hu : x + z = u) (hv1 : max (-8) u = v1) (hv2 : min 7 v1 = v2) (hx : f i = x) (hF : IntsW w lb N f) (hnb : nb < w.heap.size) (hz : w.cell? ⟨nb, no + q, none⟩ = some (.int .i8 z))
    (hB : tableL d l.toArray (fun i => match i with | 0 => [] | 1 => [] | 2 => [] | 3 => [] | 4 => [2, 3] | 5 => [4] | 6 => [] | 7 => [] | 8 => [] | 9 => [8] | 10 => [7, 9] | 11 => [6, 10] | 12 => [11] | 13 => [12] | 14 => [5, 13] | 15 => [14] | 16 => [15] | 17 => [0, 1] | 18 => [0, 1, 2, 3, 4, 5, 6, 7, 8, 9, 10, 11, 12, 13, 14, 15, 16, 17] | _ => []) (fun i => match i with | 0 => [18] | 1 => [18] | 2 => [18] | 3 => [18] | 4 => [18] | 5 => [18] | 6 => [18] | 7 => [18] | 8 => [18] | 9 => [18] | 10 => [18] | 11 => [18] | 12 => [18] | 13 => [18] | 14 => [18] | 15 => [18] | 16 => [18] | 17 => [18] | 18 => [] | _ => []) = true) (hl : l.length = 19)
    (h0 : pick l 0 = some (.move (.tmp 7), some 31))
    (h1 : pick l 1 = some (.move (.tmp 9), some 32))
    (h2 : pick l 2 = some (.move (.tmp 7), some 33))
    (h3 : pick l 3 = some (.move (.tmp 9), some 34))
    (h4 : pick l 4 = some (.indexAddr 22 (.tmp 33) (.tmp 34), some 35))
    (h5 : pick l 5 = some (.load 3 (.tmp 35), some 36))
    (h6 : pick l 6 = some (.move (.tmp 1), some 37))
    (h7 : pick l 7 = some (.move (.tmp 9), some 38))
    (h8 : pick l 8 = some (.move (.tmp 1), some 39))
    (h9 : pick l 9 = some (.call { callee := .builtin .len, args := #[.tmp 39], argTypes := #[35] }, some 40))
    (h10 : pick l 10 = some (.binOp .rem 3 (.tmp 38) (.tmp 40) 3, some 41))
    (h11 : pick l 11 = some (.indexAddr 35 (.tmp 37) (.tmp 41), some 42))
    (h12 : pick l 12 = some (.load 59 (.tmp 42), some 43))
    (h13 : pick l 13 = some (.convert 59 3 (.tmp 43), some 44))
    (h14 : pick l 14 = some (.binOp .add 3 (.tmp 36) (.tmp 44) 3, some 45))
    (h15 : pick l 15 = some (.call { callee := .builtin .max, args := #[.const (.int .i64 (-8)), .tmp 45], argTypes := #[3, 3] }, some 46))
    (h16 : pick l 16 = some (.call { callee := .builtin .min, args := #[.const (.int .i64 7), .tmp 46], argTypes := #[3, 3] }, some 47))
    (h17 : pick l 17 = some (.indexAddr 22 (.tmp 31) (.tmp 32), some 48))
    (h18 : pick l 18 = some (.store 3 (.tmp 48) (.tmp 47), none))
    (hs : A.tmps.size = 50)
    (x7 : A.eval (.tmp 7) = .slice (some ⟨lb, 0, none⟩) N lc)
    (x9 : A.eval (.tmp 9) = .int .i64 (i : Nat))
    (x1 : A.eval (.tmp 1) = .slice (some ⟨nb, no, none⟩) L nc)
    (h : ∀ w1, Below w.heap.size w w1 → Q .normal ((((((((((((((((((A.put (some 31) (.slice (some ⟨lb, 0, none⟩) N lc)).put (some 32) (.int .i64 (i : Nat))).put (some 33) (.slice (some ⟨lb, 0, none⟩) N lc)).put (some 34) (.int .i64 (i : Nat))).put (some 35) (.pointer (some ⟨lb, i, none⟩))).put (some 36) (.int .i64 x)).put (some 37) (.slice (some ⟨nb, no, none⟩) L nc)).put (some 38) (.int .i64 (i : Nat))).put (some 39) (.slice (some ⟨nb, no, none⟩) L nc)).put (some 40) (.int .i64 (L : Nat))).put (some 41) (.int .i64 (q : Nat))).put (some 42) (.pointer (some ⟨nb, no + q, none⟩))).put (some 43) (.int .i8 z)).put (some 44) (.int .i64 z)).put (some 45) (.int .i64 u)).put (some 46) (.int .i64 v1)).put (some 47) (.int .i64 v2)).put (some 48) (.pointer (some ⟨lb, i, none⟩))) (w1.setCell ⟨lb, i, none⟩ (.int .i64 v2))) :
    (Code.region id l.toArray d).wp Try.prog Q A w := by
  refine wp_region_invL (by kernel_rfl) _ _ hB (RecvRegion lb N lc nb no L nc i q x z u v1 v2 f A w) ⟨Off.refl _ _, fun _ => Below.refl _ _, by simp, by simp, by simp, by simp, by simp, by simp, by simp, by simp, by simp, by simp, by simp, by simp, by simp, by simp, by simp, by simp, by simp, by simp, by simp⟩ ⟨Off.refl _ _, fun _ => (Below.refl _ _).drew, by simp, by simp, by simp, by simp, by simp, by simp, by simp, by simp, by simp, by simp, by simp, by simp, by simp, by simp, by simp, by simp, by simp, by simp, by simp⟩ ?_ ?_
  · intro s a w' S i' o ho hsi hT K hK
    have sz : a.tmps.size = 50 := by rw [S.off.2.1]; exact hs
    have il : i' < 19 := by have := (List.getElem?_eq_some_iff.1 ho).1; omega
    have y7 : a.eval (.tmp 7) = .slice (some ⟨lb, 0, none⟩) N lc := by rw [S.off.eval (by decide)]; exact x7
    have y9 : a.eval (.tmp 9) = .int .i64 (i : Nat) := by rw [S.off.eval (by decide)]; exact x9
    have y1 : a.eval (.tmp 1) = .slice (some ⟨nb, no, none⟩) L nc := by rw [S.off.eval (by decide)]; exact x1
    match i', il, ho, hsi, hT with
    | 0, _, ho, hsi, hT =>
      obtain ⟨e1, e2⟩ := pick_of h0 ho
      have NL : s 18 = false := list_neg hT (k := 18) (by decide)
      have BW := S.before NL
      refine step_val (v := .slice (some ⟨lb, 0, none⟩) N lc) (by simp only [execOp, e1, y7]; go_simp) (hK _ _ ?_)
      rw [e2]
      exact ⟨S.off.put (by decide) _, fun _ => S.before NL, fun g => absurd g (by simp [NL]), fun _ => (eval_put _ _ _ (by omega)).trans rfl, fun g => by rw [eval_put_ne _ _ _ _ (by decide)]; exact S.t1 (by simpa using g), fun g => by rw [eval_put_ne _ _ _ _ (by decide)]; exact S.t2 (by simpa using g), fun g => by rw [eval_put_ne _ _ _ _ (by decide)]; exact S.t3 (by simpa using g), fun g => by rw [eval_put_ne _ _ _ _ (by decide)]; exact S.t4 (by simpa using g), fun g => by rw [eval_put_ne _ _ _ _ (by decide)]; exact S.t5 (by simpa using g), fun g => by rw [eval_put_ne _ _ _ _ (by decide)]; exact S.t6 (by simpa using g), fun g => by rw [eval_put_ne _ _ _ _ (by decide)]; exact S.t7 (by simpa using g), fun g => by rw [eval_put_ne _ _ _ _ (by decide)]; exact S.t8 (by simpa using g), fun g => by rw [eval_put_ne _ _ _ _ (by decide)]; exact S.t9 (by simpa using g), fun g => by rw [eval_put_ne _ _ _ _ (by decide)]; exact S.t10 (by simpa using g), fun g => by rw [eval_put_ne _ _ _ _ (by decide)]; exact S.t11 (by simpa using g), fun g => by rw [eval_put_ne _ _ _ _ (by decide)]; exact S.t12 (by simpa using g), fun g => by rw [eval_put_ne _ _ _ _ (by decide)]; exact S.t13 (by simpa using g), fun g => by rw [eval_put_ne _ _ _ _ (by decide)]; exact S.t14 (by simpa using g), fun g => by rw [eval_put_ne _ _ _ _ (by decide)]; exact S.t15 (by simpa using g), fun g => by rw [eval_put_ne _ _ _ _ (by decide)]; exact S.t16 (by simpa using g), fun g => by rw [eval_put_ne _ _ _ _ (by decide)]; exact S.t17 (by simpa using g)⟩
    | 1, _, ho, hsi, hT =>
      obtain ⟨e1, e2⟩ := pick_of h1 ho
      have NL : s 18 = false := list_neg hT (k := 18) (by decide)
      have BW := S.before NL
      refine step_val (v := .int .i64 (i : Nat)) (by simp only [execOp, e1, y9]; go_simp) (hK _ _ ?_)
      rw [e2]
      exact ⟨S.off.put (by decide) _, fun _ => S.before NL, fun g => absurd g (by simp [NL]), fun g => by rw [eval_put_ne _ _ _ _ (by decide)]; exact S.t0 (by simpa using g), fun _ => (eval_put _ _ _ (by omega)).trans rfl, fun g => by rw [eval_put_ne _ _ _ _ (by decide)]; exact S.t2 (by simpa using g), fun g => by rw [eval_put_ne _ _ _ _ (by decide)]; exact S.t3 (by simpa using g), fun g => by rw [eval_put_ne _ _ _ _ (by decide)]; exact S.t4 (by simpa using g), fun g => by rw [eval_put_ne _ _ _ _ (by decide)]; exact S.t5 (by simpa using g), fun g => by rw [eval_put_ne _ _ _ _ (by decide)]; exact S.t6 (by simpa using g), fun g => by rw [eval_put_ne _ _ _ _ (by decide)]; exact S.t7 (by simpa using g), fun g => by rw [eval_put_ne _ _ _ _ (by decide)]; exact S.t8 (by simpa using g), fun g => by rw [eval_put_ne _ _ _ _ (by decide)]; exact S.t9 (by simpa using g), fun g => by rw [eval_put_ne _ _ _ _ (by decide)]; exact S.t10 (by simpa using g), fun g => by rw [eval_put_ne _ _ _ _ (by decide)]; exact S.t11 (by simpa using g), fun g => by rw [eval_put_ne _ _ _ _ (by decide)]; exact S.t12 (by simpa using g), fun g => by rw [eval_put_ne _ _ _ _ (by decide)]; exact S.t13 (by simpa using g), fun g => by rw [eval_put_ne _ _ _ _ (by decide)]; exact S.t14 (by simpa using g), fun g => by rw [eval_put_ne _ _ _ _ (by decide)]; exact S.t15 (by simpa using g), fun g => by rw [eval_put_ne _ _ _ _ (by decide)]; exact S.t16 (by simpa using g), fun g => by rw [eval_put_ne _ _ _ _ (by decide)]; exact S.t17 (by simpa using g)⟩
    | 2, _, ho, hsi, hT =>
      obtain ⟨e1, e2⟩ := pick_of h2 ho
      have NL : s 18 = false := list_neg hT (k := 18) (by decide)
      have BW := S.before NL
      refine step_val (v := .slice (some ⟨lb, 0, none⟩) N lc) (by simp only [execOp, e1, y7]; go_simp) (hK _ _ ?_)
      rw [e2]
      exact ⟨S.off.put (by decide) _, fun _ => S.before NL, fun g => absurd g (by simp [NL]), fun g => by rw [eval_put_ne _ _ _ _ (by decide)]; exact S.t0 (by simpa using g), fun g => by rw [eval_put_ne _ _ _ _ (by decide)]; exact S.t1 (by simpa using g), fun _ => (eval_put _ _ _ (by omega)).trans rfl, fun g => by rw [eval_put_ne _ _ _ _ (by decide)]; exact S.t3 (by simpa using g), fun g => by rw [eval_put_ne _ _ _ _ (by decide)]; exact S.t4 (by simpa using g), fun g => by rw [eval_put_ne _ _ _ _ (by decide)]; exact S.t5 (by simpa using g), fun g => by rw [eval_put_ne _ _ _ _ (by decide)]; exact S.t6 (by simpa using g), fun g => by rw [eval_put_ne _ _ _ _ (by decide)]; exact S.t7 (by simpa using g), fun g => by rw [eval_put_ne _ _ _ _ (by decide)]; exact S.t8 (by simpa using g), fun g => by rw [eval_put_ne _ _ _ _ (by decide)]; exact S.t9 (by simpa using g), fun g => by rw [eval_put_ne _ _ _ _ (by decide)]; exact S.t10 (by simpa using g), fun g => by rw [eval_put_ne _ _ _ _ (by decide)]; exact S.t11 (by simpa using g), fun g => by rw [eval_put_ne _ _ _ _ (by decide)]; exact S.t12 (by simpa using g), fun g => by rw [eval_put_ne _ _ _ _ (by decide)]; exact S.t13 (by simpa using g), fun g => by rw [eval_put_ne _ _ _ _ (by decide)]; exact S.t14 (by simpa using g), fun g => by rw [eval_put_ne _ _ _ _ (by decide)]; exact S.t15 (by simpa using g), fun g => by rw [eval_put_ne _ _ _ _ (by decide)]; exact S.t16 (by simpa using g), fun g => by rw [eval_put_ne _ _ _ _ (by decide)]; exact S.t17 (by simpa using g)⟩
    | 3, _, ho, hsi, hT =>
      obtain ⟨e1, e2⟩ := pick_of h3 ho
      have NL : s 18 = false := list_neg hT (k := 18) (by decide)
      have BW := S.before NL
      refine step_val (v := .int .i64 (i : Nat)) (by simp only [execOp, e1, y9]; go_simp) (hK _ _ ?_)
      rw [e2]
      exact ⟨S.off.put (by decide) _, fun _ => S.before NL, fun g => absurd g (by simp [NL]), fun g => by rw [eval_put_ne _ _ _ _ (by decide)]; exact S.t0 (by simpa using g), fun g => by rw [eval_put_ne _ _ _ _ (by decide)]; exact S.t1 (by simpa using g), fun g => by rw [eval_put_ne _ _ _ _ (by decide)]; exact S.t2 (by simpa using g), fun _ => (eval_put _ _ _ (by omega)).trans rfl, fun g => by rw [eval_put_ne _ _ _ _ (by decide)]; exact S.t4 (by simpa using g), fun g => by rw [eval_put_ne _ _ _ _ (by decide)]; exact S.t5 (by simpa using g), fun g => by rw [eval_put_ne _ _ _ _ (by decide)]; exact S.t6 (by simpa using g), fun g => by rw [eval_put_ne _ _ _ _ (by decide)]; exact S.t7 (by simpa using g), fun g => by rw [eval_put_ne _ _ _ _ (by decide)]; exact S.t8 (by simpa using g), fun g => by rw [eval_put_ne _ _ _ _ (by decide)]; exact S.t9 (by simpa using g), fun g => by rw [eval_put_ne _ _ _ _ (by decide)]; exact S.t10 (by simpa using g), fun g => by rw [eval_put_ne _ _ _ _ (by decide)]; exact S.t11 (by simpa using g), fun g => by rw [eval_put_ne _ _ _ _ (by decide)]; exact S.t12 (by simpa using g), fun g => by rw [eval_put_ne _ _ _ _ (by decide)]; exact S.t13 (by simpa using g), fun g => by rw [eval_put_ne _ _ _ _ (by decide)]; exact S.t14 (by simpa using g), fun g => by rw [eval_put_ne _ _ _ _ (by decide)]; exact S.t15 (by simpa using g), fun g => by rw [eval_put_ne _ _ _ _ (by decide)]; exact S.t16 (by simpa using g), fun g => by rw [eval_put_ne _ _ _ _ (by decide)]; exact S.t17 (by simpa using g)⟩
    | 4, _, ho, hsi, hT =>
      obtain ⟨e1, e2⟩ := pick_of h4 ho
      have D2 : s 2 = true := list_pos hT (d := 2) (by decide)
      have D3 : s 3 = true := list_pos hT (d := 3) (by decide)
      have NL : s 18 = false := list_neg hT (k := 18) (by decide)
      have BW := S.before NL
      refine step_val (v := .pointer (some ⟨lb, i, none⟩)) (by simp only [execOp, e1, S.t2 D2, S.t3 D3]; go_simp) (hK _ _ ?_)
      rw [e2]
      exact ⟨S.off.put (by decide) _, fun _ => S.before NL, fun g => absurd g (by simp [NL]), fun g => by rw [eval_put_ne _ _ _ _ (by decide)]; exact S.t0 (by simpa using g), fun g => by rw [eval_put_ne _ _ _ _ (by decide)]; exact S.t1 (by simpa using g), fun g => by rw [eval_put_ne _ _ _ _ (by decide)]; exact S.t2 (by simpa using g), fun g => by rw [eval_put_ne _ _ _ _ (by decide)]; exact S.t3 (by simpa using g), fun _ => (eval_put _ _ _ (by omega)).trans rfl, fun g => by rw [eval_put_ne _ _ _ _ (by decide)]; exact S.t5 (by simpa using g), fun g => by rw [eval_put_ne _ _ _ _ (by decide)]; exact S.t6 (by simpa using g), fun g => by rw [eval_put_ne _ _ _ _ (by decide)]; exact S.t7 (by simpa using g), fun g => by rw [eval_put_ne _ _ _ _ (by decide)]; exact S.t8 (by simpa using g), fun g => by rw [eval_put_ne _ _ _ _ (by decide)]; exact S.t9 (by simpa using g), fun g => by rw [eval_put_ne _ _ _ _ (by decide)]; exact S.t10 (by simpa using g), fun g => by rw [eval_put_ne _ _ _ _ (by decide)]; exact S.t11 (by simpa using g), fun g => by rw [eval_put_ne _ _ _ _ (by decide)]; exact S.t12 (by simpa using g), fun g => by rw [eval_put_ne _ _ _ _ (by decide)]; exact S.t13 (by simpa using g), fun g => by rw [eval_put_ne _ _ _ _ (by decide)]; exact S.t14 (by simpa using g), fun g => by rw [eval_put_ne _ _ _ _ (by decide)]; exact S.t15 (by simpa using g), fun g => by rw [eval_put_ne _ _ _ _ (by decide)]; exact S.t16 (by simpa using g), fun g => by rw [eval_put_ne _ _ _ _ (by decide)]; exact S.t17 (by simpa using g)⟩
    | 5, _, ho, hsi, hT =>
      obtain ⟨e1, e2⟩ := pick_of h5 ho
      have D4 : s 4 = true := list_pos hT (d := 4) (by decide)
      have NL : s 18 = false := list_neg hT (k := 18) (by decide)
      have BW := S.before NL
      have cl := (hF.below BW).cell hN
      rw [hx] at cl
      refine step_val (v := .int .i64 x) (by simp only [execOp, e1, S.t4 D4]; go_simp) (hK _ _ ?_)
      rw [e2]
      exact ⟨S.off.put (by decide) _, fun _ => S.before NL, fun g => absurd g (by simp [NL]), fun g => by rw [eval_put_ne _ _ _ _ (by decide)]; exact S.t0 (by simpa using g), fun g => by rw [eval_put_ne _ _ _ _ (by decide)]; exact S.t1 (by simpa using g), fun g => by rw [eval_put_ne _ _ _ _ (by decide)]; exact S.t2 (by simpa using g), fun g => by rw [eval_put_ne _ _ _ _ (by decide)]; exact S.t3 (by simpa using g), fun g => by rw [eval_put_ne _ _ _ _ (by decide)]; exact S.t4 (by simpa using g), fun _ => (eval_put _ _ _ (by omega)).trans rfl, fun g => by rw [eval_put_ne _ _ _ _ (by decide)]; exact S.t6 (by simpa using g), fun g => by rw [eval_put_ne _ _ _ _ (by decide)]; exact S.t7 (by simpa using g), fun g => by rw [eval_put_ne _ _ _ _ (by decide)]; exact S.t8 (by simpa using g), fun g => by rw [eval_put_ne _ _ _ _ (by decide)]; exact S.t9 (by simpa using g), fun g => by rw [eval_put_ne _ _ _ _ (by decide)]; exact S.t10 (by simpa using g), fun g => by rw [eval_put_ne _ _ _ _ (by decide)]; exact S.t11 (by simpa using g), fun g => by rw [eval_put_ne _ _ _ _ (by decide)]; exact S.t12 (by simpa using g), fun g => by rw [eval_put_ne _ _ _ _ (by decide)]; exact S.t13 (by simpa using g), fun g => by rw [eval_put_ne _ _ _ _ (by decide)]; exact S.t14 (by simpa using g), fun g => by rw [eval_put_ne _ _ _ _ (by decide)]; exact S.t15 (by simpa using g), fun g => by rw [eval_put_ne _ _ _ _ (by decide)]; exact S.t16 (by simpa using g), fun g => by rw [eval_put_ne _ _ _ _ (by decide)]; exact S.t17 (by simpa using g)⟩
    | 6, _, ho, hsi, hT =>
      obtain ⟨e1, e2⟩ := pick_of h6 ho
      have NL : s 18 = false := list_neg hT (k := 18) (by decide)
      have BW := S.before NL
      refine step_val (v := .slice (some ⟨nb, no, none⟩) L nc) (by simp only [execOp, e1, y1]; go_simp) (hK _ _ ?_)
      rw [e2]
      exact ⟨S.off.put (by decide) _, fun _ => S.before NL, fun g => absurd g (by simp [NL]), fun g => by rw [eval_put_ne _ _ _ _ (by decide)]; exact S.t0 (by simpa using g), fun g => by rw [eval_put_ne _ _ _ _ (by decide)]; exact S.t1 (by simpa using g), fun g => by rw [eval_put_ne _ _ _ _ (by decide)]; exact S.t2 (by simpa using g), fun g => by rw [eval_put_ne _ _ _ _ (by decide)]; exact S.t3 (by simpa using g), fun g => by rw [eval_put_ne _ _ _ _ (by decide)]; exact S.t4 (by simpa using g), fun g => by rw [eval_put_ne _ _ _ _ (by decide)]; exact S.t5 (by simpa using g), fun _ => (eval_put _ _ _ (by omega)).trans rfl, fun g => by rw [eval_put_ne _ _ _ _ (by decide)]; exact S.t7 (by simpa using g), fun g => by rw [eval_put_ne _ _ _ _ (by decide)]; exact S.t8 (by simpa using g), fun g => by rw [eval_put_ne _ _ _ _ (by decide)]; exact S.t9 (by simpa using g), fun g => by rw [eval_put_ne _ _ _ _ (by decide)]; exact S.t10 (by simpa using g), fun g => by rw [eval_put_ne _ _ _ _ (by decide)]; exact S.t11 (by simpa using g), fun g => by rw [eval_put_ne _ _ _ _ (by decide)]; exact S.t12 (by simpa using g), fun g => by rw [eval_put_ne _ _ _ _ (by decide)]; exact S.t13 (by simpa using g), fun g => by rw [eval_put_ne _ _ _ _ (by decide)]; exact S.t14 (by simpa using g), fun g => by rw [eval_put_ne _ _ _ _ (by decide)]; exact S.t15 (by simpa using g), fun g => by rw [eval_put_ne _ _ _ _ (by decide)]; exact S.t16 (by simpa using g), fun g => by rw [eval_put_ne _ _ _ _ (by decide)]; exact S.t17 (by simpa using g)⟩
    | 7, _, ho, hsi, hT =>
      obtain ⟨e1, e2⟩ := pick_of h7 ho
      have NL : s 18 = false := list_neg hT (k := 18) (by decide)
      have BW := S.before NL
      refine step_val (v := .int .i64 (i : Nat)) (by simp only [execOp, e1, y9]; go_simp) (hK _ _ ?_)
      rw [e2]
      exact ⟨S.off.put (by decide) _, fun _ => S.before NL, fun g => absurd g (by simp [NL]), fun g => by rw [eval_put_ne _ _ _ _ (by decide)]; exact S.t0 (by simpa using g), fun g => by rw [eval_put_ne _ _ _ _ (by decide)]; exact S.t1 (by simpa using g), fun g => by rw [eval_put_ne _ _ _ _ (by decide)]; exact S.t2 (by simpa using g), fun g => by rw [eval_put_ne _ _ _ _ (by decide)]; exact S.t3 (by simpa using g), fun g => by rw [eval_put_ne _ _ _ _ (by decide)]; exact S.t4 (by simpa using g), fun g => by rw [eval_put_ne _ _ _ _ (by decide)]; exact S.t5 (by simpa using g), fun g => by rw [eval_put_ne _ _ _ _ (by decide)]; exact S.t6 (by simpa using g), fun _ => (eval_put _ _ _ (by omega)).trans rfl, fun g => by rw [eval_put_ne _ _ _ _ (by decide)]; exact S.t8 (by simpa using g), fun g => by rw [eval_put_ne _ _ _ _ (by decide)]; exact S.t9 (by simpa using g), fun g => by rw [eval_put_ne _ _ _ _ (by decide)]; exact S.t10 (by simpa using g), fun g => by rw [eval_put_ne _ _ _ _ (by decide)]; exact S.t11 (by simpa using g), fun g => by rw [eval_put_ne _ _ _ _ (by decide)]; exact S.t12 (by simpa using g), fun g => by rw [eval_put_ne _ _ _ _ (by decide)]; exact S.t13 (by simpa using g), fun g => by rw [eval_put_ne _ _ _ _ (by decide)]; exact S.t14 (by simpa using g), fun g => by rw [eval_put_ne _ _ _ _ (by decide)]; exact S.t15 (by simpa using g), fun g => by rw [eval_put_ne _ _ _ _ (by decide)]; exact S.t16 (by simpa using g), fun g => by rw [eval_put_ne _ _ _ _ (by decide)]; exact S.t17 (by simpa using g)⟩
    | 8, _, ho, hsi, hT =>
      obtain ⟨e1, e2⟩ := pick_of h8 ho
      have NL : s 18 = false := list_neg hT (k := 18) (by decide)
      have BW := S.before NL
      refine step_val (v := .slice (some ⟨nb, no, none⟩) L nc) (by simp only [execOp, e1, y1]; go_simp) (hK _ _ ?_)
      rw [e2]
      exact ⟨S.off.put (by decide) _, fun _ => S.before NL, fun g => absurd g (by simp [NL]), fun g => by rw [eval_put_ne _ _ _ _ (by decide)]; exact S.t0 (by simpa using g), fun g => by rw [eval_put_ne _ _ _ _ (by decide)]; exact S.t1 (by simpa using g), fun g => by rw [eval_put_ne _ _ _ _ (by decide)]; exact S.t2 (by simpa using g), fun g => by rw [eval_put_ne _ _ _ _ (by decide)]; exact S.t3 (by simpa using g), fun g => by rw [eval_put_ne _ _ _ _ (by decide)]; exact S.t4 (by simpa using g), fun g => by rw [eval_put_ne _ _ _ _ (by decide)]; exact S.t5 (by simpa using g), fun g => by rw [eval_put_ne _ _ _ _ (by decide)]; exact S.t6 (by simpa using g), fun g => by rw [eval_put_ne _ _ _ _ (by decide)]; exact S.t7 (by simpa using g), fun _ => (eval_put _ _ _ (by omega)).trans rfl, fun g => by rw [eval_put_ne _ _ _ _ (by decide)]; exact S.t9 (by simpa using g), fun g => by rw [eval_put_ne _ _ _ _ (by decide)]; exact S.t10 (by simpa using g), fun g => by rw [eval_put_ne _ _ _ _ (by decide)]; exact S.t11 (by simpa using g), fun g => by rw [eval_put_ne _ _ _ _ (by decide)]; exact S.t12 (by simpa using g), fun g => by rw [eval_put_ne _ _ _ _ (by decide)]; exact S.t13 (by simpa using g), fun g => by rw [eval_put_ne _ _ _ _ (by decide)]; exact S.t14 (by simpa using g), fun g => by rw [eval_put_ne _ _ _ _ (by decide)]; exact S.t15 (by simpa using g), fun g => by rw [eval_put_ne _ _ _ _ (by decide)]; exact S.t16 (by simpa using g), fun g => by rw [eval_put_ne _ _ _ _ (by decide)]; exact S.t17 (by simpa using g)⟩
    | 9, _, ho, hsi, hT =>
      obtain ⟨e1, e2⟩ := pick_of h9 ho
      have D8 : s 8 = true := list_pos hT (d := 8) (by decide)
      have NL : s 18 = false := list_neg hT (k := 18) (by decide)
      have BW := S.before NL
      have q39 : a.tmps[39]'(by omega) = .slice (some ⟨nb, no, none⟩) L nc := by have := S.t8 D8; simpa [Act.eval, sz] using this
      refine step_val (v := .int .i64 (L : Nat)) (by simp only [execOp, e1]; go_simp) (hK _ _ ?_)
      rw [e2]
      exact ⟨S.off.put (by decide) _, fun _ => S.before NL, fun g => absurd g (by simp [NL]), fun g => by rw [eval_put_ne _ _ _ _ (by decide)]; exact S.t0 (by simpa using g), fun g => by rw [eval_put_ne _ _ _ _ (by decide)]; exact S.t1 (by simpa using g), fun g => by rw [eval_put_ne _ _ _ _ (by decide)]; exact S.t2 (by simpa using g), fun g => by rw [eval_put_ne _ _ _ _ (by decide)]; exact S.t3 (by simpa using g), fun g => by rw [eval_put_ne _ _ _ _ (by decide)]; exact S.t4 (by simpa using g), fun g => by rw [eval_put_ne _ _ _ _ (by decide)]; exact S.t5 (by simpa using g), fun g => by rw [eval_put_ne _ _ _ _ (by decide)]; exact S.t6 (by simpa using g), fun g => by rw [eval_put_ne _ _ _ _ (by decide)]; exact S.t7 (by simpa using g), fun g => by rw [eval_put_ne _ _ _ _ (by decide)]; exact S.t8 (by simpa using g), fun _ => (eval_put _ _ _ (by omega)).trans rfl, fun g => by rw [eval_put_ne _ _ _ _ (by decide)]; exact S.t10 (by simpa using g), fun g => by rw [eval_put_ne _ _ _ _ (by decide)]; exact S.t11 (by simpa using g), fun g => by rw [eval_put_ne _ _ _ _ (by decide)]; exact S.t12 (by simpa using g), fun g => by rw [eval_put_ne _ _ _ _ (by decide)]; exact S.t13 (by simpa using g), fun g => by rw [eval_put_ne _ _ _ _ (by decide)]; exact S.t14 (by simpa using g), fun g => by rw [eval_put_ne _ _ _ _ (by decide)]; exact S.t15 (by simpa using g), fun g => by rw [eval_put_ne _ _ _ _ (by decide)]; exact S.t16 (by simpa using g), fun g => by rw [eval_put_ne _ _ _ _ (by decide)]; exact S.t17 (by simpa using g)⟩
    | 10, _, ho, hsi, hT =>
      obtain ⟨e1, e2⟩ := pick_of h10 ho
      have D7 : s 7 = true := list_pos hT (d := 7) (by decide)
      have D9 : s 9 = true := list_pos hT (d := 9) (by decide)
      have NL : s 18 = false := list_neg hT (k := 18) (by decide)
      have BW := S.before NL
      refine step_val (v := .int .i64 (q : Nat)) (by simp only [execOp, e1, S.t7 D7, S.t9 D9]; go_simp; omega) (hK _ _ ?_)
      rw [e2]
      exact ⟨S.off.put (by decide) _, fun _ => S.before NL, fun g => absurd g (by simp [NL]), fun g => by rw [eval_put_ne _ _ _ _ (by decide)]; exact S.t0 (by simpa using g), fun g => by rw [eval_put_ne _ _ _ _ (by decide)]; exact S.t1 (by simpa using g), fun g => by rw [eval_put_ne _ _ _ _ (by decide)]; exact S.t2 (by simpa using g), fun g => by rw [eval_put_ne _ _ _ _ (by decide)]; exact S.t3 (by simpa using g), fun g => by rw [eval_put_ne _ _ _ _ (by decide)]; exact S.t4 (by simpa using g), fun g => by rw [eval_put_ne _ _ _ _ (by decide)]; exact S.t5 (by simpa using g), fun g => by rw [eval_put_ne _ _ _ _ (by decide)]; exact S.t6 (by simpa using g), fun g => by rw [eval_put_ne _ _ _ _ (by decide)]; exact S.t7 (by simpa using g), fun g => by rw [eval_put_ne _ _ _ _ (by decide)]; exact S.t8 (by simpa using g), fun g => by rw [eval_put_ne _ _ _ _ (by decide)]; exact S.t9 (by simpa using g), fun _ => (eval_put _ _ _ (by omega)).trans rfl, fun g => by rw [eval_put_ne _ _ _ _ (by decide)]; exact S.t11 (by simpa using g), fun g => by rw [eval_put_ne _ _ _ _ (by decide)]; exact S.t12 (by simpa using g), fun g => by rw [eval_put_ne _ _ _ _ (by decide)]; exact S.t13 (by simpa using g), fun g => by rw [eval_put_ne _ _ _ _ (by decide)]; exact S.t14 (by simpa using g), fun g => by rw [eval_put_ne _ _ _ _ (by decide)]; exact S.t15 (by simpa using g), fun g => by rw [eval_put_ne _ _ _ _ (by decide)]; exact S.t16 (by simpa using g), fun g => by rw [eval_put_ne _ _ _ _ (by decide)]; exact S.t17 (by simpa using g)⟩
    | 11, _, ho, hsi, hT =>
      obtain ⟨e1, e2⟩ := pick_of h11 ho
      have D6 : s 6 = true := list_pos hT (d := 6) (by decide)
      have D10 : s 10 = true := list_pos hT (d := 10) (by decide)
      have NL : s 18 = false := list_neg hT (k := 18) (by decide)
      have BW := S.before NL
      refine step_val (v := .pointer (some ⟨nb, no + q, none⟩)) (by simp only [execOp, e1, S.t6 D6, S.t10 D10]; go_simp) (hK _ _ ?_)
      rw [e2]
      exact ⟨S.off.put (by decide) _, fun _ => S.before NL, fun g => absurd g (by simp [NL]), fun g => by rw [eval_put_ne _ _ _ _ (by decide)]; exact S.t0 (by simpa using g), fun g => by rw [eval_put_ne _ _ _ _ (by decide)]; exact S.t1 (by simpa using g), fun g => by rw [eval_put_ne _ _ _ _ (by decide)]; exact S.t2 (by simpa using g), fun g => by rw [eval_put_ne _ _ _ _ (by decide)]; exact S.t3 (by simpa using g), fun g => by rw [eval_put_ne _ _ _ _ (by decide)]; exact S.t4 (by simpa using g), fun g => by rw [eval_put_ne _ _ _ _ (by decide)]; exact S.t5 (by simpa using g), fun g => by rw [eval_put_ne _ _ _ _ (by decide)]; exact S.t6 (by simpa using g), fun g => by rw [eval_put_ne _ _ _ _ (by decide)]; exact S.t7 (by simpa using g), fun g => by rw [eval_put_ne _ _ _ _ (by decide)]; exact S.t8 (by simpa using g), fun g => by rw [eval_put_ne _ _ _ _ (by decide)]; exact S.t9 (by simpa using g), fun g => by rw [eval_put_ne _ _ _ _ (by decide)]; exact S.t10 (by simpa using g), fun _ => (eval_put _ _ _ (by omega)).trans rfl, fun g => by rw [eval_put_ne _ _ _ _ (by decide)]; exact S.t12 (by simpa using g), fun g => by rw [eval_put_ne _ _ _ _ (by decide)]; exact S.t13 (by simpa using g), fun g => by rw [eval_put_ne _ _ _ _ (by decide)]; exact S.t14 (by simpa using g), fun g => by rw [eval_put_ne _ _ _ _ (by decide)]; exact S.t15 (by simpa using g), fun g => by rw [eval_put_ne _ _ _ _ (by decide)]; exact S.t16 (by simpa using g), fun g => by rw [eval_put_ne _ _ _ _ (by decide)]; exact S.t17 (by simpa using g)⟩
    | 12, _, ho, hsi, hT =>
      obtain ⟨e1, e2⟩ := pick_of h12 ho
      have D11 : s 11 = true := list_pos hT (d := 11) (by decide)
      have NL : s 18 = false := list_neg hT (k := 18) (by decide)
      have BW := S.before NL
      have cl := (BW.cell (p := ⟨nb, no + q, none⟩) hnb).trans hz
      refine step_val (v := .int .i8 z) (by simp only [execOp, e1, S.t11 D11]; go_simp) (hK _ _ ?_)
      rw [e2]
      exact ⟨S.off.put (by decide) _, fun _ => S.before NL, fun g => absurd g (by simp [NL]), fun g => by rw [eval_put_ne _ _ _ _ (by decide)]; exact S.t0 (by simpa using g), fun g => by rw [eval_put_ne _ _ _ _ (by decide)]; exact S.t1 (by simpa using g), fun g => by rw [eval_put_ne _ _ _ _ (by decide)]; exact S.t2 (by simpa using g), fun g => by rw [eval_put_ne _ _ _ _ (by decide)]; exact S.t3 (by simpa using g), fun g => by rw [eval_put_ne _ _ _ _ (by decide)]; exact S.t4 (by simpa using g), fun g => by rw [eval_put_ne _ _ _ _ (by decide)]; exact S.t5 (by simpa using g), fun g => by rw [eval_put_ne _ _ _ _ (by decide)]; exact S.t6 (by simpa using g), fun g => by rw [eval_put_ne _ _ _ _ (by decide)]; exact S.t7 (by simpa using g), fun g => by rw [eval_put_ne _ _ _ _ (by decide)]; exact S.t8 (by simpa using g), fun g => by rw [eval_put_ne _ _ _ _ (by decide)]; exact S.t9 (by simpa using g), fun g => by rw [eval_put_ne _ _ _ _ (by decide)]; exact S.t10 (by simpa using g), fun g => by rw [eval_put_ne _ _ _ _ (by decide)]; exact S.t11 (by simpa using g), fun _ => (eval_put _ _ _ (by omega)).trans rfl, fun g => by rw [eval_put_ne _ _ _ _ (by decide)]; exact S.t13 (by simpa using g), fun g => by rw [eval_put_ne _ _ _ _ (by decide)]; exact S.t14 (by simpa using g), fun g => by rw [eval_put_ne _ _ _ _ (by decide)]; exact S.t15 (by simpa using g), fun g => by rw [eval_put_ne _ _ _ _ (by decide)]; exact S.t16 (by simpa using g), fun g => by rw [eval_put_ne _ _ _ _ (by decide)]; exact S.t17 (by simpa using g)⟩
    | 13, _, ho, hsi, hT =>
      obtain ⟨e1, e2⟩ := pick_of h13 ho
      have D12 : s 12 = true := list_pos hT (d := 12) (by decide)
      have NL : s 18 = false := list_neg hT (k := 18) (by decide)
      have BW := S.before NL
      refine step_val (v := .int .i64 z) (by simp only [execOp, e1, S.t12 D12]; go_simp; rw [IntKind.wrap_i64]; omega) (hK _ _ ?_)
      rw [e2]
      exact ⟨S.off.put (by decide) _, fun _ => S.before NL, fun g => absurd g (by simp [NL]), fun g => by rw [eval_put_ne _ _ _ _ (by decide)]; exact S.t0 (by simpa using g), fun g => by rw [eval_put_ne _ _ _ _ (by decide)]; exact S.t1 (by simpa using g), fun g => by rw [eval_put_ne _ _ _ _ (by decide)]; exact S.t2 (by simpa using g), fun g => by rw [eval_put_ne _ _ _ _ (by decide)]; exact S.t3 (by simpa using g), fun g => by rw [eval_put_ne _ _ _ _ (by decide)]; exact S.t4 (by simpa using g), fun g => by rw [eval_put_ne _ _ _ _ (by decide)]; exact S.t5 (by simpa using g), fun g => by rw [eval_put_ne _ _ _ _ (by decide)]; exact S.t6 (by simpa using g), fun g => by rw [eval_put_ne _ _ _ _ (by decide)]; exact S.t7 (by simpa using g), fun g => by rw [eval_put_ne _ _ _ _ (by decide)]; exact S.t8 (by simpa using g), fun g => by rw [eval_put_ne _ _ _ _ (by decide)]; exact S.t9 (by simpa using g), fun g => by rw [eval_put_ne _ _ _ _ (by decide)]; exact S.t10 (by simpa using g), fun g => by rw [eval_put_ne _ _ _ _ (by decide)]; exact S.t11 (by simpa using g), fun g => by rw [eval_put_ne _ _ _ _ (by decide)]; exact S.t12 (by simpa using g), fun _ => (eval_put _ _ _ (by omega)).trans rfl, fun g => by rw [eval_put_ne _ _ _ _ (by decide)]; exact S.t14 (by simpa using g), fun g => by rw [eval_put_ne _ _ _ _ (by decide)]; exact S.t15 (by simpa using g), fun g => by rw [eval_put_ne _ _ _ _ (by decide)]; exact S.t16 (by simpa using g), fun g => by rw [eval_put_ne _ _ _ _ (by decide)]; exact S.t17 (by simpa using g)⟩
    | 14, _, ho, hsi, hT =>
      obtain ⟨e1, e2⟩ := pick_of h14 ho
      have D5 : s 5 = true := list_pos hT (d := 5) (by decide)
      have D13 : s 13 = true := list_pos hT (d := 13) (by decide)
      have NL : s 18 = false := list_neg hT (k := 18) (by decide)
      have BW := S.before NL
      refine step_val (v := .int .i64 u) (by simp only [execOp, e1, S.t5 D5, S.t13 D13]; go_simp; rw [IntKind.wrap_i64]; omega) (hK _ _ ?_)
      rw [e2]
      exact ⟨S.off.put (by decide) _, fun _ => S.before NL, fun g => absurd g (by simp [NL]), fun g => by rw [eval_put_ne _ _ _ _ (by decide)]; exact S.t0 (by simpa using g), fun g => by rw [eval_put_ne _ _ _ _ (by decide)]; exact S.t1 (by simpa using g), fun g => by rw [eval_put_ne _ _ _ _ (by decide)]; exact S.t2 (by simpa using g), fun g => by rw [eval_put_ne _ _ _ _ (by decide)]; exact S.t3 (by simpa using g), fun g => by rw [eval_put_ne _ _ _ _ (by decide)]; exact S.t4 (by simpa using g), fun g => by rw [eval_put_ne _ _ _ _ (by decide)]; exact S.t5 (by simpa using g), fun g => by rw [eval_put_ne _ _ _ _ (by decide)]; exact S.t6 (by simpa using g), fun g => by rw [eval_put_ne _ _ _ _ (by decide)]; exact S.t7 (by simpa using g), fun g => by rw [eval_put_ne _ _ _ _ (by decide)]; exact S.t8 (by simpa using g), fun g => by rw [eval_put_ne _ _ _ _ (by decide)]; exact S.t9 (by simpa using g), fun g => by rw [eval_put_ne _ _ _ _ (by decide)]; exact S.t10 (by simpa using g), fun g => by rw [eval_put_ne _ _ _ _ (by decide)]; exact S.t11 (by simpa using g), fun g => by rw [eval_put_ne _ _ _ _ (by decide)]; exact S.t12 (by simpa using g), fun g => by rw [eval_put_ne _ _ _ _ (by decide)]; exact S.t13 (by simpa using g), fun _ => (eval_put _ _ _ (by omega)).trans rfl, fun g => by rw [eval_put_ne _ _ _ _ (by decide)]; exact S.t15 (by simpa using g), fun g => by rw [eval_put_ne _ _ _ _ (by decide)]; exact S.t16 (by simpa using g), fun g => by rw [eval_put_ne _ _ _ _ (by decide)]; exact S.t17 (by simpa using g)⟩
    | 15, _, ho, hsi, hT =>
      obtain ⟨e1, e2⟩ := pick_of h15 ho
      have D14 : s 14 = true := list_pos hT (d := 14) (by decide)
      have NL : s 18 = false := list_neg hT (k := 18) (by decide)
      have BW := S.before NL
      have q45 : a.tmps[45]'(by omega) = .int .i64 u := by have := S.t14 D14; simpa [Act.eval, sz] using this
      refine step_val (v := .int .i64 v1) (by simp only [execOp, e1]; go_simp) (hK _ _ ?_)
      rw [e2]
      exact ⟨S.off.put (by decide) _, fun _ => S.before NL, fun g => absurd g (by simp [NL]), fun g => by rw [eval_put_ne _ _ _ _ (by decide)]; exact S.t0 (by simpa using g), fun g => by rw [eval_put_ne _ _ _ _ (by decide)]; exact S.t1 (by simpa using g), fun g => by rw [eval_put_ne _ _ _ _ (by decide)]; exact S.t2 (by simpa using g), fun g => by rw [eval_put_ne _ _ _ _ (by decide)]; exact S.t3 (by simpa using g), fun g => by rw [eval_put_ne _ _ _ _ (by decide)]; exact S.t4 (by simpa using g), fun g => by rw [eval_put_ne _ _ _ _ (by decide)]; exact S.t5 (by simpa using g), fun g => by rw [eval_put_ne _ _ _ _ (by decide)]; exact S.t6 (by simpa using g), fun g => by rw [eval_put_ne _ _ _ _ (by decide)]; exact S.t7 (by simpa using g), fun g => by rw [eval_put_ne _ _ _ _ (by decide)]; exact S.t8 (by simpa using g), fun g => by rw [eval_put_ne _ _ _ _ (by decide)]; exact S.t9 (by simpa using g), fun g => by rw [eval_put_ne _ _ _ _ (by decide)]; exact S.t10 (by simpa using g), fun g => by rw [eval_put_ne _ _ _ _ (by decide)]; exact S.t11 (by simpa using g), fun g => by rw [eval_put_ne _ _ _ _ (by decide)]; exact S.t12 (by simpa using g), fun g => by rw [eval_put_ne _ _ _ _ (by decide)]; exact S.t13 (by simpa using g), fun g => by rw [eval_put_ne _ _ _ _ (by decide)]; exact S.t14 (by simpa using g), fun _ => (eval_put _ _ _ (by omega)).trans rfl, fun g => by rw [eval_put_ne _ _ _ _ (by decide)]; exact S.t16 (by simpa using g), fun g => by rw [eval_put_ne _ _ _ _ (by decide)]; exact S.t17 (by simpa using g)⟩
    | 16, _, ho, hsi, hT =>
      obtain ⟨e1, e2⟩ := pick_of h16 ho
      have D15 : s 15 = true := list_pos hT (d := 15) (by decide)
      have NL : s 18 = false := list_neg hT (k := 18) (by decide)
      have BW := S.before NL
      have q46 : a.tmps[46]'(by omega) = .int .i64 v1 := by have := S.t15 D15; simpa [Act.eval, sz] using this
      refine step_val (v := .int .i64 v2) (by simp only [execOp, e1]; go_simp) (hK _ _ ?_)
      rw [e2]
      exact ⟨S.off.put (by decide) _, fun _ => S.before NL, fun g => absurd g (by simp [NL]), fun g => by rw [eval_put_ne _ _ _ _ (by decide)]; exact S.t0 (by simpa using g), fun g => by rw [eval_put_ne _ _ _ _ (by decide)]; exact S.t1 (by simpa using g), fun g => by rw [eval_put_ne _ _ _ _ (by decide)]; exact S.t2 (by simpa using g), fun g => by rw [eval_put_ne _ _ _ _ (by decide)]; exact S.t3 (by simpa using g), fun g => by rw [eval_put_ne _ _ _ _ (by decide)]; exact S.t4 (by simpa using g), fun g => by rw [eval_put_ne _ _ _ _ (by decide)]; exact S.t5 (by simpa using g), fun g => by rw [eval_put_ne _ _ _ _ (by decide)]; exact S.t6 (by simpa using g), fun g => by rw [eval_put_ne _ _ _ _ (by decide)]; exact S.t7 (by simpa using g), fun g => by rw [eval_put_ne _ _ _ _ (by decide)]; exact S.t8 (by simpa using g), fun g => by rw [eval_put_ne _ _ _ _ (by decide)]; exact S.t9 (by simpa using g), fun g => by rw [eval_put_ne _ _ _ _ (by decide)]; exact S.t10 (by simpa using g), fun g => by rw [eval_put_ne _ _ _ _ (by decide)]; exact S.t11 (by simpa using g), fun g => by rw [eval_put_ne _ _ _ _ (by decide)]; exact S.t12 (by simpa using g), fun g => by rw [eval_put_ne _ _ _ _ (by decide)]; exact S.t13 (by simpa using g), fun g => by rw [eval_put_ne _ _ _ _ (by decide)]; exact S.t14 (by simpa using g), fun g => by rw [eval_put_ne _ _ _ _ (by decide)]; exact S.t15 (by simpa using g), fun _ => (eval_put _ _ _ (by omega)).trans rfl, fun g => by rw [eval_put_ne _ _ _ _ (by decide)]; exact S.t17 (by simpa using g)⟩
    | 17, _, ho, hsi, hT =>
      obtain ⟨e1, e2⟩ := pick_of h17 ho
      have D0 : s 0 = true := list_pos hT (d := 0) (by decide)
      have D1 : s 1 = true := list_pos hT (d := 1) (by decide)
      have NL : s 18 = false := list_neg hT (k := 18) (by decide)
      have BW := S.before NL
      refine step_val (v := .pointer (some ⟨lb, i, none⟩)) (by simp only [execOp, e1, S.t0 D0, S.t1 D1]; go_simp) (hK _ _ ?_)
      rw [e2]
      exact ⟨S.off.put (by decide) _, fun _ => S.before NL, fun g => absurd g (by simp [NL]), fun g => by rw [eval_put_ne _ _ _ _ (by decide)]; exact S.t0 (by simpa using g), fun g => by rw [eval_put_ne _ _ _ _ (by decide)]; exact S.t1 (by simpa using g), fun g => by rw [eval_put_ne _ _ _ _ (by decide)]; exact S.t2 (by simpa using g), fun g => by rw [eval_put_ne _ _ _ _ (by decide)]; exact S.t3 (by simpa using g), fun g => by rw [eval_put_ne _ _ _ _ (by decide)]; exact S.t4 (by simpa using g), fun g => by rw [eval_put_ne _ _ _ _ (by decide)]; exact S.t5 (by simpa using g), fun g => by rw [eval_put_ne _ _ _ _ (by decide)]; exact S.t6 (by simpa using g), fun g => by rw [eval_put_ne _ _ _ _ (by decide)]; exact S.t7 (by simpa using g), fun g => by rw [eval_put_ne _ _ _ _ (by decide)]; exact S.t8 (by simpa using g), fun g => by rw [eval_put_ne _ _ _ _ (by decide)]; exact S.t9 (by simpa using g), fun g => by rw [eval_put_ne _ _ _ _ (by decide)]; exact S.t10 (by simpa using g), fun g => by rw [eval_put_ne _ _ _ _ (by decide)]; exact S.t11 (by simpa using g), fun g => by rw [eval_put_ne _ _ _ _ (by decide)]; exact S.t12 (by simpa using g), fun g => by rw [eval_put_ne _ _ _ _ (by decide)]; exact S.t13 (by simpa using g), fun g => by rw [eval_put_ne _ _ _ _ (by decide)]; exact S.t14 (by simpa using g), fun g => by rw [eval_put_ne _ _ _ _ (by decide)]; exact S.t15 (by simpa using g), fun g => by rw [eval_put_ne _ _ _ _ (by decide)]; exact S.t16 (by simpa using g), fun _ => (eval_put _ _ _ (by omega)).trans rfl⟩
    | 18, _, ho, hsi, hT =>
      obtain ⟨e1, e2⟩ := pick_of h18 ho
      have D0 : s 0 = true := list_pos hT (d := 0) (by decide)
      have D1 : s 1 = true := list_pos hT (d := 1) (by decide)
      have D2 : s 2 = true := list_pos hT (d := 2) (by decide)
      have D3 : s 3 = true := list_pos hT (d := 3) (by decide)
      have D4 : s 4 = true := list_pos hT (d := 4) (by decide)
      have D5 : s 5 = true := list_pos hT (d := 5) (by decide)
      have D6 : s 6 = true := list_pos hT (d := 6) (by decide)
      have D7 : s 7 = true := list_pos hT (d := 7) (by decide)
      have D8 : s 8 = true := list_pos hT (d := 8) (by decide)
      have D9 : s 9 = true := list_pos hT (d := 9) (by decide)
      have D10 : s 10 = true := list_pos hT (d := 10) (by decide)
      have D11 : s 11 = true := list_pos hT (d := 11) (by decide)
      have D12 : s 12 = true := list_pos hT (d := 12) (by decide)
      have D13 : s 13 = true := list_pos hT (d := 13) (by decide)
      have D14 : s 14 = true := list_pos hT (d := 14) (by decide)
      have D15 : s 15 = true := list_pos hT (d := 15) (by decide)
      have D16 : s 16 = true := list_pos hT (d := 16) (by decide)
      have D17 : s 17 = true := list_pos hT (d := 17) (by decide)
      have BW := S.before hsi
      have cl := (hF.below BW).cell hN
      have fz := (hF.below BW).frozen hN
      refine step_to (w2 := w'.setCell ⟨lb, i, none⟩ (.int .i64 v2)) (by simp only [execOp, e1, S.t16 D16, S.t17 D17]; go_simp) (hK _ _ ?_)
      rw [e2]
      exact ⟨S.off.put_none _, fun g => absurd g (by simp), fun _ => ⟨w', BW, rfl⟩, fun g => S.t0 (by simpa using g), fun g => S.t1 (by simpa using g), fun g => S.t2 (by simpa using g), fun g => S.t3 (by simpa using g), fun g => S.t4 (by simpa using g), fun g => S.t5 (by simpa using g), fun g => S.t6 (by simpa using g), fun g => S.t7 (by simpa using g), fun g => S.t8 (by simpa using g), fun g => S.t9 (by simpa using g), fun g => S.t10 (by simpa using g), fun g => S.t11 (by simpa using g), fun g => S.t12 (by simpa using g), fun g => S.t13 (by simpa using g), fun g => S.t14 (by simpa using g), fun g => S.t15 (by simpa using g), fun g => S.t16 (by simpa using g), fun g => S.t17 (by simpa using g)⟩
    | _ + 19, il, _, _, _ => exact absurd il (by omega)
  · intro s a w' S hall
    have a0 := hall 0 (by omega)
    have a1 := hall 1 (by omega)
    have a2 := hall 2 (by omega)
    have a3 := hall 3 (by omega)
    have a4 := hall 4 (by omega)
    have a5 := hall 5 (by omega)
    have a6 := hall 6 (by omega)
    have a7 := hall 7 (by omega)
    have a8 := hall 8 (by omega)
    have a9 := hall 9 (by omega)
    have a10 := hall 10 (by omega)
    have a11 := hall 11 (by omega)
    have a12 := hall 12 (by omega)
    have a13 := hall 13 (by omega)
    have a14 := hall 14 (by omega)
    have a15 := hall 15 (by omega)
    have a16 := hall 16 (by omega)
    have a17 := hall 17 (by omega)
    have a18 := hall 18 (by omega)
    have e := off_norm _ (by intro d hd; simp at hd; omega) S.off
    simp only [List.foldl, S.t0 a0, S.t1 a1, S.t2 a2, S.t3 a3, S.t4 a4, S.t5 a5, S.t6 a6, S.t7 a7, S.t8 a8, S.t9 a9, S.t10 a10, S.t11 a11, S.t12 a12, S.t13 a13, S.t14 a14, S.t15 a15, S.t16 a16, S.t17 a17] at e
    obtain ⟨w1, BW, rfl⟩ := S.behind a18
    rw [e]
    exact h _ BW
theorem own_cap {w : World} {base e n cap : Nat} {a : Option Addr} {xs : List Value} (h : w.ownsRow base e 1 (.slice a n cap) n xs) : n ≤ cap := by
  rcases h.2 with ⟨hv, h0⟩ | ⟨g, cap', _, hv, _, _, hc, _⟩
  · simp only [Value.slice.injEq] at hv
    omega
  · simp only [Value.slice.injEq] at hv
    omega
theorem own_slice {w : World} {base e n : Nat} {v : Value} {xs : List Value} (h : w.ownsRow base e 1 v n xs) (hn : n ≠ 0) : ∃ g cap, v = .slice (some ⟨g, 0, none⟩) n cap := by
  rcases h.2 with ⟨_, h0⟩ | ⟨g, cap, _, rfl, _⟩
  · exact absurd h0 hn
  · exact ⟨g, cap, rfl⟩
/-- What received returns: soft values of the right number. -/
def Received (m : Nat) (w : World) (e : Ending) (w' : World) : Prop :=
  ∃ b cap f, e = .returned (.slice (some ⟨b, 0, none⟩) (16 * m + 12) cap) ∧ (w.heap.size ≤ b ∧ 16 * m + 12 ≤ cap) ∧ IntsW w' b (16 * m + 12) f ∧ (∀ i, i < 16 * m + 12 → sOk (f i)) ∧ Below w.heap.size w w'
theorem enc_list (d : ByteArray) (m : Nat) : listOk (encS d m).data.toList = true := by
  rw [listOk_iff]
  intro i hi
  unfold encS at hi ⊢
  have hi' : i < 16 * m + 12 := by
    have : (Gal.coefs (symB (Cv.mb (Gal.co d.data.toList) m)) (16 * m + 12)).length = 16 * m + 12 := Gal.coefs_length _ _
    rw [← this]
    exact hi
  show (Gal.co (Gal.coefs _ _) i).toNat < 2
  rw [Gal.co_coefs, if_pos hi', symB_nat]
  exact Cv.sym_lt _ _
/-- Noise as an argument: a slice of numbers of 8 bits. -/
def Noise (w : World) (a : Option Addr) (zs : List Int) : Prop := zs = [] ∨ ∃ b off, a = some ⟨b, off, none⟩ ∧ b < w.heap.size ∧ ∀ j, j < zs.length → w.cell? ⟨b, off + j, none⟩ = some (.int .i8 (zs.getD j 0)) ∧ -128 ≤ zs.getD j 0 ∧ zs.getD j 0 ≤ 127
theorem Noise.below {w w' : World} {a : Option Addr} {zs : List Int} (h : Noise w a zs) (hb : Below w.heap.size w w') : Noise w' a zs := by
  rcases h with h | ⟨b, off, rfl, hl, hc⟩
  · exact .inl h
  · exact .inr ⟨b, off, rfl, Nat.lt_of_lt_of_le hl hb.size, fun j hj => ⟨(hb.cell (p := ⟨b, off + j, none⟩) hl).trans (hc j hj).1, (hc j hj).2⟩⟩
theorem noise_arg {w : World} {a : Option Addr} {zs : List Int} (h : Reads .i8 w a zs) (hw : ∀ n ∈ zs, (Lit.int .i8 n).wf = true) : Noise w a zs := by
  rcases h with h | ⟨b, off, rfl, hl, hc⟩
  · exact .inl h
  · refine .inr ⟨b, off, rfl, hl, fun j hj => ⟨hc j hj, ?_⟩⟩
    have : zs.getD j 0 ∈ zs := by
      rw [getD_at zs hj]
      exact List.getElem_mem hj
    have := bounds_i8 (hw _ this)
    omega
set_option maxRecDepth 100000 in
set_option maxHeartbeats 1000000 in
theorem received_any (d : ByteArray) (m : Nat) (hm : d.size = m) (h1 : m ≤ 1100) (a : Option Addr) (cap : Nat) (zs : List Int) (K : Nat) (hK : zs.length = K) (hK1 : K ≤ 1000000) (w : World) (hz : Noise w a zs) :
    Calls Try.prog 19 #[.string d, .slice a K cap] w (Received m w) := by
  have E := Lib.hid (fun w => rencode_any d m hm h1 w)
  have sX : (encS d m).size = 16 * m + 12 := coefs_size _ _
  have S := Lib.hid (fun w => rsoften_any (encS d m) (16 * m + 12) sX (by omega) w)
  have LK := Lib.hid (enc_list d m)
  have SF := Lib.hid (show ∀ i, i < 16 * m + 12 → sOk (sft (encS d m).data.toList i) from fun i hi => by
    have := (listOk_iff _).1 LK.out i (by rw [ls, sX]; exact hi)
    unfold sOk sft
    omega)
  obtain ⟨X, hX⟩ : ∃ x, encS d m = x := ⟨_, rfl⟩
  rw [hX] at E S LK SF sX
  have RV := Lib.hid (fun b cap f e w' (q : e = Ending.returned (.slice (some ⟨b, 0, none⟩) (16 * m + 12) cap) ∧ (w.heap.size ≤ b ∧ 16 * m + 12 ≤ cap) ∧ IntsW w' b (16 * m + 12) f ∧ (∀ i, i < 16 * m + 12 → sOk (f i)) ∧ Below w.heap.size w w') => show Received m w e w' from ⟨b, cap, f, q⟩)
  obtain ⟨N, hN⟩ : ∃ N, 16 * m + 12 = N := ⟨_, rfl⟩
  rw [hN] at S SF RV sX
  have N2 : N ≤ 17612 := by omega
  have N0 : 12 ≤ N := by omega
  have HZ := Lib.hid hz
  have HK := Lib.hid hK
  clear hX hN hm hz hK
  go_enter Try.func19, Try.ntmps19
  go_wp2_with fail
  (with_reducible refine (E.out _).mono ?_)
  rintro e w1 ⟨rfl, hb1⟩
  have B1 := Lib.hid hb1
  clear hb1 E
  go_wp2_with fail
  (with_reducible refine (S.out _).mono ?_)
  intro e w2 hs
  unfold Softened at hs
  rw [if_pos LK.out] at hs
  obtain ⟨v, rfl, hown, hb2⟩ := hs
  obtain ⟨lb, lc, rfl⟩ := own_slice hown (by omega)
  have hlc := own_cap hown
  have hge : w1.heap.size ≤ lb := own_block_ge hown rfl
  have W2 := Lib.hid (IntsW.of_own hown)
  have B2 := Lib.hid (bt B1.out hb2)
  have GE := Lib.hid (show w.heap.size ≤ lb ∧ N ≤ lc from ⟨Nat.le_trans B1.out.size hge, hlc⟩)
  clear hown hb2 hge S B1 LK
  go_wp2_with fail
  go_loopw [9] (fun x wr => ∃ (i : Nat) (f : Nat → Int), i ≤ N ∧ x = .int .i64 (i : Nat) ∧ IntsW wr lb N f ∧ (∀ j, j < N → sOk (f j)) ∧ Below w.heap.size w wr) (fun x _ => N - (intOf x).toNat)
  case atStart => exact ⟨0, _, Nat.zero_le _, rfl, W2.out, SF.out, B2.out⟩
  case round =>
    obtain ⟨i, f, hi, rfl, hI, hO, hB⟩ := hrel
    have HI := Lib.hid hI
    have HO := Lib.hid hO
    have HB := Lib.hid hB
    clear hI hO hB W2 B2
    by_cases hlt : i < N
    · have t1 : decide ((i : Int) < (N : Int)) = true := by simp; omega
      by_cases h0 : 0 < K
      · have t2 : decide ((0 : Int) < (K : Int)) = true := by simp; omega
        obtain h | ⟨nb, no, rfl, hnb, hc⟩ := HZ.out
        · rw [h] at HK
          have := HK.out
          simp at this
          omega
        · obtain ⟨q, hq⟩ : ∃ q, i % K = q := ⟨_, rfl⟩
          have qK : q < K := by rw [← hq]; exact Nat.mod_lt _ h0
          obtain ⟨hc1, hc2⟩ := hc q (by rw [HK.out]; exact qK)
          have xo := HO.out i hlt
          obtain ⟨z, hz⟩ : ∃ z, zs.getD q 0 = z := ⟨_, rfl⟩
          obtain ⟨x, hx⟩ : ∃ x, f i = x := ⟨_, rfl⟩
          rw [hz] at hc1 hc2
          rw [hx] at xo
          obtain ⟨u, hu⟩ : ∃ u, x + z = u := ⟨_, rfl⟩
          obtain ⟨v1, hv1⟩ : ∃ u, max (-8 : Int) u = u := ⟨0, by decide⟩
          clear hv1 v1
          obtain ⟨v1, hv1⟩ : ∃ t, max (-8 : Int) u = t := ⟨_, rfl⟩
          obtain ⟨v2, hv2⟩ : ∃ t, min (7 : Int) v1 = t := ⟨_, rfl⟩
          have vo : sOk v2 := by unfold sOk; omega
          have m1 : (i : Int) % (K : Int) = (q : Int) := by rw [← hq]; simp
          have m2 : (i : Int).tmod (K : Int) = (q : Int) := by rw [Int.tmod_eq_emod_of_nonneg (by omega)]; exact m1
          unfold sOk at xo
          go_upto_region 6 with fail
          refine recvRegion lb N lc nb no K cap i q x z u v1 v2 f (by omega) hlt hK1 qK m1 m2 (by omega) xo hc2 hu hv1 hv2 hx HI.out (Nat.lt_of_lt_of_le hnb HB.out.size) ((HB.out.cell (p := ⟨nb, no + q, none⟩) hnb).trans hc1) (by kernel_rfl) rfl rfl rfl rfl rfl rfl rfl rfl rfl rfl rfl rfl rfl rfl rfl rfl rfl rfl rfl rfl rfl rfl rfl rfl ?_
          intro w4 B4
          simp only [Act.put, List.setIfInBounds_toArray, List.set_cons_succ, List.set_cons_zero]
          have I5 := Lib.hid ((HI.out.below B4).set i v2)
          have O5 := Lib.hid (show ∀ j, j < N → sOk (if j = i then v2 else f j) from fun j hj => by
            by_cases e : j = i
            · rw [if_pos e]; exact vo
            · rw [if_neg e]; exact HO.out j hj)
          have B5 := Lib.hid ((bt HB.out B4).setCell (p := ⟨lb, i, none⟩) GE.out.1 (.int .i64 v2))
          obtain ⟨w6, hw6⟩ : ∃ w6, w4.setCell ⟨lb, i, none⟩ (.int .i64 v2) = w6 := ⟨_, rfl⟩
          rw [hw6] at I5 B5 ⊢
          clear hw6 B4 HI HO HB vo m1 m2 hv1 hv2 hu xo hc1 hc2 hc
          go_wp2_with fail
          go_roundw
          case rel => exact ⟨i + 1, _, by omega, by go_num, I5.out, O5.out, B5.out⟩
          case measure => simp [intOf]; omega
      · have t2 : decide ((0 : Int) < (K : Int)) = false := by simp; omega
        clear HZ HK
        go_wp2_with fail
        go_ret
        exact RV.out lb lc f _ _ ⟨rfl, GE.out, HI.out, HO.out, HB.out⟩
    · have t1 : decide ((i : Int) < (N : Int)) = false := by simp; omega
      clear HZ HK
      go_wp2_with fail
      go_ret
      exact RV.out lb lc f _ _ ⟨rfl, GE.out, HI.out, HO.out, HB.out⟩
end Go.Proofs.Ytgfihljledmaaaa
