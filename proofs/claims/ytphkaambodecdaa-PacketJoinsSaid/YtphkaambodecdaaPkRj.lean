/- The reference's joiner: what it knows, as a row of structs of four cells; regions that store. -/
import Derived.Test.YtphkaambodecdaaPkList
import Derived.Test.YtphkaambodecdaaPkStrs
import Derived.Test.YtphkaambodecdaaRegH
import Derived.Laws.OwnMore
namespace Go.Proofs.Ytphkaambodecdaa
open Go.RowKit
set_option linter.unusedVariables false
set_option maxRecDepth 100000

/-- What the reference knows of an APID. -/
structure Rk where
  ap : Int
  nx : Int
  op : Bool
  tx : ByteArray
instance rkInh : Inhabited Rk := ⟨⟨0, 0, false, ⟨#[]⟩⟩⟩
def rkCel (q : Rk) (j : Nat) : Value := match j with
  | 0 => .int .i64 q.ap
  | 1 => .int .i64 q.nx
  | 2 => .bool q.op
  | 3 => .string q.tx
  | _ => undef
def rk4 (q : Rk) : List Value := [.int .i64 q.ap, .int .i64 q.nx, .bool q.op, .string q.tx]
def rkL (f : Nat → Rk) : Nat → List Value
  | 0 => []
  | n + 1 => rkL f n ++ rk4 (f n)
theorem rkL_length (f : Nat → Rk) : ∀ n, (rkL f n).length = n * 4
  | 0 => rfl
  | n + 1 => by unfold rkL; rw [List.length_append, rkL_length f n, Nat.succ_mul]; rfl
theorem rk4_at (q : Rk) (j : Nat) (hj : j < 4) : (rk4 q)[j]? = some (rkCel q j) := by
  match j, hj with
  | 0, _ => rfl
  | 1, _ => rfl
  | 2, _ => rfl
  | 3, _ => rfl
theorem rkL_at (f : Nat → Rk) : ∀ (n k : Nat), k < n → ∀ j, j < 4 → (rkL f n)[k * 4 + j]? = some (rkCel (f k) j)
  | 0, _, h, _, _ => by omega
  | n + 1, k, h, j, hj => by
    unfold rkL
    by_cases e : k < n
    · rw [List.getElem?_append_left (by rw [rkL_length]; omega)]
      exact rkL_at f n k e j hj
    · obtain rfl : k = n := by omega
      rw [List.getElem?_append_right (by rw [rkL_length]; omega), rkL_length, show k * 4 + j - k * 4 = j by omega]
      exact rk4_at (f k) j hj
theorem rkL_ext (f : Nat → Rk) (n : Nat) (l : List Value) (hl : l.length = n * 4) (h : ∀ k, k < n → ∀ j, j < 4 → l[k * 4 + j]? = some (rkCel (f k) j)) : l = rkL f n := by
  apply List.ext_getElem?
  intro x
  by_cases hx : x < n * 4
  · have e : x = x / 4 * 4 + x % 4 := by omega
    rw [e, h (x / 4) (by omega) (x % 4) (by omega), rkL_at f n (x / 4) (by omega) (x % 4) (by omega)]
  · rw [List.getElem?_eq_none (by omega), List.getElem?_eq_none (by rw [rkL_length]; omega)]
def updN (f : Nat → Rk) (i : Nat) (q : Rk) : Nat → Rk := fun k => if k = i then q else f k
theorem updN_same (f : Nat → Rk) (i : Nat) (q : Rk) : updN f i q i = q := if_pos rfl
theorem updN_ne (f : Nat → Rk) {i k : Nat} (q : Rk) (h : k ≠ i) : updN f i q k = f k := if_neg h
theorem updN_updN (f : Nat → Rk) (i : Nat) (q q' : Rk) : updN (updN f i q) i q' = updN f i q' := by
  funext k
  unfold updN
  split <;> simp_all
theorem updN_id (f : Nat → Rk) (i : Nat) : updN f i (f i) = f := by
  funext k
  unfold updN
  split
  · rename_i e; rw [e]
  · rfl
theorem rkL_congr {f g : Nat → Rk} {n : Nat} (h : ∀ k, k < n → f k = g k) : rkL f n = rkL g n :=
  rkL_ext g n _ (rkL_length f n) (fun k hk j hj => by rw [rkL_at f n k hk j hj, h k hk])
theorem rkL_set (f : Nat → Rk) (n i j : Nat) (hi : i < n) (hj : j < 4) (u : Value) (q : Rk) (hq : ∀ r, r < 4 → rkCel q r = if r = j then u else rkCel (f i) r) : (rkL f n).set (i * 4 + j) u = rkL (updN f i q) n := by
  refine rkL_ext _ n _ (by rw [List.length_set, rkL_length]) (fun k hk r hr => ?_)
  rw [List.getElem?_set]
  by_cases e : k = i
  · subst e
    rw [updN_same, hq r hr]
    by_cases e2 : r = j
    · subst e2
      rw [if_pos rfl, if_pos (by rw [rkL_length]; omega), if_pos rfl]
    · rw [if_neg (by omega), if_neg e2]
      exact rkL_at f n k hk r hr
  · rw [updN_ne _ _ e, if_neg (by omega)]
    exact rkL_at f n k hk r hr
theorem rkL_push (f : Nat → Rk) (n : Nat) (q : Rk) : rkL f n ++ rk4 q = rkL (updN f n q) (n + 1) := by
  show _ = rkL (updN f n q) n ++ rk4 (updN f n q n)
  rw [updN_same, rkL_congr (f := updN f n q) (g := f) (fun k hk => updN_ne _ _ (by omega))]
section
variable {w : World} {n0 G n cap i : Nat} {f : Nat → Rk}
theorem rk_cell (R : w.ownsRow n0 83 4 (.slice (some ⟨G, 0, none⟩) n cap) n (rkL f n)) (hi : i < n) (j : Nat) (hj : j < 4) : w.cell? ⟨G, i * 4 + j, none⟩ = some (rkCel (f i) j) := by
  rw [R.cellAt _ (by omega)]
  exact rkL_at f n i hi j hj
theorem rk_put (R : w.ownsRow n0 83 4 (.slice (some ⟨G, 0, none⟩) n cap) n (rkL f n)) (hi : i < n) (j : Nat) (hj : j < 4) (u : Value) (q : Rk) (hq : ∀ r, r < 4 → rkCel q r = if r = j then u else rkCel (f i) r) :
    (w.setCell ⟨G, i * 4 + j, none⟩ u).ownsRow n0 83 4 (.slice (some ⟨G, 0, none⟩) n cap) n (rkL (updN f i q) n) := by
  have h := (R.stored (i * 4 + j) u).1
  rwa [rkL_set f n i j hi hj u q hq] at h
theorem own_other {w : World} {base e size m c j : Nat} {v : Value} {xs : List Value} (h : w.ownsRow base e size v m xs) (hc : v.ownBlock ≠ some c) (u : Value) : (w.setCell ⟨c, j, none⟩ u).ownsRow base e size v m xs := ownsRow_setCell_other h hc u
theorem Buts.setCell {S : Nat → Prop} {w0 : World} (h : Buts S w0 w) {b j : Nat} (hb : S b) (u : Value) : Buts S w0 (w.setCell ⟨b, j, none⟩ u) :=
  h.trans (Buts.of_but ((But.refl b w).setCell j u) hb)
end
section
variable {P : Program} {ops : Array Oper} {rest : List Oper} {op : Oper} {a : Act} {w : World} {Q : Exit → Act → World → Prop}
/-- At the end (a test that costs nothing). -/
theorem bodyPost_id {fn : Func} {R : Ending → World → Prop} {x : Exit} (h : bodyPost P fn R x a w) : bodyPost P fn R x a w := h
/-- At a list of operations (a test that costs nothing). -/
theorem atList {l : List Oper} (h : wpList P ops Q l a w) : wpList P ops Q l a w := h
/-- A store of one cell of a row of what is known. -/
theorem wpList_setRow (hgd : op.guard = none) (G n cap n0 i j : Nat) (f : Nat → Rk) (u : Value) (q : Rk) (R : w.ownsRow n0 83 4 (.slice (some ⟨G, 0, none⟩) n cap) n (rkL f n)) (hi : i < n) (hj : j < 4) (hq : ∀ r, r < 4 → rkCel q r = if r = j then u else rkCel (f i) r)
    (hrun : (execOp a.eval op).run P w = .ok .skip (w.setCell ⟨G, i * 4 + j, none⟩ u))
    (K : ∀ w', Hid (w'.ownsRow n0 83 4 (.slice (some ⟨G, 0, none⟩) n cap) n (rkL (updN f i q) n)) → Hid (But G w w') → Hid (w'.heap.size = w.heap.size) → wpList P ops Q rest (a.put op.dst undef) w') : wpList P ops Q (op :: rest) a w :=
  wpList_plain hgd fun _ hK => by
    unfold Oper.wp
    rw [hrun]
    exact hK _ _ (K _ (Lib.hid (rk_put R hi j hj u q hq)) (Lib.hid ((But.refl G w).setCell _ u)) (Lib.hid (by simp [World.setCell])))
end
theorem but_row {w w' : World} {base e size m c : Nat} {v : Value} {xs : List Value} (h : w.ownsRow base e size v m xs) (hb : But c w w') (hc : v.ownBlock ≠ some c) : w'.ownsRow base e size v m xs :=
  own_keep h (fun g hg hl => hb.rest g hl (fun e => hc (by rw [hg, e])))
structure RmRegion (X G O i : Nat) (ct nx d1 d2 mi : Int) (A : Act) (w0 : World) (s : Nat → Bool) (a : Act) (w : World) : Prop where
  off : Off [33, 34, 35, 36, 37, 38, 39, 40, 41, 42] a A
  before : Below w0.heap.size w0 w
  t0 : s 0 = true → a.eval (.tmp 33) = .pointer (some ⟨X, 3, none⟩)
  t1 : s 1 = true → a.eval (.tmp 34) = .int .i64 ct
  t2 : s 2 = true → a.eval (.tmp 35) = .pointer (some ⟨G, i * 4, none⟩)
  t3 : s 3 = true → a.eval (.tmp 36) = .pointer (some ⟨G, i * 4, none⟩)
  t4 : s 4 = true → a.eval (.tmp 37) = .pointer (some ⟨G, i * 4 + 1, none⟩)
  t5 : s 5 = true → a.eval (.tmp 38) = .int .i64 nx
  t6 : s 6 = true → a.eval (.tmp 39) = .int .i64 d1
  t7 : s 7 = true → a.eval (.tmp 40) = .int .i64 d2
  t8 : s 8 = true → a.eval (.tmp 41) = .int .i64 mi
  t9 : s 9 = true → a.eval (.tmp 42) = .pointer (some ⟨O, 2, none⟩)
set_option maxHeartbeats 2000000 in
set_option maxRecDepth 100000 in
theorem rmRegion {id : Nat} {l : List Oper} {A : Act} {w : World} {Q : Exit → Act → World → Prop} (X G O i : Nat) (ct nx d1 d2 mi : Int)
    (lX : X < w.heap.size) (lG : G < w.heap.size) (cX : w.cell? ⟨X, 3, none⟩ = some (.int .i64 ct)) (cG : w.cell? ⟨G, i * 4 + 1, none⟩ = some (.int .i64 nx))
    (e1d : IntKind.i64.wrap (ct - nx) = d1) (e2d : IntKind.i64.wrap (d1 + 16384) = d2) (e3d : d2.tmod 16384 = mi) (e4d : IntKind.i64.wrap mi = mi)
    (hB : tableH l.toArray 10 (fun i => match i with | 0 => [] | 1 => [0] | 2 => [] | 3 => [2] | 4 => [3] | 5 => [4] | 6 => [1, 5] | 7 => [6] | 8 => [7] | 9 => [] | _ => []) (fun _ => []) = true)
    (h0 : pick l 0 = some (.fieldAddr 23 (.tmp 3) 3, some 33))
    (h1 : pick l 1 = some (.load 3 (.tmp 33), some 34))
    (h2 : pick l 2 = some (.move (.tmp 8), some 35))
    (h3 : pick l 3 = some (.nilCheck (.tmp 35), some 36))
    (h4 : pick l 4 = some (.fieldAddr 83 (.tmp 36) 1, some 37))
    (h5 : pick l 5 = some (.load 3 (.tmp 37), some 38))
    (h6 : pick l 6 = some (.binOp .sub 3 (.tmp 34) (.tmp 38) 3, some 39))
    (h7 : pick l 7 = some (.binOp .add 3 (.tmp 39) (.const (.int .i64 16384)) 3, some 40))
    (h8 : pick l 8 = some (.binOp .rem 3 (.tmp 40) (.const (.int .i64 16384)) 3, some 41))
    (h9 : pick l 9 = some (.fieldAddr 52 (.tmp 9) 2, some 42))
    (hs : A.tmps.size = 129)
    (x3 : A.eval (.tmp 3) = .pointer (some ⟨X, 0, none⟩))
    (x8 : A.eval (.tmp 8) = .pointer (some ⟨G, i * 4, none⟩))
    (x9 : A.eval (.tmp 9) = .pointer (some ⟨O, 0, none⟩))
    (h : ∀ w1, Below w.heap.size w w1 → wpList Try.prog l.toArray Q (l.drop 10) ((((((((((A.put (some 33) (.pointer (some ⟨X, 3, none⟩))).put (some 34) (.int .i64 ct)).put (some 35) (.pointer (some ⟨G, i * 4, none⟩))).put (some 36) (.pointer (some ⟨G, i * 4, none⟩))).put (some 37) (.pointer (some ⟨G, i * 4 + 1, none⟩))).put (some 38) (.int .i64 nx)).put (some 39) (.int .i64 d1)).put (some 40) (.int .i64 d2)).put (some 41) (.int .i64 mi)).put (some 42) (.pointer (some ⟨O, 2, none⟩))) w1) :
    (Code.region id l.toArray true).wp Try.prog Q A w := by
  refine wp_region_head (by kernel_rfl) _ _ _ hB (RmRegion X G O i ct nx d1 d2 mi A w) ⟨Off.refl _ _, (Below.refl _ _).drew, by simp, by simp, by simp, by simp, by simp, by simp, by simp, by simp, by simp, by simp⟩ ?_ ?_
  · intro s a w' S i' o il ho hsi hT K hK
    have sz : a.tmps.size = 129 := by rw [S.off.2.1]; exact hs
    have y3 : a.eval (.tmp 3) = .pointer (some ⟨X, 0, none⟩) := by rw [S.off.eval (by decide)]; exact x3
    have y8 : a.eval (.tmp 8) = .pointer (some ⟨G, i * 4, none⟩) := by rw [S.off.eval (by decide)]; exact x8
    have y9 : a.eval (.tmp 9) = .pointer (some ⟨O, 0, none⟩) := by rw [S.off.eval (by decide)]; exact x9
    match i', il, ho, hsi, hT with
    | 0, _, ho, hsi, hT =>
      obtain ⟨e1, e2⟩ := pick_of h0 ho
      have BW := S.before
      refine step_val (v := .pointer (some ⟨X, 3, none⟩)) (by simp only [execOp, e1, y3]; go_simp) (hK _ _ ?_)
      rw [e2]
      exact ⟨S.off.put (by decide) _, S.before, fun _ => (eval_put _ _ _ (by omega)).trans rfl, fun g => by rw [eval_put_ne _ _ _ _ (by decide)]; exact S.t1 (by simpa using g), fun g => by rw [eval_put_ne _ _ _ _ (by decide)]; exact S.t2 (by simpa using g), fun g => by rw [eval_put_ne _ _ _ _ (by decide)]; exact S.t3 (by simpa using g), fun g => by rw [eval_put_ne _ _ _ _ (by decide)]; exact S.t4 (by simpa using g), fun g => by rw [eval_put_ne _ _ _ _ (by decide)]; exact S.t5 (by simpa using g), fun g => by rw [eval_put_ne _ _ _ _ (by decide)]; exact S.t6 (by simpa using g), fun g => by rw [eval_put_ne _ _ _ _ (by decide)]; exact S.t7 (by simpa using g), fun g => by rw [eval_put_ne _ _ _ _ (by decide)]; exact S.t8 (by simpa using g), fun g => by rw [eval_put_ne _ _ _ _ (by decide)]; exact S.t9 (by simpa using g)⟩
    | 1, _, ho, hsi, hT =>
      obtain ⟨e1, e2⟩ := pick_of h1 ho
      have D0 : s 0 = true := list_pos hT (d := 0) (by decide)
      have BW := S.before
      have cl := (BW.cell (p := ⟨X, 3, none⟩) lX).trans cX
      refine step_val (v := .int .i64 ct) (by simp only [execOp, e1, S.t0 D0]; go_simp) (hK _ _ ?_)
      rw [e2]
      exact ⟨S.off.put (by decide) _, S.before, fun g => by rw [eval_put_ne _ _ _ _ (by decide)]; exact S.t0 (by simpa using g), fun _ => (eval_put _ _ _ (by omega)).trans rfl, fun g => by rw [eval_put_ne _ _ _ _ (by decide)]; exact S.t2 (by simpa using g), fun g => by rw [eval_put_ne _ _ _ _ (by decide)]; exact S.t3 (by simpa using g), fun g => by rw [eval_put_ne _ _ _ _ (by decide)]; exact S.t4 (by simpa using g), fun g => by rw [eval_put_ne _ _ _ _ (by decide)]; exact S.t5 (by simpa using g), fun g => by rw [eval_put_ne _ _ _ _ (by decide)]; exact S.t6 (by simpa using g), fun g => by rw [eval_put_ne _ _ _ _ (by decide)]; exact S.t7 (by simpa using g), fun g => by rw [eval_put_ne _ _ _ _ (by decide)]; exact S.t8 (by simpa using g), fun g => by rw [eval_put_ne _ _ _ _ (by decide)]; exact S.t9 (by simpa using g)⟩
    | 2, _, ho, hsi, hT =>
      obtain ⟨e1, e2⟩ := pick_of h2 ho
      have BW := S.before
      refine step_val (v := .pointer (some ⟨G, i * 4, none⟩)) (by simp only [execOp, e1, y8]; go_simp) (hK _ _ ?_)
      rw [e2]
      exact ⟨S.off.put (by decide) _, S.before, fun g => by rw [eval_put_ne _ _ _ _ (by decide)]; exact S.t0 (by simpa using g), fun g => by rw [eval_put_ne _ _ _ _ (by decide)]; exact S.t1 (by simpa using g), fun _ => (eval_put _ _ _ (by omega)).trans rfl, fun g => by rw [eval_put_ne _ _ _ _ (by decide)]; exact S.t3 (by simpa using g), fun g => by rw [eval_put_ne _ _ _ _ (by decide)]; exact S.t4 (by simpa using g), fun g => by rw [eval_put_ne _ _ _ _ (by decide)]; exact S.t5 (by simpa using g), fun g => by rw [eval_put_ne _ _ _ _ (by decide)]; exact S.t6 (by simpa using g), fun g => by rw [eval_put_ne _ _ _ _ (by decide)]; exact S.t7 (by simpa using g), fun g => by rw [eval_put_ne _ _ _ _ (by decide)]; exact S.t8 (by simpa using g), fun g => by rw [eval_put_ne _ _ _ _ (by decide)]; exact S.t9 (by simpa using g)⟩
    | 3, _, ho, hsi, hT =>
      obtain ⟨e1, e2⟩ := pick_of h3 ho
      have D2 : s 2 = true := list_pos hT (d := 2) (by decide)
      have BW := S.before
      refine step_val (v := .pointer (some ⟨G, i * 4, none⟩)) (by simp only [execOp, e1, S.t2 D2]; go_simp) (hK _ _ ?_)
      rw [e2]
      exact ⟨S.off.put (by decide) _, S.before, fun g => by rw [eval_put_ne _ _ _ _ (by decide)]; exact S.t0 (by simpa using g), fun g => by rw [eval_put_ne _ _ _ _ (by decide)]; exact S.t1 (by simpa using g), fun g => by rw [eval_put_ne _ _ _ _ (by decide)]; exact S.t2 (by simpa using g), fun _ => (eval_put _ _ _ (by omega)).trans rfl, fun g => by rw [eval_put_ne _ _ _ _ (by decide)]; exact S.t4 (by simpa using g), fun g => by rw [eval_put_ne _ _ _ _ (by decide)]; exact S.t5 (by simpa using g), fun g => by rw [eval_put_ne _ _ _ _ (by decide)]; exact S.t6 (by simpa using g), fun g => by rw [eval_put_ne _ _ _ _ (by decide)]; exact S.t7 (by simpa using g), fun g => by rw [eval_put_ne _ _ _ _ (by decide)]; exact S.t8 (by simpa using g), fun g => by rw [eval_put_ne _ _ _ _ (by decide)]; exact S.t9 (by simpa using g)⟩
    | 4, _, ho, hsi, hT =>
      obtain ⟨e1, e2⟩ := pick_of h4 ho
      have D3 : s 3 = true := list_pos hT (d := 3) (by decide)
      have BW := S.before
      refine step_val (v := .pointer (some ⟨G, i * 4 + 1, none⟩)) (by simp only [execOp, e1, S.t3 D3]; go_simp) (hK _ _ ?_)
      rw [e2]
      exact ⟨S.off.put (by decide) _, S.before, fun g => by rw [eval_put_ne _ _ _ _ (by decide)]; exact S.t0 (by simpa using g), fun g => by rw [eval_put_ne _ _ _ _ (by decide)]; exact S.t1 (by simpa using g), fun g => by rw [eval_put_ne _ _ _ _ (by decide)]; exact S.t2 (by simpa using g), fun g => by rw [eval_put_ne _ _ _ _ (by decide)]; exact S.t3 (by simpa using g), fun _ => (eval_put _ _ _ (by omega)).trans rfl, fun g => by rw [eval_put_ne _ _ _ _ (by decide)]; exact S.t5 (by simpa using g), fun g => by rw [eval_put_ne _ _ _ _ (by decide)]; exact S.t6 (by simpa using g), fun g => by rw [eval_put_ne _ _ _ _ (by decide)]; exact S.t7 (by simpa using g), fun g => by rw [eval_put_ne _ _ _ _ (by decide)]; exact S.t8 (by simpa using g), fun g => by rw [eval_put_ne _ _ _ _ (by decide)]; exact S.t9 (by simpa using g)⟩
    | 5, _, ho, hsi, hT =>
      obtain ⟨e1, e2⟩ := pick_of h5 ho
      have D4 : s 4 = true := list_pos hT (d := 4) (by decide)
      have BW := S.before
      have cl := (BW.cell (p := ⟨G, i * 4 + 1, none⟩) lG).trans cG
      refine step_val (v := .int .i64 nx) (by simp only [execOp, e1, S.t4 D4]; go_simp) (hK _ _ ?_)
      rw [e2]
      exact ⟨S.off.put (by decide) _, S.before, fun g => by rw [eval_put_ne _ _ _ _ (by decide)]; exact S.t0 (by simpa using g), fun g => by rw [eval_put_ne _ _ _ _ (by decide)]; exact S.t1 (by simpa using g), fun g => by rw [eval_put_ne _ _ _ _ (by decide)]; exact S.t2 (by simpa using g), fun g => by rw [eval_put_ne _ _ _ _ (by decide)]; exact S.t3 (by simpa using g), fun g => by rw [eval_put_ne _ _ _ _ (by decide)]; exact S.t4 (by simpa using g), fun _ => (eval_put _ _ _ (by omega)).trans rfl, fun g => by rw [eval_put_ne _ _ _ _ (by decide)]; exact S.t6 (by simpa using g), fun g => by rw [eval_put_ne _ _ _ _ (by decide)]; exact S.t7 (by simpa using g), fun g => by rw [eval_put_ne _ _ _ _ (by decide)]; exact S.t8 (by simpa using g), fun g => by rw [eval_put_ne _ _ _ _ (by decide)]; exact S.t9 (by simpa using g)⟩
    | 6, _, ho, hsi, hT =>
      obtain ⟨e1, e2⟩ := pick_of h6 ho
      have D1 : s 1 = true := list_pos hT (d := 1) (by decide)
      have D5 : s 5 = true := list_pos hT (d := 5) (by decide)
      have BW := S.before
      refine step_val (v := .int .i64 d1) (by simp only [execOp, e1, S.t1 D1, S.t5 D5]; go_simp) (hK _ _ ?_)
      rw [e2]
      exact ⟨S.off.put (by decide) _, S.before, fun g => by rw [eval_put_ne _ _ _ _ (by decide)]; exact S.t0 (by simpa using g), fun g => by rw [eval_put_ne _ _ _ _ (by decide)]; exact S.t1 (by simpa using g), fun g => by rw [eval_put_ne _ _ _ _ (by decide)]; exact S.t2 (by simpa using g), fun g => by rw [eval_put_ne _ _ _ _ (by decide)]; exact S.t3 (by simpa using g), fun g => by rw [eval_put_ne _ _ _ _ (by decide)]; exact S.t4 (by simpa using g), fun g => by rw [eval_put_ne _ _ _ _ (by decide)]; exact S.t5 (by simpa using g), fun _ => (eval_put _ _ _ (by omega)).trans rfl, fun g => by rw [eval_put_ne _ _ _ _ (by decide)]; exact S.t7 (by simpa using g), fun g => by rw [eval_put_ne _ _ _ _ (by decide)]; exact S.t8 (by simpa using g), fun g => by rw [eval_put_ne _ _ _ _ (by decide)]; exact S.t9 (by simpa using g)⟩
    | 7, _, ho, hsi, hT =>
      obtain ⟨e1, e2⟩ := pick_of h7 ho
      have D6 : s 6 = true := list_pos hT (d := 6) (by decide)
      have BW := S.before
      refine step_val (v := .int .i64 d2) (by simp only [execOp, e1, S.t6 D6]; go_simp) (hK _ _ ?_)
      rw [e2]
      exact ⟨S.off.put (by decide) _, S.before, fun g => by rw [eval_put_ne _ _ _ _ (by decide)]; exact S.t0 (by simpa using g), fun g => by rw [eval_put_ne _ _ _ _ (by decide)]; exact S.t1 (by simpa using g), fun g => by rw [eval_put_ne _ _ _ _ (by decide)]; exact S.t2 (by simpa using g), fun g => by rw [eval_put_ne _ _ _ _ (by decide)]; exact S.t3 (by simpa using g), fun g => by rw [eval_put_ne _ _ _ _ (by decide)]; exact S.t4 (by simpa using g), fun g => by rw [eval_put_ne _ _ _ _ (by decide)]; exact S.t5 (by simpa using g), fun g => by rw [eval_put_ne _ _ _ _ (by decide)]; exact S.t6 (by simpa using g), fun _ => (eval_put _ _ _ (by omega)).trans rfl, fun g => by rw [eval_put_ne _ _ _ _ (by decide)]; exact S.t8 (by simpa using g), fun g => by rw [eval_put_ne _ _ _ _ (by decide)]; exact S.t9 (by simpa using g)⟩
    | 8, _, ho, hsi, hT =>
      obtain ⟨e1, e2⟩ := pick_of h8 ho
      have D7 : s 7 = true := list_pos hT (d := 7) (by decide)
      have BW := S.before
      refine step_val (v := .int .i64 mi) (by simp only [execOp, e1, S.t7 D7]; go_simp) (hK _ _ ?_)
      rw [e2]
      exact ⟨S.off.put (by decide) _, S.before, fun g => by rw [eval_put_ne _ _ _ _ (by decide)]; exact S.t0 (by simpa using g), fun g => by rw [eval_put_ne _ _ _ _ (by decide)]; exact S.t1 (by simpa using g), fun g => by rw [eval_put_ne _ _ _ _ (by decide)]; exact S.t2 (by simpa using g), fun g => by rw [eval_put_ne _ _ _ _ (by decide)]; exact S.t3 (by simpa using g), fun g => by rw [eval_put_ne _ _ _ _ (by decide)]; exact S.t4 (by simpa using g), fun g => by rw [eval_put_ne _ _ _ _ (by decide)]; exact S.t5 (by simpa using g), fun g => by rw [eval_put_ne _ _ _ _ (by decide)]; exact S.t6 (by simpa using g), fun g => by rw [eval_put_ne _ _ _ _ (by decide)]; exact S.t7 (by simpa using g), fun _ => (eval_put _ _ _ (by omega)).trans rfl, fun g => by rw [eval_put_ne _ _ _ _ (by decide)]; exact S.t9 (by simpa using g)⟩
    | 9, _, ho, hsi, hT =>
      obtain ⟨e1, e2⟩ := pick_of h9 ho
      have BW := S.before
      refine step_val (v := .pointer (some ⟨O, 2, none⟩)) (by simp only [execOp, e1, y9]; go_simp) (hK _ _ ?_)
      rw [e2]
      exact ⟨S.off.put (by decide) _, S.before, fun g => by rw [eval_put_ne _ _ _ _ (by decide)]; exact S.t0 (by simpa using g), fun g => by rw [eval_put_ne _ _ _ _ (by decide)]; exact S.t1 (by simpa using g), fun g => by rw [eval_put_ne _ _ _ _ (by decide)]; exact S.t2 (by simpa using g), fun g => by rw [eval_put_ne _ _ _ _ (by decide)]; exact S.t3 (by simpa using g), fun g => by rw [eval_put_ne _ _ _ _ (by decide)]; exact S.t4 (by simpa using g), fun g => by rw [eval_put_ne _ _ _ _ (by decide)]; exact S.t5 (by simpa using g), fun g => by rw [eval_put_ne _ _ _ _ (by decide)]; exact S.t6 (by simpa using g), fun g => by rw [eval_put_ne _ _ _ _ (by decide)]; exact S.t7 (by simpa using g), fun g => by rw [eval_put_ne _ _ _ _ (by decide)]; exact S.t8 (by simpa using g), fun _ => (eval_put _ _ _ (by omega)).trans rfl⟩
    | _ + 10, il, _, _, _ => exact absurd il (by omega)
  · intro s a w' S hall
    have a0 := hall 0 (by omega)
    have a1 := hall 1 (by omega)
    have a2 := hall 2 (by omega)
    have a3 := hall 3 (by omega)
    have a4 := hall 4 (by omega)
    have a5 := hall 5 (by omega)
    have a6 := hall 6 (by omega)
    have a7 := hall 7 (by omega)
    have a8 := hall 8 (by omega)
    have a9 := hall 9 (by omega)
    have e := off_norm _ (by intro d hd; simp at hd; omega) S.off
    simp only [List.foldl, S.t0 a0, S.t1 a1, S.t2 a2, S.t3 a3, S.t4 a4, S.t5 a5, S.t6 a6, S.t7 a7, S.t8 a8, S.t9 a9] at e
    rw [e]
    exact h _ S.before
structure RtRegion (X G i : Nat) (tx da : ByteArray) (A : Act) (w0 : World) (s : Nat → Bool) (a : Act) (w : World) : Prop where
  off : Off [80, 81, 82, 83, 84, 85, 86, 87, 88, 89] a A
  before : Below w0.heap.size w0 w
  t0 : s 0 = true → a.eval (.tmp 80) = .pointer (some ⟨G, i * 4, none⟩)
  t1 : s 1 = true → a.eval (.tmp 81) = .pointer (some ⟨G, i * 4, none⟩)
  t2 : s 2 = true → a.eval (.tmp 82) = .pointer (some ⟨G, i * 4, none⟩)
  t3 : s 3 = true → a.eval (.tmp 83) = .pointer (some ⟨G, i * 4 + 3, none⟩)
  t4 : s 4 = true → a.eval (.tmp 84) = .string tx
  t5 : s 5 = true → a.eval (.tmp 85) = .pointer (some ⟨X, 4, none⟩)
  t6 : s 6 = true → a.eval (.tmp 86) = .string da
  t7 : s 7 = true → a.eval (.tmp 87) = .string (tx ++ da)
  t8 : s 8 = true → a.eval (.tmp 88) = .pointer (some ⟨G, i * 4, none⟩)
  t9 : s 9 = true → a.eval (.tmp 89) = .pointer (some ⟨G, i * 4 + 3, none⟩)
set_option maxHeartbeats 2000000 in
set_option maxRecDepth 100000 in
theorem rtRegion {id : Nat} {l : List Oper} {A : Act} {w : World} {Q : Exit → Act → World → Prop} (X G i : Nat) (tx da : ByteArray)
    (lX : X < w.heap.size) (lG : G < w.heap.size) (cX : w.cell? ⟨X, 4, none⟩ = some (.string da)) (cG : w.cell? ⟨G, i * 4 + 3, none⟩ = some (.string tx)) (hsz : tx.size + da.size ≤ 1000000)
    (hB : tableH l.toArray 10 (fun i => match i with | 0 => [] | 1 => [] | 2 => [1] | 3 => [2] | 4 => [3] | 5 => [] | 6 => [5] | 7 => [4, 6] | 8 => [0] | 9 => [8] | _ => []) (fun _ => []) = true)
    (h0 : pick l 0 = some (.move (.tmp 8), some 80))
    (h1 : pick l 1 = some (.move (.tmp 8), some 81))
    (h2 : pick l 2 = some (.nilCheck (.tmp 81), some 82))
    (h3 : pick l 3 = some (.fieldAddr 83 (.tmp 82) 3, some 83))
    (h4 : pick l 4 = some (.load 9 (.tmp 83), some 84))
    (h5 : pick l 5 = some (.fieldAddr 23 (.tmp 3) 4, some 85))
    (h6 : pick l 6 = some (.load 9 (.tmp 85), some 86))
    (h7 : pick l 7 = some (.binOp .add 9 (.tmp 84) (.tmp 86) 9, some 87))
    (h8 : pick l 8 = some (.nilCheck (.tmp 80), some 88))
    (h9 : pick l 9 = some (.fieldAddr 83 (.tmp 88) 3, some 89))
    (hs : A.tmps.size = 129)
    (x3 : A.eval (.tmp 3) = .pointer (some ⟨X, 0, none⟩))
    (x8 : A.eval (.tmp 8) = .pointer (some ⟨G, i * 4, none⟩))
    (h : ∀ w1, Below w.heap.size w w1 → wpList Try.prog l.toArray Q (l.drop 10) ((((((((((A.put (some 80) (.pointer (some ⟨G, i * 4, none⟩))).put (some 81) (.pointer (some ⟨G, i * 4, none⟩))).put (some 82) (.pointer (some ⟨G, i * 4, none⟩))).put (some 83) (.pointer (some ⟨G, i * 4 + 3, none⟩))).put (some 84) (.string tx)).put (some 85) (.pointer (some ⟨X, 4, none⟩))).put (some 86) (.string da)).put (some 87) (.string (tx ++ da))).put (some 88) (.pointer (some ⟨G, i * 4, none⟩))).put (some 89) (.pointer (some ⟨G, i * 4 + 3, none⟩))) w1) :
    (Code.region id l.toArray true).wp Try.prog Q A w := by
  refine wp_region_head (by kernel_rfl) _ _ _ hB (RtRegion X G i tx da A w) ⟨Off.refl _ _, (Below.refl _ _).drew, by simp, by simp, by simp, by simp, by simp, by simp, by simp, by simp, by simp, by simp⟩ ?_ ?_
  · intro s a w' S i' o il ho hsi hT K hK
    have sz : a.tmps.size = 129 := by rw [S.off.2.1]; exact hs
    have y3 : a.eval (.tmp 3) = .pointer (some ⟨X, 0, none⟩) := by rw [S.off.eval (by decide)]; exact x3
    have y8 : a.eval (.tmp 8) = .pointer (some ⟨G, i * 4, none⟩) := by rw [S.off.eval (by decide)]; exact x8
    match i', il, ho, hsi, hT with
    | 0, _, ho, hsi, hT =>
      obtain ⟨e1, e2⟩ := pick_of h0 ho
      have BW := S.before
      refine step_val (v := .pointer (some ⟨G, i * 4, none⟩)) (by simp only [execOp, e1, y8]; go_simp) (hK _ _ ?_)
      rw [e2]
      exact ⟨S.off.put (by decide) _, S.before, fun _ => (eval_put _ _ _ (by omega)).trans rfl, fun g => by rw [eval_put_ne _ _ _ _ (by decide)]; exact S.t1 (by simpa using g), fun g => by rw [eval_put_ne _ _ _ _ (by decide)]; exact S.t2 (by simpa using g), fun g => by rw [eval_put_ne _ _ _ _ (by decide)]; exact S.t3 (by simpa using g), fun g => by rw [eval_put_ne _ _ _ _ (by decide)]; exact S.t4 (by simpa using g), fun g => by rw [eval_put_ne _ _ _ _ (by decide)]; exact S.t5 (by simpa using g), fun g => by rw [eval_put_ne _ _ _ _ (by decide)]; exact S.t6 (by simpa using g), fun g => by rw [eval_put_ne _ _ _ _ (by decide)]; exact S.t7 (by simpa using g), fun g => by rw [eval_put_ne _ _ _ _ (by decide)]; exact S.t8 (by simpa using g), fun g => by rw [eval_put_ne _ _ _ _ (by decide)]; exact S.t9 (by simpa using g)⟩
    | 1, _, ho, hsi, hT =>
      obtain ⟨e1, e2⟩ := pick_of h1 ho
      have BW := S.before
      refine step_val (v := .pointer (some ⟨G, i * 4, none⟩)) (by simp only [execOp, e1, y8]; go_simp) (hK _ _ ?_)
      rw [e2]
      exact ⟨S.off.put (by decide) _, S.before, fun g => by rw [eval_put_ne _ _ _ _ (by decide)]; exact S.t0 (by simpa using g), fun _ => (eval_put _ _ _ (by omega)).trans rfl, fun g => by rw [eval_put_ne _ _ _ _ (by decide)]; exact S.t2 (by simpa using g), fun g => by rw [eval_put_ne _ _ _ _ (by decide)]; exact S.t3 (by simpa using g), fun g => by rw [eval_put_ne _ _ _ _ (by decide)]; exact S.t4 (by simpa using g), fun g => by rw [eval_put_ne _ _ _ _ (by decide)]; exact S.t5 (by simpa using g), fun g => by rw [eval_put_ne _ _ _ _ (by decide)]; exact S.t6 (by simpa using g), fun g => by rw [eval_put_ne _ _ _ _ (by decide)]; exact S.t7 (by simpa using g), fun g => by rw [eval_put_ne _ _ _ _ (by decide)]; exact S.t8 (by simpa using g), fun g => by rw [eval_put_ne _ _ _ _ (by decide)]; exact S.t9 (by simpa using g)⟩
    | 2, _, ho, hsi, hT =>
      obtain ⟨e1, e2⟩ := pick_of h2 ho
      have D1 : s 1 = true := list_pos hT (d := 1) (by decide)
      have BW := S.before
      refine step_val (v := .pointer (some ⟨G, i * 4, none⟩)) (by simp only [execOp, e1, S.t1 D1]; go_simp) (hK _ _ ?_)
      rw [e2]
      exact ⟨S.off.put (by decide) _, S.before, fun g => by rw [eval_put_ne _ _ _ _ (by decide)]; exact S.t0 (by simpa using g), fun g => by rw [eval_put_ne _ _ _ _ (by decide)]; exact S.t1 (by simpa using g), fun _ => (eval_put _ _ _ (by omega)).trans rfl, fun g => by rw [eval_put_ne _ _ _ _ (by decide)]; exact S.t3 (by simpa using g), fun g => by rw [eval_put_ne _ _ _ _ (by decide)]; exact S.t4 (by simpa using g), fun g => by rw [eval_put_ne _ _ _ _ (by decide)]; exact S.t5 (by simpa using g), fun g => by rw [eval_put_ne _ _ _ _ (by decide)]; exact S.t6 (by simpa using g), fun g => by rw [eval_put_ne _ _ _ _ (by decide)]; exact S.t7 (by simpa using g), fun g => by rw [eval_put_ne _ _ _ _ (by decide)]; exact S.t8 (by simpa using g), fun g => by rw [eval_put_ne _ _ _ _ (by decide)]; exact S.t9 (by simpa using g)⟩
    | 3, _, ho, hsi, hT =>
      obtain ⟨e1, e2⟩ := pick_of h3 ho
      have D2 : s 2 = true := list_pos hT (d := 2) (by decide)
      have BW := S.before
      refine step_val (v := .pointer (some ⟨G, i * 4 + 3, none⟩)) (by simp only [execOp, e1, S.t2 D2]; go_simp) (hK _ _ ?_)
      rw [e2]
      exact ⟨S.off.put (by decide) _, S.before, fun g => by rw [eval_put_ne _ _ _ _ (by decide)]; exact S.t0 (by simpa using g), fun g => by rw [eval_put_ne _ _ _ _ (by decide)]; exact S.t1 (by simpa using g), fun g => by rw [eval_put_ne _ _ _ _ (by decide)]; exact S.t2 (by simpa using g), fun _ => (eval_put _ _ _ (by omega)).trans rfl, fun g => by rw [eval_put_ne _ _ _ _ (by decide)]; exact S.t4 (by simpa using g), fun g => by rw [eval_put_ne _ _ _ _ (by decide)]; exact S.t5 (by simpa using g), fun g => by rw [eval_put_ne _ _ _ _ (by decide)]; exact S.t6 (by simpa using g), fun g => by rw [eval_put_ne _ _ _ _ (by decide)]; exact S.t7 (by simpa using g), fun g => by rw [eval_put_ne _ _ _ _ (by decide)]; exact S.t8 (by simpa using g), fun g => by rw [eval_put_ne _ _ _ _ (by decide)]; exact S.t9 (by simpa using g)⟩
    | 4, _, ho, hsi, hT =>
      obtain ⟨e1, e2⟩ := pick_of h4 ho
      have D3 : s 3 = true := list_pos hT (d := 3) (by decide)
      have BW := S.before
      have cl := (BW.cell (p := ⟨G, i * 4 + 3, none⟩) lG).trans cG
      refine step_val (v := .string tx) (by simp only [execOp, e1, S.t3 D3]; go_simp) (hK _ _ ?_)
      rw [e2]
      exact ⟨S.off.put (by decide) _, S.before, fun g => by rw [eval_put_ne _ _ _ _ (by decide)]; exact S.t0 (by simpa using g), fun g => by rw [eval_put_ne _ _ _ _ (by decide)]; exact S.t1 (by simpa using g), fun g => by rw [eval_put_ne _ _ _ _ (by decide)]; exact S.t2 (by simpa using g), fun g => by rw [eval_put_ne _ _ _ _ (by decide)]; exact S.t3 (by simpa using g), fun _ => (eval_put _ _ _ (by omega)).trans rfl, fun g => by rw [eval_put_ne _ _ _ _ (by decide)]; exact S.t5 (by simpa using g), fun g => by rw [eval_put_ne _ _ _ _ (by decide)]; exact S.t6 (by simpa using g), fun g => by rw [eval_put_ne _ _ _ _ (by decide)]; exact S.t7 (by simpa using g), fun g => by rw [eval_put_ne _ _ _ _ (by decide)]; exact S.t8 (by simpa using g), fun g => by rw [eval_put_ne _ _ _ _ (by decide)]; exact S.t9 (by simpa using g)⟩
    | 5, _, ho, hsi, hT =>
      obtain ⟨e1, e2⟩ := pick_of h5 ho
      have BW := S.before
      refine step_val (v := .pointer (some ⟨X, 4, none⟩)) (by simp only [execOp, e1, y3]; go_simp) (hK _ _ ?_)
      rw [e2]
      exact ⟨S.off.put (by decide) _, S.before, fun g => by rw [eval_put_ne _ _ _ _ (by decide)]; exact S.t0 (by simpa using g), fun g => by rw [eval_put_ne _ _ _ _ (by decide)]; exact S.t1 (by simpa using g), fun g => by rw [eval_put_ne _ _ _ _ (by decide)]; exact S.t2 (by simpa using g), fun g => by rw [eval_put_ne _ _ _ _ (by decide)]; exact S.t3 (by simpa using g), fun g => by rw [eval_put_ne _ _ _ _ (by decide)]; exact S.t4 (by simpa using g), fun _ => (eval_put _ _ _ (by omega)).trans rfl, fun g => by rw [eval_put_ne _ _ _ _ (by decide)]; exact S.t6 (by simpa using g), fun g => by rw [eval_put_ne _ _ _ _ (by decide)]; exact S.t7 (by simpa using g), fun g => by rw [eval_put_ne _ _ _ _ (by decide)]; exact S.t8 (by simpa using g), fun g => by rw [eval_put_ne _ _ _ _ (by decide)]; exact S.t9 (by simpa using g)⟩
    | 6, _, ho, hsi, hT =>
      obtain ⟨e1, e2⟩ := pick_of h6 ho
      have D5 : s 5 = true := list_pos hT (d := 5) (by decide)
      have BW := S.before
      have cl := (BW.cell (p := ⟨X, 4, none⟩) lX).trans cX
      refine step_val (v := .string da) (by simp only [execOp, e1, S.t5 D5]; go_simp) (hK _ _ ?_)
      rw [e2]
      exact ⟨S.off.put (by decide) _, S.before, fun g => by rw [eval_put_ne _ _ _ _ (by decide)]; exact S.t0 (by simpa using g), fun g => by rw [eval_put_ne _ _ _ _ (by decide)]; exact S.t1 (by simpa using g), fun g => by rw [eval_put_ne _ _ _ _ (by decide)]; exact S.t2 (by simpa using g), fun g => by rw [eval_put_ne _ _ _ _ (by decide)]; exact S.t3 (by simpa using g), fun g => by rw [eval_put_ne _ _ _ _ (by decide)]; exact S.t4 (by simpa using g), fun g => by rw [eval_put_ne _ _ _ _ (by decide)]; exact S.t5 (by simpa using g), fun _ => (eval_put _ _ _ (by omega)).trans rfl, fun g => by rw [eval_put_ne _ _ _ _ (by decide)]; exact S.t7 (by simpa using g), fun g => by rw [eval_put_ne _ _ _ _ (by decide)]; exact S.t8 (by simpa using g), fun g => by rw [eval_put_ne _ _ _ _ (by decide)]; exact S.t9 (by simpa using g)⟩
    | 7, _, ho, hsi, hT =>
      obtain ⟨e1, e2⟩ := pick_of h7 ho
      have D4 : s 4 = true := list_pos hT (d := 4) (by decide)
      have D6 : s 6 = true := list_pos hT (d := 6) (by decide)
      have BW := S.before
      refine step_val (v := .string (tx ++ da)) (by simp only [execOp, e1, S.t4 D4, S.t6 D6]; go_simp; omega) (hK _ _ ?_)
      rw [e2]
      exact ⟨S.off.put (by decide) _, S.before, fun g => by rw [eval_put_ne _ _ _ _ (by decide)]; exact S.t0 (by simpa using g), fun g => by rw [eval_put_ne _ _ _ _ (by decide)]; exact S.t1 (by simpa using g), fun g => by rw [eval_put_ne _ _ _ _ (by decide)]; exact S.t2 (by simpa using g), fun g => by rw [eval_put_ne _ _ _ _ (by decide)]; exact S.t3 (by simpa using g), fun g => by rw [eval_put_ne _ _ _ _ (by decide)]; exact S.t4 (by simpa using g), fun g => by rw [eval_put_ne _ _ _ _ (by decide)]; exact S.t5 (by simpa using g), fun g => by rw [eval_put_ne _ _ _ _ (by decide)]; exact S.t6 (by simpa using g), fun _ => (eval_put _ _ _ (by omega)).trans rfl, fun g => by rw [eval_put_ne _ _ _ _ (by decide)]; exact S.t8 (by simpa using g), fun g => by rw [eval_put_ne _ _ _ _ (by decide)]; exact S.t9 (by simpa using g)⟩
    | 8, _, ho, hsi, hT =>
      obtain ⟨e1, e2⟩ := pick_of h8 ho
      have D0 : s 0 = true := list_pos hT (d := 0) (by decide)
      have BW := S.before
      refine step_val (v := .pointer (some ⟨G, i * 4, none⟩)) (by simp only [execOp, e1, S.t0 D0]; go_simp) (hK _ _ ?_)
      rw [e2]
      exact ⟨S.off.put (by decide) _, S.before, fun g => by rw [eval_put_ne _ _ _ _ (by decide)]; exact S.t0 (by simpa using g), fun g => by rw [eval_put_ne _ _ _ _ (by decide)]; exact S.t1 (by simpa using g), fun g => by rw [eval_put_ne _ _ _ _ (by decide)]; exact S.t2 (by simpa using g), fun g => by rw [eval_put_ne _ _ _ _ (by decide)]; exact S.t3 (by simpa using g), fun g => by rw [eval_put_ne _ _ _ _ (by decide)]; exact S.t4 (by simpa using g), fun g => by rw [eval_put_ne _ _ _ _ (by decide)]; exact S.t5 (by simpa using g), fun g => by rw [eval_put_ne _ _ _ _ (by decide)]; exact S.t6 (by simpa using g), fun g => by rw [eval_put_ne _ _ _ _ (by decide)]; exact S.t7 (by simpa using g), fun _ => (eval_put _ _ _ (by omega)).trans rfl, fun g => by rw [eval_put_ne _ _ _ _ (by decide)]; exact S.t9 (by simpa using g)⟩
    | 9, _, ho, hsi, hT =>
      obtain ⟨e1, e2⟩ := pick_of h9 ho
      have D8 : s 8 = true := list_pos hT (d := 8) (by decide)
      have BW := S.before
      refine step_val (v := .pointer (some ⟨G, i * 4 + 3, none⟩)) (by simp only [execOp, e1, S.t8 D8]; go_simp) (hK _ _ ?_)
      rw [e2]
      exact ⟨S.off.put (by decide) _, S.before, fun g => by rw [eval_put_ne _ _ _ _ (by decide)]; exact S.t0 (by simpa using g), fun g => by rw [eval_put_ne _ _ _ _ (by decide)]; exact S.t1 (by simpa using g), fun g => by rw [eval_put_ne _ _ _ _ (by decide)]; exact S.t2 (by simpa using g), fun g => by rw [eval_put_ne _ _ _ _ (by decide)]; exact S.t3 (by simpa using g), fun g => by rw [eval_put_ne _ _ _ _ (by decide)]; exact S.t4 (by simpa using g), fun g => by rw [eval_put_ne _ _ _ _ (by decide)]; exact S.t5 (by simpa using g), fun g => by rw [eval_put_ne _ _ _ _ (by decide)]; exact S.t6 (by simpa using g), fun g => by rw [eval_put_ne _ _ _ _ (by decide)]; exact S.t7 (by simpa using g), fun g => by rw [eval_put_ne _ _ _ _ (by decide)]; exact S.t8 (by simpa using g), fun _ => (eval_put _ _ _ (by omega)).trans rfl⟩
    | _ + 10, il, _, _, _ => exact absurd il (by omega)
  · intro s a w' S hall
    have a0 := hall 0 (by omega)
    have a1 := hall 1 (by omega)
    have a2 := hall 2 (by omega)
    have a3 := hall 3 (by omega)
    have a4 := hall 4 (by omega)
    have a5 := hall 5 (by omega)
    have a6 := hall 6 (by omega)
    have a7 := hall 7 (by omega)
    have a8 := hall 8 (by omega)
    have a9 := hall 9 (by omega)
    have e := off_norm _ (by intro d hd; simp at hd; omega) S.off
    simp only [List.foldl, S.t0 a0, S.t1 a1, S.t2 a2, S.t3 a3, S.t4 a4, S.t5 a5, S.t6 a6, S.t7 a7, S.t8 a8, S.t9 a9] at e
    rw [e]
    exact h _ S.before
structure RwRegion (X G O n0 n cap i : Nat) (f : Nat → Rk) (q : Rk) (mi : Int) (br : Bool) (da : ByteArray) (A : Act) (w0 : World) (s : Nat → Bool) (a : Act) (w : World) : Prop where
  off : Off [114, 115, 116, 117] a A
  buts : Buts (fun b => b = G ∨ b = O) w0 w
  row : w.ownsRow n0 83 4 (.slice (some ⟨G, 0, none⟩) n cap) n (rkL (updN f i ⟨q.ap, q.nx, q.op, q.tx⟩) n)
  out : Cel w O 4 (pcC (if s 3 = true then true else false) (if s 5 = true then da else ⟨#[]⟩) mi br)
  t0 : s 0 = true → a.eval (.tmp 114) = .pointer (some ⟨X, 4, none⟩)
  t1 : s 1 = true → a.eval (.tmp 115) = .string da
  t2 : s 2 = true → a.eval (.tmp 116) = .pointer (some ⟨O, 0, none⟩)
  t4 : s 4 = true → a.eval (.tmp 117) = .pointer (some ⟨O, 1, none⟩)
set_option maxHeartbeats 2000000 in
set_option maxRecDepth 100000 in
theorem rwRegion {id : Nat} {d : Bool} {l : List Oper} {A : Act} {w : World} {Q : Exit → Act → World → Prop} (X G O n0 n cap i : Nat) (f : Nat → Rk) (q : Rk) (mi : Int) (br : Bool) (da : ByteArray)
    (lX : X < w.heap.size) (hXG : X ≠ G) (hXO : X ≠ O) (hGO : G ≠ O) (hi : i < n) (cX : w.cell? ⟨X, 4, none⟩ = some (.string da)) (hR : w.ownsRow n0 83 4 (.slice (some ⟨G, 0, none⟩) n cap) n (rkL (updN f i ⟨q.ap, q.nx, q.op, q.tx⟩) n)) (hO : Cel w O 4 (pcC false ⟨#[]⟩ mi br))
    (hB : tableL d l.toArray (fun i => match i with | 0 => [] | 1 => [0] | 2 => [] | 3 => [2] | 4 => [] | 5 => [1, 4] | _ => []) (fun _ => []) = true) (hl : l.length = 6)
    (h0 : pick l 0 = some (.fieldAddr 23 (.tmp 3) 4, some 114))
    (h1 : pick l 1 = some (.load 9 (.tmp 114), some 115))
    (h2 : pick l 2 = some (.fieldAddr 52 (.tmp 9) 0, some 116))
    (h3 : pick l 3 = some (.store 4 (.tmp 116) (.const (.bool true)), none))
    (h4 : pick l 4 = some (.fieldAddr 52 (.tmp 9) 1, some 117))
    (h5 : pick l 5 = some (.store 9 (.tmp 117) (.tmp 115), none))
    (hs : A.tmps.size = 129)
    (x3 : A.eval (.tmp 3) = .pointer (some ⟨X, 0, none⟩))
    (x9 : A.eval (.tmp 9) = .pointer (some ⟨O, 0, none⟩))
    (h : ∀ w1, Buts (fun b => b = G ∨ b = O) w w1 → w1.ownsRow n0 83 4 (.slice (some ⟨G, 0, none⟩) n cap) n (rkL (updN f i ⟨q.ap, q.nx, q.op, q.tx⟩) n) → Cel w1 O 4 (pcC true da mi br) → Q .normal ((((A.put (some 114) (.pointer (some ⟨X, 4, none⟩))).put (some 115) (.string da)).put (some 116) (.pointer (some ⟨O, 0, none⟩))).put (some 117) (.pointer (some ⟨O, 1, none⟩))) w1) :
    (Code.region id l.toArray d).wp Try.prog Q A w := by
  have BD : Below w.heap.size w w.drew := (Below.refl _ _).drew
  refine wp_region_invL (by kernel_rfl) _ _ hB (RwRegion X G O n0 n cap i f q mi br da A w) ⟨Off.refl _ _, Buts.refl _ _, by simpa using hR, by simpa using hO, by simp, by simp, by simp, by simp⟩ ⟨Off.refl _ _, Buts.of_below BD, by simpa using own_below hR BD, by simpa using hO.below BD, by simp, by simp, by simp, by simp⟩ ?_ ?_
  · intro s a w' S i' o ho hsi hT K hK
    have sz : a.tmps.size = 129 := by rw [S.off.2.1]; exact hs
    have il : i' < 6 := by have := (List.getElem?_eq_some_iff.1 ho).1; omega
    have wX := S.buts.block X lX (fun e => e.elim hXG hXO)
    have y3 : a.eval (.tmp 3) = .pointer (some ⟨X, 0, none⟩) := by rw [S.off.eval (by decide)]; exact x3
    have y9 : a.eval (.tmp 9) = .pointer (some ⟨O, 0, none⟩) := by rw [S.off.eval (by decide)]; exact x9
    match i', il, ho, hsi, hT with
    | 0, _, ho, hsi, hT =>
      obtain ⟨e1, e2⟩ := pick_of h0 ho
      refine step_val (v := .pointer (some ⟨X, 4, none⟩)) (by simp only [execOp, e1, y3]; go_simp) (hK _ _ ?_)
      rw [e2]
      exact ⟨S.off.put (by decide) _, S.buts, by simpa using S.row, by simpa using S.out, fun _ => (eval_put _ _ _ (by omega)).trans rfl, fun g => by rw [eval_put_ne _ _ _ _ (by decide)]; exact S.t1 (by simpa using g), fun g => by rw [eval_put_ne _ _ _ _ (by decide)]; exact S.t2 (by simpa using g), fun g => by rw [eval_put_ne _ _ _ _ (by decide)]; exact S.t4 (by simpa using g)⟩
    | 1, _, ho, hsi, hT =>
      obtain ⟨e1, e2⟩ := pick_of h1 ho
      have D0 : s 0 = true := list_pos hT (d := 0) (by decide)
      have cl := (World.cell?_of_block (a := ⟨X, 4, none⟩) wX).trans cX
      refine step_val (v := .string da) (by simp only [execOp, e1, S.t0 D0]; go_simp) (hK _ _ ?_)
      rw [e2]
      exact ⟨S.off.put (by decide) _, S.buts, by simpa using S.row, by simpa using S.out, fun g => by rw [eval_put_ne _ _ _ _ (by decide)]; exact S.t0 (by simpa using g), fun _ => (eval_put _ _ _ (by omega)).trans rfl, fun g => by rw [eval_put_ne _ _ _ _ (by decide)]; exact S.t2 (by simpa using g), fun g => by rw [eval_put_ne _ _ _ _ (by decide)]; exact S.t4 (by simpa using g)⟩
    | 2, _, ho, hsi, hT =>
      obtain ⟨e1, e2⟩ := pick_of h2 ho
      refine step_val (v := .pointer (some ⟨O, 0, none⟩)) (by simp only [execOp, e1, y9]; go_simp) (hK _ _ ?_)
      rw [e2]
      exact ⟨S.off.put (by decide) _, S.buts, by simpa using S.row, by simpa using S.out, fun g => by rw [eval_put_ne _ _ _ _ (by decide)]; exact S.t0 (by simpa using g), fun g => by rw [eval_put_ne _ _ _ _ (by decide)]; exact S.t1 (by simpa using g), fun _ => (eval_put _ _ _ (by omega)).trans rfl, fun g => by rw [eval_put_ne _ _ _ _ (by decide)]; exact S.t4 (by simpa using g)⟩
    | 3, _, ho, hsi, hT =>
      obtain ⟨e1, e2⟩ := pick_of h3 ho
      have D2 : s 2 = true := list_pos hT (d := 2) (by decide)
      have cg := S.out.cell (j := 0) (by omega)
      have fg := S.out.frozen (j := 0) (by omega)
      refine step_to (w2 := w'.setCell ⟨O, 0, none⟩ (.bool true)) (store_bool e1 (S.t2 D2) rfl cg fg) (hK _ _ ?_)
      rw [e2]
      exact ⟨S.off.put_none _, S.buts.setCell (.inr rfl) _, by simpa using own_other S.row (c := O) (fun e => hGO (Option.some.inj e)) _, by simpa using (S.out.set 0 (.bool true)).congr (g := pcC true (if s 5 = true then da else ⟨#[]⟩) mi br) (fun r hr => by match r, hr with | 0, _ => rfl | 1, _ => rfl | 2, _ => rfl | 3, _ => rfl), fun g => S.t0 (by simpa using g), fun g => S.t1 (by simpa using g), fun g => S.t2 (by simpa using g), fun g => S.t4 (by simpa using g)⟩
    | 4, _, ho, hsi, hT =>
      obtain ⟨e1, e2⟩ := pick_of h4 ho
      refine step_val (v := .pointer (some ⟨O, 1, none⟩)) (by simp only [execOp, e1, y9]; go_simp) (hK _ _ ?_)
      rw [e2]
      exact ⟨S.off.put (by decide) _, S.buts, by simpa using S.row, by simpa using S.out, fun g => by rw [eval_put_ne _ _ _ _ (by decide)]; exact S.t0 (by simpa using g), fun g => by rw [eval_put_ne _ _ _ _ (by decide)]; exact S.t1 (by simpa using g), fun g => by rw [eval_put_ne _ _ _ _ (by decide)]; exact S.t2 (by simpa using g), fun _ => (eval_put _ _ _ (by omega)).trans rfl⟩
    | 5, _, ho, hsi, hT =>
      obtain ⟨e1, e2⟩ := pick_of h5 ho
      have D1 : s 1 = true := list_pos hT (d := 1) (by decide)
      have D4 : s 4 = true := list_pos hT (d := 4) (by decide)
      have cg := S.out.cell (j := 1) (by omega)
      have fg := S.out.frozen (j := 1) (by omega)
      refine step_to (w2 := w'.setCell ⟨O, 1, none⟩ (.string da)) (store_str e1 (S.t4 D4) (S.t1 D1) cg fg) (hK _ _ ?_)
      rw [e2]
      exact ⟨S.off.put_none _, S.buts.setCell (.inr rfl) _, by simpa using own_other S.row (c := O) (fun e => hGO (Option.some.inj e)) _, by simpa using (S.out.set 1 (.string da)).congr (g := pcC (if s 3 = true then true else false) da mi br) (fun r hr => by match r, hr with | 0, _ => rfl | 1, _ => rfl | 2, _ => rfl | 3, _ => rfl), fun g => S.t0 (by simpa using g), fun g => S.t1 (by simpa using g), fun g => S.t2 (by simpa using g), fun g => S.t4 (by simpa using g)⟩
  · intro s a w' S hall
    have a0 := hall 0 (by omega)
    have a1 := hall 1 (by omega)
    have a2 := hall 2 (by omega)
    have a3 := hall 3 (by omega)
    have a4 := hall 4 (by omega)
    have a5 := hall 5 (by omega)
    have e := off_norm _ (by intro d hd; simp at hd; omega) S.off
    simp only [List.foldl, S.t0 a0, S.t1 a1, S.t2 a2, S.t4 a4] at e
    rw [e]
    exact h _ S.buts (by simpa [a3, a5] using S.row) (by simpa [a3, a5] using S.out)
structure RoRegion (X G O n0 n cap i : Nat) (f : Nat → Rk) (q : Rk) (mi : Int) (br : Bool) (da : ByteArray) (A : Act) (w0 : World) (s : Nat → Bool) (a : Act) (w : World) : Prop where
  off : Off [120, 121, 122, 123, 124, 125, 126, 127] a A
  buts : Buts (fun b => b = G ∨ b = O) w0 w
  row : w.ownsRow n0 83 4 (.slice (some ⟨G, 0, none⟩) n cap) n (rkL (updN f i ⟨q.ap, q.nx, (if s 6 = true then true else q.op), (if s 9 = true then da else q.tx)⟩) n)
  out : Cel w O 4 (pcC false ⟨#[]⟩ mi br)
  t0 : s 0 = true → a.eval (.tmp 120) = .pointer (some ⟨G, i * 4, none⟩)
  t1 : s 1 = true → a.eval (.tmp 121) = .pointer (some ⟨G, i * 4, none⟩)
  t2 : s 2 = true → a.eval (.tmp 122) = .pointer (some ⟨X, 4, none⟩)
  t3 : s 3 = true → a.eval (.tmp 123) = .string da
  t4 : s 4 = true → a.eval (.tmp 124) = .pointer (some ⟨G, i * 4, none⟩)
  t5 : s 5 = true → a.eval (.tmp 125) = .pointer (some ⟨G, i * 4 + 2, none⟩)
  t7 : s 7 = true → a.eval (.tmp 126) = .pointer (some ⟨G, i * 4, none⟩)
  t8 : s 8 = true → a.eval (.tmp 127) = .pointer (some ⟨G, i * 4 + 3, none⟩)
set_option maxHeartbeats 2000000 in
set_option maxRecDepth 100000 in
theorem roRegion {id : Nat} {d : Bool} {l : List Oper} {A : Act} {w : World} {Q : Exit → Act → World → Prop} (X G O n0 n cap i : Nat) (f : Nat → Rk) (q : Rk) (mi : Int) (br : Bool) (da : ByteArray)
    (lX : X < w.heap.size) (hXG : X ≠ G) (hXO : X ≠ O) (hGO : G ≠ O) (hi : i < n) (cX : w.cell? ⟨X, 4, none⟩ = some (.string da)) (hR : w.ownsRow n0 83 4 (.slice (some ⟨G, 0, none⟩) n cap) n (rkL (updN f i ⟨q.ap, q.nx, q.op, q.tx⟩) n)) (hO : Cel w O 4 (pcC false ⟨#[]⟩ mi br))
    (hB : tableL d l.toArray (fun i => match i with | 0 => [] | 1 => [] | 2 => [] | 3 => [2] | 4 => [0] | 5 => [4] | 6 => [5] | 7 => [1] | 8 => [7] | 9 => [3, 8] | _ => []) (fun _ => []) = true) (hl : l.length = 10)
    (h0 : pick l 0 = some (.move (.tmp 8), some 120))
    (h1 : pick l 1 = some (.move (.tmp 8), some 121))
    (h2 : pick l 2 = some (.fieldAddr 23 (.tmp 3) 4, some 122))
    (h3 : pick l 3 = some (.load 9 (.tmp 122), some 123))
    (h4 : pick l 4 = some (.nilCheck (.tmp 120), some 124))
    (h5 : pick l 5 = some (.fieldAddr 83 (.tmp 124) 2, some 125))
    (h6 : pick l 6 = some (.store 4 (.tmp 125) (.const (.bool true)), none))
    (h7 : pick l 7 = some (.nilCheck (.tmp 121), some 126))
    (h8 : pick l 8 = some (.fieldAddr 83 (.tmp 126) 3, some 127))
    (h9 : pick l 9 = some (.store 9 (.tmp 127) (.tmp 123), none))
    (hs : A.tmps.size = 129)
    (x3 : A.eval (.tmp 3) = .pointer (some ⟨X, 0, none⟩))
    (x8 : A.eval (.tmp 8) = .pointer (some ⟨G, i * 4, none⟩))
    (h : ∀ w1, Buts (fun b => b = G ∨ b = O) w w1 → w1.ownsRow n0 83 4 (.slice (some ⟨G, 0, none⟩) n cap) n (rkL (updN f i ⟨q.ap, q.nx, true, da⟩) n) → Cel w1 O 4 (pcC false ⟨#[]⟩ mi br) → Q .normal ((((((((A.put (some 120) (.pointer (some ⟨G, i * 4, none⟩))).put (some 121) (.pointer (some ⟨G, i * 4, none⟩))).put (some 122) (.pointer (some ⟨X, 4, none⟩))).put (some 123) (.string da)).put (some 124) (.pointer (some ⟨G, i * 4, none⟩))).put (some 125) (.pointer (some ⟨G, i * 4 + 2, none⟩))).put (some 126) (.pointer (some ⟨G, i * 4, none⟩))).put (some 127) (.pointer (some ⟨G, i * 4 + 3, none⟩))) w1) :
    (Code.region id l.toArray d).wp Try.prog Q A w := by
  have BD : Below w.heap.size w w.drew := (Below.refl _ _).drew
  refine wp_region_invL (by kernel_rfl) _ _ hB (RoRegion X G O n0 n cap i f q mi br da A w) ⟨Off.refl _ _, Buts.refl _ _, by simpa using hR, by simpa using hO, by simp, by simp, by simp, by simp, by simp, by simp, by simp, by simp⟩ ⟨Off.refl _ _, Buts.of_below BD, by simpa using own_below hR BD, by simpa using hO.below BD, by simp, by simp, by simp, by simp, by simp, by simp, by simp, by simp⟩ ?_ ?_
  · intro s a w' S i' o ho hsi hT K hK
    have sz : a.tmps.size = 129 := by rw [S.off.2.1]; exact hs
    have il : i' < 10 := by have := (List.getElem?_eq_some_iff.1 ho).1; omega
    have wX := S.buts.block X lX (fun e => e.elim hXG hXO)
    have y3 : a.eval (.tmp 3) = .pointer (some ⟨X, 0, none⟩) := by rw [S.off.eval (by decide)]; exact x3
    have y8 : a.eval (.tmp 8) = .pointer (some ⟨G, i * 4, none⟩) := by rw [S.off.eval (by decide)]; exact x8
    match i', il, ho, hsi, hT with
    | 0, _, ho, hsi, hT =>
      obtain ⟨e1, e2⟩ := pick_of h0 ho
      refine step_val (v := .pointer (some ⟨G, i * 4, none⟩)) (by simp only [execOp, e1, y8]; go_simp) (hK _ _ ?_)
      rw [e2]
      exact ⟨S.off.put (by decide) _, S.buts, by simpa using S.row, by simpa using S.out, fun _ => (eval_put _ _ _ (by omega)).trans rfl, fun g => by rw [eval_put_ne _ _ _ _ (by decide)]; exact S.t1 (by simpa using g), fun g => by rw [eval_put_ne _ _ _ _ (by decide)]; exact S.t2 (by simpa using g), fun g => by rw [eval_put_ne _ _ _ _ (by decide)]; exact S.t3 (by simpa using g), fun g => by rw [eval_put_ne _ _ _ _ (by decide)]; exact S.t4 (by simpa using g), fun g => by rw [eval_put_ne _ _ _ _ (by decide)]; exact S.t5 (by simpa using g), fun g => by rw [eval_put_ne _ _ _ _ (by decide)]; exact S.t7 (by simpa using g), fun g => by rw [eval_put_ne _ _ _ _ (by decide)]; exact S.t8 (by simpa using g)⟩
    | 1, _, ho, hsi, hT =>
      obtain ⟨e1, e2⟩ := pick_of h1 ho
      refine step_val (v := .pointer (some ⟨G, i * 4, none⟩)) (by simp only [execOp, e1, y8]; go_simp) (hK _ _ ?_)
      rw [e2]
      exact ⟨S.off.put (by decide) _, S.buts, by simpa using S.row, by simpa using S.out, fun g => by rw [eval_put_ne _ _ _ _ (by decide)]; exact S.t0 (by simpa using g), fun _ => (eval_put _ _ _ (by omega)).trans rfl, fun g => by rw [eval_put_ne _ _ _ _ (by decide)]; exact S.t2 (by simpa using g), fun g => by rw [eval_put_ne _ _ _ _ (by decide)]; exact S.t3 (by simpa using g), fun g => by rw [eval_put_ne _ _ _ _ (by decide)]; exact S.t4 (by simpa using g), fun g => by rw [eval_put_ne _ _ _ _ (by decide)]; exact S.t5 (by simpa using g), fun g => by rw [eval_put_ne _ _ _ _ (by decide)]; exact S.t7 (by simpa using g), fun g => by rw [eval_put_ne _ _ _ _ (by decide)]; exact S.t8 (by simpa using g)⟩
    | 2, _, ho, hsi, hT =>
      obtain ⟨e1, e2⟩ := pick_of h2 ho
      refine step_val (v := .pointer (some ⟨X, 4, none⟩)) (by simp only [execOp, e1, y3]; go_simp) (hK _ _ ?_)
      rw [e2]
      exact ⟨S.off.put (by decide) _, S.buts, by simpa using S.row, by simpa using S.out, fun g => by rw [eval_put_ne _ _ _ _ (by decide)]; exact S.t0 (by simpa using g), fun g => by rw [eval_put_ne _ _ _ _ (by decide)]; exact S.t1 (by simpa using g), fun _ => (eval_put _ _ _ (by omega)).trans rfl, fun g => by rw [eval_put_ne _ _ _ _ (by decide)]; exact S.t3 (by simpa using g), fun g => by rw [eval_put_ne _ _ _ _ (by decide)]; exact S.t4 (by simpa using g), fun g => by rw [eval_put_ne _ _ _ _ (by decide)]; exact S.t5 (by simpa using g), fun g => by rw [eval_put_ne _ _ _ _ (by decide)]; exact S.t7 (by simpa using g), fun g => by rw [eval_put_ne _ _ _ _ (by decide)]; exact S.t8 (by simpa using g)⟩
    | 3, _, ho, hsi, hT =>
      obtain ⟨e1, e2⟩ := pick_of h3 ho
      have D2 : s 2 = true := list_pos hT (d := 2) (by decide)
      have cl := (World.cell?_of_block (a := ⟨X, 4, none⟩) wX).trans cX
      refine step_val (v := .string da) (by simp only [execOp, e1, S.t2 D2]; go_simp) (hK _ _ ?_)
      rw [e2]
      exact ⟨S.off.put (by decide) _, S.buts, by simpa using S.row, by simpa using S.out, fun g => by rw [eval_put_ne _ _ _ _ (by decide)]; exact S.t0 (by simpa using g), fun g => by rw [eval_put_ne _ _ _ _ (by decide)]; exact S.t1 (by simpa using g), fun g => by rw [eval_put_ne _ _ _ _ (by decide)]; exact S.t2 (by simpa using g), fun _ => (eval_put _ _ _ (by omega)).trans rfl, fun g => by rw [eval_put_ne _ _ _ _ (by decide)]; exact S.t4 (by simpa using g), fun g => by rw [eval_put_ne _ _ _ _ (by decide)]; exact S.t5 (by simpa using g), fun g => by rw [eval_put_ne _ _ _ _ (by decide)]; exact S.t7 (by simpa using g), fun g => by rw [eval_put_ne _ _ _ _ (by decide)]; exact S.t8 (by simpa using g)⟩
    | 4, _, ho, hsi, hT =>
      obtain ⟨e1, e2⟩ := pick_of h4 ho
      have D0 : s 0 = true := list_pos hT (d := 0) (by decide)
      refine step_val (v := .pointer (some ⟨G, i * 4, none⟩)) (by simp only [execOp, e1, S.t0 D0]; go_simp) (hK _ _ ?_)
      rw [e2]
      exact ⟨S.off.put (by decide) _, S.buts, by simpa using S.row, by simpa using S.out, fun g => by rw [eval_put_ne _ _ _ _ (by decide)]; exact S.t0 (by simpa using g), fun g => by rw [eval_put_ne _ _ _ _ (by decide)]; exact S.t1 (by simpa using g), fun g => by rw [eval_put_ne _ _ _ _ (by decide)]; exact S.t2 (by simpa using g), fun g => by rw [eval_put_ne _ _ _ _ (by decide)]; exact S.t3 (by simpa using g), fun _ => (eval_put _ _ _ (by omega)).trans rfl, fun g => by rw [eval_put_ne _ _ _ _ (by decide)]; exact S.t5 (by simpa using g), fun g => by rw [eval_put_ne _ _ _ _ (by decide)]; exact S.t7 (by simpa using g), fun g => by rw [eval_put_ne _ _ _ _ (by decide)]; exact S.t8 (by simpa using g)⟩
    | 5, _, ho, hsi, hT =>
      obtain ⟨e1, e2⟩ := pick_of h5 ho
      have D4 : s 4 = true := list_pos hT (d := 4) (by decide)
      refine step_val (v := .pointer (some ⟨G, i * 4 + 2, none⟩)) (by simp only [execOp, e1, S.t4 D4]; go_simp) (hK _ _ ?_)
      rw [e2]
      exact ⟨S.off.put (by decide) _, S.buts, by simpa using S.row, by simpa using S.out, fun g => by rw [eval_put_ne _ _ _ _ (by decide)]; exact S.t0 (by simpa using g), fun g => by rw [eval_put_ne _ _ _ _ (by decide)]; exact S.t1 (by simpa using g), fun g => by rw [eval_put_ne _ _ _ _ (by decide)]; exact S.t2 (by simpa using g), fun g => by rw [eval_put_ne _ _ _ _ (by decide)]; exact S.t3 (by simpa using g), fun g => by rw [eval_put_ne _ _ _ _ (by decide)]; exact S.t4 (by simpa using g), fun _ => (eval_put _ _ _ (by omega)).trans rfl, fun g => by rw [eval_put_ne _ _ _ _ (by decide)]; exact S.t7 (by simpa using g), fun g => by rw [eval_put_ne _ _ _ _ (by decide)]; exact S.t8 (by simpa using g)⟩
    | 6, _, ho, hsi, hT =>
      obtain ⟨e1, e2⟩ := pick_of h6 ho
      have D5 : s 5 = true := list_pos hT (d := 5) (by decide)
      have cg := rk_cell S.row hi 2 (by decide)
      have fg := S.row.frozenAt (i * 4 + 2)
      refine step_to (w2 := w'.setCell ⟨G, i * 4 + 2, none⟩ (.bool true)) (store_bool e1 (S.t5 D5) rfl cg fg) (hK _ _ ?_)
      rw [e2]
      exact ⟨S.off.put_none _, S.buts.setCell (.inl rfl) _, by simpa [updN_updN] using rk_put S.row hi 2 (by decide) (.bool true) ⟨q.ap, q.nx, true, (if s 9 = true then da else q.tx)⟩ (fun r hr => by rw [updN_same]; match r, hr with | 0, _ => rfl | 1, _ => rfl | 2, _ => rfl | 3, _ => rfl), by simpa using S.out.setOther (Ne.symm hGO) _, fun g => S.t0 (by simpa using g), fun g => S.t1 (by simpa using g), fun g => S.t2 (by simpa using g), fun g => S.t3 (by simpa using g), fun g => S.t4 (by simpa using g), fun g => S.t5 (by simpa using g), fun g => S.t7 (by simpa using g), fun g => S.t8 (by simpa using g)⟩
    | 7, _, ho, hsi, hT =>
      obtain ⟨e1, e2⟩ := pick_of h7 ho
      have D1 : s 1 = true := list_pos hT (d := 1) (by decide)
      refine step_val (v := .pointer (some ⟨G, i * 4, none⟩)) (by simp only [execOp, e1, S.t1 D1]; go_simp) (hK _ _ ?_)
      rw [e2]
      exact ⟨S.off.put (by decide) _, S.buts, by simpa using S.row, by simpa using S.out, fun g => by rw [eval_put_ne _ _ _ _ (by decide)]; exact S.t0 (by simpa using g), fun g => by rw [eval_put_ne _ _ _ _ (by decide)]; exact S.t1 (by simpa using g), fun g => by rw [eval_put_ne _ _ _ _ (by decide)]; exact S.t2 (by simpa using g), fun g => by rw [eval_put_ne _ _ _ _ (by decide)]; exact S.t3 (by simpa using g), fun g => by rw [eval_put_ne _ _ _ _ (by decide)]; exact S.t4 (by simpa using g), fun g => by rw [eval_put_ne _ _ _ _ (by decide)]; exact S.t5 (by simpa using g), fun _ => (eval_put _ _ _ (by omega)).trans rfl, fun g => by rw [eval_put_ne _ _ _ _ (by decide)]; exact S.t8 (by simpa using g)⟩
    | 8, _, ho, hsi, hT =>
      obtain ⟨e1, e2⟩ := pick_of h8 ho
      have D7 : s 7 = true := list_pos hT (d := 7) (by decide)
      refine step_val (v := .pointer (some ⟨G, i * 4 + 3, none⟩)) (by simp only [execOp, e1, S.t7 D7]; go_simp) (hK _ _ ?_)
      rw [e2]
      exact ⟨S.off.put (by decide) _, S.buts, by simpa using S.row, by simpa using S.out, fun g => by rw [eval_put_ne _ _ _ _ (by decide)]; exact S.t0 (by simpa using g), fun g => by rw [eval_put_ne _ _ _ _ (by decide)]; exact S.t1 (by simpa using g), fun g => by rw [eval_put_ne _ _ _ _ (by decide)]; exact S.t2 (by simpa using g), fun g => by rw [eval_put_ne _ _ _ _ (by decide)]; exact S.t3 (by simpa using g), fun g => by rw [eval_put_ne _ _ _ _ (by decide)]; exact S.t4 (by simpa using g), fun g => by rw [eval_put_ne _ _ _ _ (by decide)]; exact S.t5 (by simpa using g), fun g => by rw [eval_put_ne _ _ _ _ (by decide)]; exact S.t7 (by simpa using g), fun _ => (eval_put _ _ _ (by omega)).trans rfl⟩
    | 9, _, ho, hsi, hT =>
      obtain ⟨e1, e2⟩ := pick_of h9 ho
      have D3 : s 3 = true := list_pos hT (d := 3) (by decide)
      have D8 : s 8 = true := list_pos hT (d := 8) (by decide)
      have cg := rk_cell S.row hi 3 (by decide)
      have fg := S.row.frozenAt (i * 4 + 3)
      refine step_to (w2 := w'.setCell ⟨G, i * 4 + 3, none⟩ (.string da)) (store_str e1 (S.t8 D8) (S.t3 D3) cg fg) (hK _ _ ?_)
      rw [e2]
      exact ⟨S.off.put_none _, S.buts.setCell (.inl rfl) _, by simpa [updN_updN] using rk_put S.row hi 3 (by decide) (.string da) ⟨q.ap, q.nx, (if s 6 = true then true else q.op), da⟩ (fun r hr => by rw [updN_same]; match r, hr with | 0, _ => rfl | 1, _ => rfl | 2, _ => rfl | 3, _ => rfl), by simpa using S.out.setOther (Ne.symm hGO) _, fun g => S.t0 (by simpa using g), fun g => S.t1 (by simpa using g), fun g => S.t2 (by simpa using g), fun g => S.t3 (by simpa using g), fun g => S.t4 (by simpa using g), fun g => S.t5 (by simpa using g), fun g => S.t7 (by simpa using g), fun g => S.t8 (by simpa using g)⟩
  · intro s a w' S hall
    have a0 := hall 0 (by omega)
    have a1 := hall 1 (by omega)
    have a2 := hall 2 (by omega)
    have a3 := hall 3 (by omega)
    have a4 := hall 4 (by omega)
    have a5 := hall 5 (by omega)
    have a6 := hall 6 (by omega)
    have a7 := hall 7 (by omega)
    have a8 := hall 8 (by omega)
    have a9 := hall 9 (by omega)
    have e := off_norm _ (by intro d hd; simp at hd; omega) S.off
    simp only [List.foldl, S.t0 a0, S.t1 a1, S.t2 a2, S.t3 a3, S.t4 a4, S.t5 a5, S.t7 a7, S.t8 a8] at e
    rw [e]
    exact h _ S.buts (by simpa [a6, a9] using S.row) (by simpa [a6, a9] using S.out)
structure RlRegion (X G O n0 n cap i : Nat) (f : Nat → Rk) (q : Rk) (mi : Int) (br : Bool) (da : ByteArray) (A : Act) (w0 : World) (s : Nat → Bool) (a : Act) (w : World) : Prop where
  off : Off [103, 104, 105, 106, 107, 108, 109, 110, 111] a A
  buts : Buts (fun b => b = G ∨ b = O) w0 w
  row : w.ownsRow n0 83 4 (.slice (some ⟨G, 0, none⟩) n cap) n (rkL (updN f i ⟨q.ap, q.nx, (if s 11 = true then false else q.op), q.tx⟩) n)
  out : Cel w O 4 (pcC (if s 6 = true then true else false) (if s 8 = true then q.tx else ⟨#[]⟩) mi br)
  t0 : s 0 = true → a.eval (.tmp 103) = .pointer (some ⟨G, i * 4, none⟩)
  t1 : s 1 = true → a.eval (.tmp 104) = .pointer (some ⟨G, i * 4, none⟩)
  t2 : s 2 = true → a.eval (.tmp 105) = .pointer (some ⟨G, i * 4, none⟩)
  t3 : s 3 = true → a.eval (.tmp 106) = .pointer (some ⟨G, i * 4 + 3, none⟩)
  t4 : s 4 = true → a.eval (.tmp 107) = .string q.tx
  t5 : s 5 = true → a.eval (.tmp 108) = .pointer (some ⟨O, 0, none⟩)
  t7 : s 7 = true → a.eval (.tmp 109) = .pointer (some ⟨O, 1, none⟩)
  t9 : s 9 = true → a.eval (.tmp 110) = .pointer (some ⟨G, i * 4, none⟩)
  t10 : s 10 = true → a.eval (.tmp 111) = .pointer (some ⟨G, i * 4 + 2, none⟩)
set_option maxHeartbeats 2000000 in
set_option maxRecDepth 100000 in
theorem rlRegion {id : Nat} {d : Bool} {l : List Oper} {A : Act} {w : World} {Q : Exit → Act → World → Prop} (X G O n0 n cap i : Nat) (f : Nat → Rk) (q : Rk) (mi : Int) (br : Bool) (da : ByteArray)
    (lX : X < w.heap.size) (hXG : X ≠ G) (hXO : X ≠ O) (hGO : G ≠ O) (hi : i < n) (hR : w.ownsRow n0 83 4 (.slice (some ⟨G, 0, none⟩) n cap) n (rkL (updN f i ⟨q.ap, q.nx, q.op, q.tx⟩) n)) (hO : Cel w O 4 (pcC false ⟨#[]⟩ mi br))
    (hB : tableL d l.toArray (fun i => match i with | 0 => [] | 1 => [] | 2 => [1] | 3 => [2] | 4 => [3] | 5 => [] | 6 => [5] | 7 => [] | 8 => [4, 7] | 9 => [0] | 10 => [9] | 11 => [10] | _ => []) (fun _ => []) = true) (hl : l.length = 12)
    (h0 : pick l 0 = some (.move (.tmp 8), some 103))
    (h1 : pick l 1 = some (.move (.tmp 8), some 104))
    (h2 : pick l 2 = some (.nilCheck (.tmp 104), some 105))
    (h3 : pick l 3 = some (.fieldAddr 83 (.tmp 105) 3, some 106))
    (h4 : pick l 4 = some (.load 9 (.tmp 106), some 107))
    (h5 : pick l 5 = some (.fieldAddr 52 (.tmp 9) 0, some 108))
    (h6 : pick l 6 = some (.store 4 (.tmp 108) (.const (.bool true)), none))
    (h7 : pick l 7 = some (.fieldAddr 52 (.tmp 9) 1, some 109))
    (h8 : pick l 8 = some (.store 9 (.tmp 109) (.tmp 107), none))
    (h9 : pick l 9 = some (.nilCheck (.tmp 103), some 110))
    (h10 : pick l 10 = some (.fieldAddr 83 (.tmp 110) 2, some 111))
    (h11 : pick l 11 = some (.store 4 (.tmp 111) (.const (.bool false)), none))
    (hs : A.tmps.size = 129)
    (x8 : A.eval (.tmp 8) = .pointer (some ⟨G, i * 4, none⟩))
    (x9 : A.eval (.tmp 9) = .pointer (some ⟨O, 0, none⟩))
    (h : ∀ w1, Buts (fun b => b = G ∨ b = O) w w1 → w1.ownsRow n0 83 4 (.slice (some ⟨G, 0, none⟩) n cap) n (rkL (updN f i ⟨q.ap, q.nx, false, q.tx⟩) n) → Cel w1 O 4 (pcC true q.tx mi br) → Q .normal (((((((((A.put (some 103) (.pointer (some ⟨G, i * 4, none⟩))).put (some 104) (.pointer (some ⟨G, i * 4, none⟩))).put (some 105) (.pointer (some ⟨G, i * 4, none⟩))).put (some 106) (.pointer (some ⟨G, i * 4 + 3, none⟩))).put (some 107) (.string q.tx)).put (some 108) (.pointer (some ⟨O, 0, none⟩))).put (some 109) (.pointer (some ⟨O, 1, none⟩))).put (some 110) (.pointer (some ⟨G, i * 4, none⟩))).put (some 111) (.pointer (some ⟨G, i * 4 + 2, none⟩))) w1) :
    (Code.region id l.toArray d).wp Try.prog Q A w := by
  have BD : Below w.heap.size w w.drew := (Below.refl _ _).drew
  refine wp_region_invL (by kernel_rfl) _ _ hB (RlRegion X G O n0 n cap i f q mi br da A w) ⟨Off.refl _ _, Buts.refl _ _, by simpa using hR, by simpa using hO, by simp, by simp, by simp, by simp, by simp, by simp, by simp, by simp, by simp⟩ ⟨Off.refl _ _, Buts.of_below BD, by simpa using own_below hR BD, by simpa using hO.below BD, by simp, by simp, by simp, by simp, by simp, by simp, by simp, by simp, by simp⟩ ?_ ?_
  · intro s a w' S i' o ho hsi hT K hK
    have sz : a.tmps.size = 129 := by rw [S.off.2.1]; exact hs
    have il : i' < 12 := by have := (List.getElem?_eq_some_iff.1 ho).1; omega
    have wX := S.buts.block X lX (fun e => e.elim hXG hXO)
    have y8 : a.eval (.tmp 8) = .pointer (some ⟨G, i * 4, none⟩) := by rw [S.off.eval (by decide)]; exact x8
    have y9 : a.eval (.tmp 9) = .pointer (some ⟨O, 0, none⟩) := by rw [S.off.eval (by decide)]; exact x9
    match i', il, ho, hsi, hT with
    | 0, _, ho, hsi, hT =>
      obtain ⟨e1, e2⟩ := pick_of h0 ho
      refine step_val (v := .pointer (some ⟨G, i * 4, none⟩)) (by simp only [execOp, e1, y8]; go_simp) (hK _ _ ?_)
      rw [e2]
      exact ⟨S.off.put (by decide) _, S.buts, by simpa using S.row, by simpa using S.out, fun _ => (eval_put _ _ _ (by omega)).trans rfl, fun g => by rw [eval_put_ne _ _ _ _ (by decide)]; exact S.t1 (by simpa using g), fun g => by rw [eval_put_ne _ _ _ _ (by decide)]; exact S.t2 (by simpa using g), fun g => by rw [eval_put_ne _ _ _ _ (by decide)]; exact S.t3 (by simpa using g), fun g => by rw [eval_put_ne _ _ _ _ (by decide)]; exact S.t4 (by simpa using g), fun g => by rw [eval_put_ne _ _ _ _ (by decide)]; exact S.t5 (by simpa using g), fun g => by rw [eval_put_ne _ _ _ _ (by decide)]; exact S.t7 (by simpa using g), fun g => by rw [eval_put_ne _ _ _ _ (by decide)]; exact S.t9 (by simpa using g), fun g => by rw [eval_put_ne _ _ _ _ (by decide)]; exact S.t10 (by simpa using g)⟩
    | 1, _, ho, hsi, hT =>
      obtain ⟨e1, e2⟩ := pick_of h1 ho
      refine step_val (v := .pointer (some ⟨G, i * 4, none⟩)) (by simp only [execOp, e1, y8]; go_simp) (hK _ _ ?_)
      rw [e2]
      exact ⟨S.off.put (by decide) _, S.buts, by simpa using S.row, by simpa using S.out, fun g => by rw [eval_put_ne _ _ _ _ (by decide)]; exact S.t0 (by simpa using g), fun _ => (eval_put _ _ _ (by omega)).trans rfl, fun g => by rw [eval_put_ne _ _ _ _ (by decide)]; exact S.t2 (by simpa using g), fun g => by rw [eval_put_ne _ _ _ _ (by decide)]; exact S.t3 (by simpa using g), fun g => by rw [eval_put_ne _ _ _ _ (by decide)]; exact S.t4 (by simpa using g), fun g => by rw [eval_put_ne _ _ _ _ (by decide)]; exact S.t5 (by simpa using g), fun g => by rw [eval_put_ne _ _ _ _ (by decide)]; exact S.t7 (by simpa using g), fun g => by rw [eval_put_ne _ _ _ _ (by decide)]; exact S.t9 (by simpa using g), fun g => by rw [eval_put_ne _ _ _ _ (by decide)]; exact S.t10 (by simpa using g)⟩
    | 2, _, ho, hsi, hT =>
      obtain ⟨e1, e2⟩ := pick_of h2 ho
      have D1 : s 1 = true := list_pos hT (d := 1) (by decide)
      refine step_val (v := .pointer (some ⟨G, i * 4, none⟩)) (by simp only [execOp, e1, S.t1 D1]; go_simp) (hK _ _ ?_)
      rw [e2]
      exact ⟨S.off.put (by decide) _, S.buts, by simpa using S.row, by simpa using S.out, fun g => by rw [eval_put_ne _ _ _ _ (by decide)]; exact S.t0 (by simpa using g), fun g => by rw [eval_put_ne _ _ _ _ (by decide)]; exact S.t1 (by simpa using g), fun _ => (eval_put _ _ _ (by omega)).trans rfl, fun g => by rw [eval_put_ne _ _ _ _ (by decide)]; exact S.t3 (by simpa using g), fun g => by rw [eval_put_ne _ _ _ _ (by decide)]; exact S.t4 (by simpa using g), fun g => by rw [eval_put_ne _ _ _ _ (by decide)]; exact S.t5 (by simpa using g), fun g => by rw [eval_put_ne _ _ _ _ (by decide)]; exact S.t7 (by simpa using g), fun g => by rw [eval_put_ne _ _ _ _ (by decide)]; exact S.t9 (by simpa using g), fun g => by rw [eval_put_ne _ _ _ _ (by decide)]; exact S.t10 (by simpa using g)⟩
    | 3, _, ho, hsi, hT =>
      obtain ⟨e1, e2⟩ := pick_of h3 ho
      have D2 : s 2 = true := list_pos hT (d := 2) (by decide)
      refine step_val (v := .pointer (some ⟨G, i * 4 + 3, none⟩)) (by simp only [execOp, e1, S.t2 D2]; go_simp) (hK _ _ ?_)
      rw [e2]
      exact ⟨S.off.put (by decide) _, S.buts, by simpa using S.row, by simpa using S.out, fun g => by rw [eval_put_ne _ _ _ _ (by decide)]; exact S.t0 (by simpa using g), fun g => by rw [eval_put_ne _ _ _ _ (by decide)]; exact S.t1 (by simpa using g), fun g => by rw [eval_put_ne _ _ _ _ (by decide)]; exact S.t2 (by simpa using g), fun _ => (eval_put _ _ _ (by omega)).trans rfl, fun g => by rw [eval_put_ne _ _ _ _ (by decide)]; exact S.t4 (by simpa using g), fun g => by rw [eval_put_ne _ _ _ _ (by decide)]; exact S.t5 (by simpa using g), fun g => by rw [eval_put_ne _ _ _ _ (by decide)]; exact S.t7 (by simpa using g), fun g => by rw [eval_put_ne _ _ _ _ (by decide)]; exact S.t9 (by simpa using g), fun g => by rw [eval_put_ne _ _ _ _ (by decide)]; exact S.t10 (by simpa using g)⟩
    | 4, _, ho, hsi, hT =>
      obtain ⟨e1, e2⟩ := pick_of h4 ho
      have D3 : s 3 = true := list_pos hT (d := 3) (by decide)
      have cl := rk_cell S.row hi 3 (by decide)
      rw [updN_same] at cl
      simp only [rkCel] at cl
      refine step_val (v := .string q.tx) (by simp only [execOp, e1, S.t3 D3]; go_simp) (hK _ _ ?_)
      rw [e2]
      exact ⟨S.off.put (by decide) _, S.buts, by simpa using S.row, by simpa using S.out, fun g => by rw [eval_put_ne _ _ _ _ (by decide)]; exact S.t0 (by simpa using g), fun g => by rw [eval_put_ne _ _ _ _ (by decide)]; exact S.t1 (by simpa using g), fun g => by rw [eval_put_ne _ _ _ _ (by decide)]; exact S.t2 (by simpa using g), fun g => by rw [eval_put_ne _ _ _ _ (by decide)]; exact S.t3 (by simpa using g), fun _ => (eval_put _ _ _ (by omega)).trans rfl, fun g => by rw [eval_put_ne _ _ _ _ (by decide)]; exact S.t5 (by simpa using g), fun g => by rw [eval_put_ne _ _ _ _ (by decide)]; exact S.t7 (by simpa using g), fun g => by rw [eval_put_ne _ _ _ _ (by decide)]; exact S.t9 (by simpa using g), fun g => by rw [eval_put_ne _ _ _ _ (by decide)]; exact S.t10 (by simpa using g)⟩
    | 5, _, ho, hsi, hT =>
      obtain ⟨e1, e2⟩ := pick_of h5 ho
      refine step_val (v := .pointer (some ⟨O, 0, none⟩)) (by simp only [execOp, e1, y9]; go_simp) (hK _ _ ?_)
      rw [e2]
      exact ⟨S.off.put (by decide) _, S.buts, by simpa using S.row, by simpa using S.out, fun g => by rw [eval_put_ne _ _ _ _ (by decide)]; exact S.t0 (by simpa using g), fun g => by rw [eval_put_ne _ _ _ _ (by decide)]; exact S.t1 (by simpa using g), fun g => by rw [eval_put_ne _ _ _ _ (by decide)]; exact S.t2 (by simpa using g), fun g => by rw [eval_put_ne _ _ _ _ (by decide)]; exact S.t3 (by simpa using g), fun g => by rw [eval_put_ne _ _ _ _ (by decide)]; exact S.t4 (by simpa using g), fun _ => (eval_put _ _ _ (by omega)).trans rfl, fun g => by rw [eval_put_ne _ _ _ _ (by decide)]; exact S.t7 (by simpa using g), fun g => by rw [eval_put_ne _ _ _ _ (by decide)]; exact S.t9 (by simpa using g), fun g => by rw [eval_put_ne _ _ _ _ (by decide)]; exact S.t10 (by simpa using g)⟩
    | 6, _, ho, hsi, hT =>
      obtain ⟨e1, e2⟩ := pick_of h6 ho
      have D5 : s 5 = true := list_pos hT (d := 5) (by decide)
      have cg := S.out.cell (j := 0) (by omega)
      have fg := S.out.frozen (j := 0) (by omega)
      refine step_to (w2 := w'.setCell ⟨O, 0, none⟩ (.bool true)) (store_bool e1 (S.t5 D5) rfl cg fg) (hK _ _ ?_)
      rw [e2]
      exact ⟨S.off.put_none _, S.buts.setCell (.inr rfl) _, by simpa using own_other S.row (c := O) (fun e => hGO (Option.some.inj e)) _, by simpa using (S.out.set 0 (.bool true)).congr (g := pcC true (if s 8 = true then q.tx else ⟨#[]⟩) mi br) (fun r hr => by match r, hr with | 0, _ => rfl | 1, _ => rfl | 2, _ => rfl | 3, _ => rfl), fun g => S.t0 (by simpa using g), fun g => S.t1 (by simpa using g), fun g => S.t2 (by simpa using g), fun g => S.t3 (by simpa using g), fun g => S.t4 (by simpa using g), fun g => S.t5 (by simpa using g), fun g => S.t7 (by simpa using g), fun g => S.t9 (by simpa using g), fun g => S.t10 (by simpa using g)⟩
    | 7, _, ho, hsi, hT =>
      obtain ⟨e1, e2⟩ := pick_of h7 ho
      refine step_val (v := .pointer (some ⟨O, 1, none⟩)) (by simp only [execOp, e1, y9]; go_simp) (hK _ _ ?_)
      rw [e2]
      exact ⟨S.off.put (by decide) _, S.buts, by simpa using S.row, by simpa using S.out, fun g => by rw [eval_put_ne _ _ _ _ (by decide)]; exact S.t0 (by simpa using g), fun g => by rw [eval_put_ne _ _ _ _ (by decide)]; exact S.t1 (by simpa using g), fun g => by rw [eval_put_ne _ _ _ _ (by decide)]; exact S.t2 (by simpa using g), fun g => by rw [eval_put_ne _ _ _ _ (by decide)]; exact S.t3 (by simpa using g), fun g => by rw [eval_put_ne _ _ _ _ (by decide)]; exact S.t4 (by simpa using g), fun g => by rw [eval_put_ne _ _ _ _ (by decide)]; exact S.t5 (by simpa using g), fun _ => (eval_put _ _ _ (by omega)).trans rfl, fun g => by rw [eval_put_ne _ _ _ _ (by decide)]; exact S.t9 (by simpa using g), fun g => by rw [eval_put_ne _ _ _ _ (by decide)]; exact S.t10 (by simpa using g)⟩
    | 8, _, ho, hsi, hT =>
      obtain ⟨e1, e2⟩ := pick_of h8 ho
      have D4 : s 4 = true := list_pos hT (d := 4) (by decide)
      have D7 : s 7 = true := list_pos hT (d := 7) (by decide)
      have cg := S.out.cell (j := 1) (by omega)
      have fg := S.out.frozen (j := 1) (by omega)
      refine step_to (w2 := w'.setCell ⟨O, 1, none⟩ (.string q.tx)) (store_str e1 (S.t7 D7) (S.t4 D4) cg fg) (hK _ _ ?_)
      rw [e2]
      exact ⟨S.off.put_none _, S.buts.setCell (.inr rfl) _, by simpa using own_other S.row (c := O) (fun e => hGO (Option.some.inj e)) _, by simpa using (S.out.set 1 (.string q.tx)).congr (g := pcC (if s 6 = true then true else false) q.tx mi br) (fun r hr => by match r, hr with | 0, _ => rfl | 1, _ => rfl | 2, _ => rfl | 3, _ => rfl), fun g => S.t0 (by simpa using g), fun g => S.t1 (by simpa using g), fun g => S.t2 (by simpa using g), fun g => S.t3 (by simpa using g), fun g => S.t4 (by simpa using g), fun g => S.t5 (by simpa using g), fun g => S.t7 (by simpa using g), fun g => S.t9 (by simpa using g), fun g => S.t10 (by simpa using g)⟩
    | 9, _, ho, hsi, hT =>
      obtain ⟨e1, e2⟩ := pick_of h9 ho
      have D0 : s 0 = true := list_pos hT (d := 0) (by decide)
      refine step_val (v := .pointer (some ⟨G, i * 4, none⟩)) (by simp only [execOp, e1, S.t0 D0]; go_simp) (hK _ _ ?_)
      rw [e2]
      exact ⟨S.off.put (by decide) _, S.buts, by simpa using S.row, by simpa using S.out, fun g => by rw [eval_put_ne _ _ _ _ (by decide)]; exact S.t0 (by simpa using g), fun g => by rw [eval_put_ne _ _ _ _ (by decide)]; exact S.t1 (by simpa using g), fun g => by rw [eval_put_ne _ _ _ _ (by decide)]; exact S.t2 (by simpa using g), fun g => by rw [eval_put_ne _ _ _ _ (by decide)]; exact S.t3 (by simpa using g), fun g => by rw [eval_put_ne _ _ _ _ (by decide)]; exact S.t4 (by simpa using g), fun g => by rw [eval_put_ne _ _ _ _ (by decide)]; exact S.t5 (by simpa using g), fun g => by rw [eval_put_ne _ _ _ _ (by decide)]; exact S.t7 (by simpa using g), fun _ => (eval_put _ _ _ (by omega)).trans rfl, fun g => by rw [eval_put_ne _ _ _ _ (by decide)]; exact S.t10 (by simpa using g)⟩
    | 10, _, ho, hsi, hT =>
      obtain ⟨e1, e2⟩ := pick_of h10 ho
      have D9 : s 9 = true := list_pos hT (d := 9) (by decide)
      refine step_val (v := .pointer (some ⟨G, i * 4 + 2, none⟩)) (by simp only [execOp, e1, S.t9 D9]; go_simp) (hK _ _ ?_)
      rw [e2]
      exact ⟨S.off.put (by decide) _, S.buts, by simpa using S.row, by simpa using S.out, fun g => by rw [eval_put_ne _ _ _ _ (by decide)]; exact S.t0 (by simpa using g), fun g => by rw [eval_put_ne _ _ _ _ (by decide)]; exact S.t1 (by simpa using g), fun g => by rw [eval_put_ne _ _ _ _ (by decide)]; exact S.t2 (by simpa using g), fun g => by rw [eval_put_ne _ _ _ _ (by decide)]; exact S.t3 (by simpa using g), fun g => by rw [eval_put_ne _ _ _ _ (by decide)]; exact S.t4 (by simpa using g), fun g => by rw [eval_put_ne _ _ _ _ (by decide)]; exact S.t5 (by simpa using g), fun g => by rw [eval_put_ne _ _ _ _ (by decide)]; exact S.t7 (by simpa using g), fun g => by rw [eval_put_ne _ _ _ _ (by decide)]; exact S.t9 (by simpa using g), fun _ => (eval_put _ _ _ (by omega)).trans rfl⟩
    | 11, _, ho, hsi, hT =>
      obtain ⟨e1, e2⟩ := pick_of h11 ho
      have D10 : s 10 = true := list_pos hT (d := 10) (by decide)
      have cg := rk_cell S.row hi 2 (by decide)
      have fg := S.row.frozenAt (i * 4 + 2)
      refine step_to (w2 := w'.setCell ⟨G, i * 4 + 2, none⟩ (.bool false)) (store_bool e1 (S.t10 D10) rfl cg fg) (hK _ _ ?_)
      rw [e2]
      exact ⟨S.off.put_none _, S.buts.setCell (.inl rfl) _, by simpa [updN_updN] using rk_put S.row hi 2 (by decide) (.bool false) ⟨q.ap, q.nx, false, q.tx⟩ (fun r hr => by rw [updN_same]; match r, hr with | 0, _ => rfl | 1, _ => rfl | 2, _ => rfl | 3, _ => rfl), by simpa using S.out.setOther (Ne.symm hGO) _, fun g => S.t0 (by simpa using g), fun g => S.t1 (by simpa using g), fun g => S.t2 (by simpa using g), fun g => S.t3 (by simpa using g), fun g => S.t4 (by simpa using g), fun g => S.t5 (by simpa using g), fun g => S.t7 (by simpa using g), fun g => S.t9 (by simpa using g), fun g => S.t10 (by simpa using g)⟩
  · intro s a w' S hall
    have a0 := hall 0 (by omega)
    have a1 := hall 1 (by omega)
    have a2 := hall 2 (by omega)
    have a3 := hall 3 (by omega)
    have a4 := hall 4 (by omega)
    have a5 := hall 5 (by omega)
    have a6 := hall 6 (by omega)
    have a7 := hall 7 (by omega)
    have a8 := hall 8 (by omega)
    have a9 := hall 9 (by omega)
    have a10 := hall 10 (by omega)
    have a11 := hall 11 (by omega)
    have e := off_norm _ (by intro d hd; simp at hd; omega) S.off
    simp only [List.foldl, S.t0 a0, S.t1 a1, S.t2 a2, S.t3 a3, S.t4 a4, S.t5 a5, S.t7 a7, S.t9 a9, S.t10 a10] at e
    rw [e]
    exact h _ S.buts (by simpa [a6, a8, a11] using S.row) (by simpa [a6, a8, a11] using S.out)
end Go.Proofs.Ytphkaambodecdaa
