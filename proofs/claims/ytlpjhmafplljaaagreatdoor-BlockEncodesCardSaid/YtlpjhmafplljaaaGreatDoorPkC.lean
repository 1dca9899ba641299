/- BlkCat, BlkCp as one text. -/
import Derived.Test.YtlpjhmafplljaaaGreatDoorPkP
import Derived.Defers
import Derived.Recover
import Derived.Lib.SliceRun
/- The deferred function that recovers: its two contracts; what corrected does behind a panic and behind a return. -/
namespace Go.Proofs.YtlpjhmafplljaaaGreatDoor
open Go.RowKit
set_option linter.unusedVariables false

/-- The cells of the results: a word of two slices at c4, a truth value at c5. -/
structure Cells2 (w : World) (c4 c5 : Nat) (a b c : Value) : Prop where
  c0 : w.cell? ⟨c4, 0, none⟩ = some a
  c1 : w.cell? ⟨c4, 1, none⟩ = some b
  c2 : w.cell? ⟨c5, 0, none⟩ = some c
  f0 : w.frozen? ⟨c4, 0, none⟩ = false
  f1 : w.frozen? ⟨c4, 1, none⟩ = false
  f2 : w.frozen? ⟨c5, 0, none⟩ = false
  ne : c4 ≠ c5
theorem catch_pan (c4 c5 : Nat) (u : TypeId) (pv a b c : Value) (w : World) (H : Cells2 w c4 c5 a b c) :
    CallsD Tryz.prog 68 #[.pointer (some ⟨c4, 0, none⟩), .pointer (some ⟨c5, 0, none⟩)] (.panicking [{ v := .iface u pv, recovered := false }]) w fun e u' w' =>
      e = .returned (.tuple #[]) ∧ u' = .panicking [{ v := .iface u pv, recovered := true }] ∧ w' = ((w.setCell ⟨c4, 0, none⟩ (.slice none 0 0)).setCell ⟨c4, 1, none⟩ (.slice none 0 0)).setCell ⟨c5, 0, none⟩ (.bool false) := by
  obtain ⟨h0, h1, h2, g0, g1, g2, ne⟩ := H
  have e1 : ((w.setCell ⟨c4, 0, none⟩ (.slice none 0 0)).cell? ⟨c4, 1, none⟩) = some b := by rw [World.cell?_setCell_other (h := addr_off (by omega))]; exact h1
  have e2 : (((w.setCell ⟨c4, 0, none⟩ (.slice none 0 0)).setCell ⟨c4, 1, none⟩ (.slice none 0 0)).cell? ⟨c5, 0, none⟩) = some c := by
    rw [World.cell?_setCell_other (h := fun e => ne (congrArg Addr.block e)), World.cell?_setCell_other (h := fun e => ne (congrArg Addr.block e))]; exact h2
  refine callsD_of_wpS Tryz.func68 rfl fun c₀ cs hu => ?_
  apply wpS_seq
  apply wpS_region
  simp [wpOpsS, go_sem, recoverD, hu, Tryz.ntmps68, Exit.thenS]
  refine wpS_cond (t := true) (by simp [Act.eval, Array.replicate]) ?_
  simp only [if_true]
  apply wpS_region
  have f1' : (w.setCell ⟨c4, 0, none⟩ (.slice none 0 0)).frozen? ⟨c4, 1, none⟩ = false := by rw [World.frozen?_setCell]; exact g1
  have f2' : ((w.setCell ⟨c4, 0, none⟩ (.slice none 0 0)).setCell ⟨c4, 1, none⟩ (.slice none 0 0)).frozen? ⟨c5, 0, none⟩ = false := by rw [World.frozen?_setCell, World.frozen?_setCell]; exact g2
  simp [wpOpsS, go_sem, h0, g0, e1, g1, e2, g2, bodyPostS, results, Tryz.results68, Array.replicate]
theorem catch_idle (c4 c5 : Nat) (w : World) :
    CallsD Tryz.prog 68 #[.pointer (some ⟨c4, 0, none⟩), .pointer (some ⟨c5, 0, none⟩)] .returning w fun e u' w' => e = .returned (.tuple #[]) ∧ u' = .returning ∧ w' = w := by
  refine callsD_of_wpS Tryz.func68 rfl fun c₀ cs hu => ?_
  apply wpS_seq
  apply wpS_region
  simp [wpOpsS, go_sem, recoverD, hu, Tryz.ntmps68, Exit.thenS]
  refine wpS_cond (t := false) (by simp [Act.eval, Array.replicate]) ?_
  simp only [Bool.false_eq_true, if_false]
  refine wpS_of_wp (wp_skip ?_)
  cases c₀
  simp_all [bodyPostS, results, Tryz.results68]
/-- The deferred call of corrected. -/
def dcl (c4 c5 : Nat) : Deferred := { target := .fn (.func 68) #[.pointer (some ⟨c4, 0, none⟩), .pointer (some ⟨c5, 0, none⟩)], args := #[] }
theorem door_pan {R : Ending → World → Prop} {a : Act} {w : World} {p : List PanicEntry} (c4 c5 : Nat) (x y z : Value) (H : Cells2 w c4 c5 x y z) (hp : Pan p) (hd : a.defers = [dcl c4 c5]) (h4 : a.eval (.tmp 4) = .pointer (some ⟨c4, 0, none⟩)) (h5 : a.eval (.tmp 5) = .pointer (some ⟨c5, 0, none⟩))
    (hR : ∀ w', w' = ((w.setCell ⟨c4, 0, none⟩ (.slice none 0 0)).setCell ⟨c4, 1, none⟩ (.slice none 0 0)).setCell ⟨c5, 0, none⟩ (.bool false) → R (.returned (.tuple #[.agg #[.slice none 0 0, .slice none 0 0], .bool false])) w') :
    bodyPostD Tryz.prog Tryz.f50 R (.panic p) a w := by
  obtain ⟨u, v, rfl⟩ := hp
  show Leaves Tryz.prog Tryz.f50 a.tmps R a.defers (.panicking [{ v := .iface u v, recovered := false }]) w
  rw [hd]
  refine leaves_cons (f := 68) (args := #[.pointer (some ⟨c4, 0, none⟩), .pointer (some ⟨c5, 0, none⟩)]) (by simp) (by simp [go_sem]) ?_
  refine (catch_pan c4 c5 u v x y z w H).mono ?_
  rintro e u' w'' ⟨rfl, rfl, hw⟩
  have q := hR w'' hw
  obtain ⟨h0, h1, h2, g0, g1, g2, ne⟩ := H
  have e0 : w''.cell? ⟨c4, 0, none⟩ = some (.slice none 0 0) := by
    rw [hw, World.cell?_setCell_other (h := fun e => ne (congrArg Addr.block e).symm), World.cell?_setCell_other (h := addr_off (by omega))]
    exact World.cell?_setCell_same' _ _ _ (by rw [h0]; rfl)
  have e1 : w''.cell? ⟨c4, 1, none⟩ = some (.slice none 0 0) := by
    rw [hw, World.cell?_setCell_other (h := fun e => ne (congrArg Addr.block e).symm)]
    exact World.cell?_setCell_same' _ _ _ (by rw [World.cell?_setCell_other (h := addr_off (by omega)), h1]; rfl)
  have e2 : w''.cell? ⟨c5, 0, none⟩ = some (.bool false) := by
    rw [hw]
    exact World.cell?_setCell_same' _ _ _ (by rw [World.cell?_setCell_other (h := fun e => ne (congrArg Addr.block e)), World.cell?_setCell_other (h := fun e => ne (congrArg Addr.block e)), h2]; rfl)
  have t4 : a.tmps.getD 4 undef = .pointer (some ⟨c4, 0, none⟩) := h4
  have t5 : a.tmps.getD 5 undef = .pointer (some ⟨c5, 0, none⟩) := h5
  have t4' : a.tmps[4]?.getD undef = .pointer (some ⟨c4, 0, none⟩) := by rw [← t4]; simp
  have t5' : a.tmps[5]?.getD undef = .pointer (some ⟨c5, 0, none⟩) := by rw [← t5]; simp
  simp [Leaves, settle, results, Tryz.results50, go_sem, t4', t5', e0, e1, e2]
  exact q
theorem door_ret {R : Ending → World → Prop} {a : Act} {w : World} (c4 c5 : Nat) (x y z : Value) (H : Cells2 w c4 c5 x y z) (hd : a.defers = [dcl c4 c5]) (h4 : a.eval (.tmp 4) = .pointer (some ⟨c4, 0, none⟩)) (h5 : a.eval (.tmp 5) = .pointer (some ⟨c5, 0, none⟩))
    (hR : R (.returned (.tuple #[.agg #[x, y], z])) w) : bodyPostD Tryz.prog Tryz.f50 R .ret a w := by
  show Leaves Tryz.prog Tryz.f50 a.tmps R a.defers .returning w
  rw [hd]
  refine leaves_cons (f := 68) (args := #[.pointer (some ⟨c4, 0, none⟩), .pointer (some ⟨c5, 0, none⟩)]) (by simp) (by simp [go_sem]) ?_
  refine (catch_idle c4 c5 w).mono ?_
  rintro e u' w'' ⟨rfl, rfl, rfl⟩
  obtain ⟨h0, h1, h2, g0, g1, g2, ne⟩ := H
  have t4 : a.tmps.getD 4 undef = .pointer (some ⟨c4, 0, none⟩) := h4
  have t5 : a.tmps.getD 5 undef = .pointer (some ⟨c5, 0, none⟩) := h5
  have t4' : a.tmps[4]?.getD undef = .pointer (some ⟨c4, 0, none⟩) := by rw [← t4]; simp
  have t5' : a.tmps[5]?.getD undef = .pointer (some ⟨c5, 0, none⟩) := by rw [← t5]; simp
  simp [Leaves, settle, results, Tryz.results50, go_sem, t4', t5', h0, h1, h2]
  exact hR
end Go.Proofs.YtlpjhmafplljaaaGreatDoor
/- The contract of block's corrected over this program. -/
namespace Go.Proofs.YtlpjhmafplljaaaGreatDoor
open Go.RowKit
set_option linter.unusedVariables false

/-- What the equations of the changes see. -/
structure CapW (w : World) (plb syb bx pb b cb eb ce n : Nat) (f : Nat → BitVec 8) (l : List Nat) (vp : Value) : Prop where
  p : w.cell? ⟨plb, 0, none⟩ = some vp
  lp : plb < w.heap.size
  own : ∃ base, w.ownsRow base 3 1 vp l.length (plv l)
  s : w.cell? ⟨syb, 0, none⟩ = some (.func (.func 89) #[] #[.pointer (some ⟨pb, 0, none⟩)])
  ls : syb < w.heap.size
  x0 : w.cell? ⟨bx, 0, none⟩ = some (.slice (some ⟨b, 0, none⟩) n cb)
  x1 : w.cell? ⟨bx, 1, none⟩ = some (.slice (some ⟨eb, 0, none⟩) n ce)
  lx : bx < w.heap.size
  st : w.cell? ⟨pb, 0, none⟩ = some (.string ⟨(Gal.coefs f n).reverse.toArray⟩)
  lpb : pb < w.heap.size
theorem CapW.below {w w' : World} {plb syb bx pb b cb eb ce n : Nat} {f : Nat → BitVec 8} {l : List Nat} {vp : Value} (h : CapW w plb syb bx pb b cb eb ce n f l vp) (hb : Below w.heap.size w w') : CapW w' plb syb bx pb b cb eb ce n f l vp := by
  obtain ⟨base, ho⟩ := h.own
  exact ⟨(hb.cell (p := ⟨plb, 0, none⟩) h.lp).trans h.p, Nat.lt_of_lt_of_le h.lp hb.size, ⟨base, own_below ho hb⟩, (hb.cell (p := ⟨syb, 0, none⟩) h.ls).trans h.s, Nat.lt_of_lt_of_le h.ls hb.size,
    (hb.cell (p := ⟨bx, 0, none⟩) h.lx).trans h.x0, (hb.cell (p := ⟨bx, 1, none⟩) h.lx).trans h.x1, Nat.lt_of_lt_of_le h.lx hb.size, (hb.cell (p := ⟨pb, 0, none⟩) h.lpb).trans h.st, Nat.lt_of_lt_of_le h.lpb hb.size⟩
theorem own_shape {w : World} {base e size n : Nat} {v : Value} {xs : List Value} (h : w.ownsRow base e size v n xs) : ∃ a c, v = .slice a n c := by
  rcases h.2 with ⟨rfl, h0⟩ | ⟨g, c, _, rfl, _⟩
  · exact ⟨none, 0, by rw [h0]⟩
  · exact ⟨_, _, rfl⟩
theorem own_ints {w : World} {base g n C : Nat} {l : List Nat} (h : w.ownsRow base 3 1 (.slice (some ⟨g, 0, none⟩) n C) l.length (plv l)) : g < w.heap.size ∧ ∀ j, j < l.length → w.cell? ⟨g, j, none⟩ = some (.int .i64 (l.getD j 0 : Nat)) := by
  obtain ⟨hl, h⟩ := h
  rcases h with ⟨hv, _⟩ | ⟨g', c, cur, hv, hb, hg, hnc, hm, hsz, ht⟩
  · simp at hv
  · simp only [Value.slice.injEq, Option.some.injEq, Addr.mk.injEq] at hv
    obtain ⟨⟨rfl, _, _⟩, _, rfl⟩ := hv
    refine ⟨(Array.getElem?_eq_some_iff.1 hg).1, fun j hj => ?_⟩
    have e1 : w.cell? ⟨g, j, none⟩ = cur[j]? := by
      unfold World.cell?
      rw [hg]
      simp
    have e2 : (cur.toList.take (l.length * 1))[j]? = cur[j]? := by
      rw [List.getElem?_take_of_lt (by omega)]
      simp
    rw [e1, ← e2, ht]
    simp [plv, hj]
structure CpRegion (plb bx b cb eb ce n gl cp m i j p : Nat) (A : Act) (w0 : World) (s : Nat → Bool) (a : Act) (w : World) : Prop where
  off : Off [18, 19, 20, 21, 22, 23, 24, 25, 17, 26, 27, 8] a A
  before : Below w0.heap.size w0 w
  t0 : s 0 = true → a.eval (.tmp 18) = .agg #[.slice (some ⟨b, 0, none⟩) n cb, .slice (some ⟨eb, 0, none⟩) n ce]
  t1 : s 1 = true → a.eval (.tmp 19) = .slice (some ⟨gl, 0, none⟩) m cp
  t2 : s 2 = true → a.eval (.tmp 20) = .int .i64 (j : Nat)
  t3 : s 3 = true → a.eval (.tmp 21) = .pointer (some ⟨gl, j, none⟩)
  t4 : s 4 = true → a.eval (.tmp 22) = .int .i64 (p : Nat)
  t5 : s 5 = true → a.eval (.tmp 23) = .int .u8 ((Blk.elem n p).toNat : Nat)
  t6 : s 6 = true → a.eval (.tmp 24) = .int .i64 (i : Nat)
  t7 : s 7 = true → a.eval (.tmp 25) = .tuple #[.int .u8 ((Gal.powV (Blk.elem n p) (i : Nat)).toNat : Nat), .int .i64 (Gal.powE (Blk.elem n p) (i : Nat))]
  t8 : s 8 = true → a.eval (.tmp 17) = .tuple #[.int .u8 ((Gal.powV (Blk.elem n p) (i : Nat)).toNat : Nat), .int .i64 (Gal.powE (Blk.elem n p) (i : Nat))]
  t9 : s 9 = true → a.eval (.tmp 26) = .int .u8 ((Gal.powV (Blk.elem n p) (i : Nat)).toNat : Nat)
  t10 : s 10 = true → a.eval (.tmp 27) = .int .i64 (Gal.powE (Blk.elem n p) (i : Nat))
  t11 : s 11 = true → a.eval (.tmp 8) = .int .u8 ((Gal.powV (Blk.elem n p) (i : Nat)).toNat : Nat)
set_option maxHeartbeats 2000000 in
set_option maxRecDepth 100000 in
theorem cpRegion {id : Nat} {l : List Oper} {A : Act} {w : World} {Q : Exit → Act → World → Prop} (plb bx b cb eb ce n gl cp m i j p : Nat)
    (hn : n ≤ 1000) (hp : p < n) (hj : j < m) (hm : m ≤ 1000) (hbx : bx < w.heap.size) (hc0 : w.cell? ⟨bx, 0, none⟩ = some (.slice (some ⟨b, 0, none⟩) n cb)) (hc1 : w.cell? ⟨bx, 1, none⟩ = some (.slice (some ⟨eb, 0, none⟩) n ce)) (hpl : plb < w.heap.size) (hcp : w.cell? ⟨plb, 0, none⟩ = some (.slice (some ⟨gl, 0, none⟩) m cp)) (hgl : gl < w.heap.size) (hcl : w.cell? ⟨gl, j, none⟩ = some (.int .i64 (p : Nat)))
    (hB : tableH l.toArray 12 (fun i => match i with | 0 => [] | 1 => [] | 2 => [] | 3 => [1, 2] | 4 => [3] | 5 => [0, 4] | 6 => [] | 7 => [5, 6] | 8 => [7] | 9 => [8] | 10 => [8] | 11 => [9] | _ => []) (fun _ => []) = true)
    (h0 : pick l 0 = some (.load 53 (.tmp 4), some 18))
    (h1 : pick l 1 = some (.load 28 (.tmp 2), some 19))
    (h2 : pick l 2 = some (.move (.tmp 1), some 20))
    (h3 : pick l 3 = some (.indexAddr 28 (.tmp 19) (.tmp 20), some 21))
    (h4 : pick l 4 = some (.load 3 (.tmp 21), some 22))
    (h5 : pick l 5 = some (.call { callee := .value (.func 75), args := #[.tmp 18, .tmp 22], argTypes := #[53, 3] }, some 23))
    (h6 : pick l 6 = some (.move (.tmp 0), some 24))
    (h7 : pick l 7 = some (.call { callee := .value (.func 74), args := #[.tmp 23, .tmp 24], argTypes := #[5, 3] }, some 25))
    (h8 : pick l 8 = some (.move (.tmp 25), some 17))
    (h9 : pick l 9 = some (.extract (.tmp 17) 0, some 26))
    (h10 : pick l 10 = some (.extract (.tmp 17) 1, some 27))
    (h11 : pick l 11 = some (.assign (.tmp 26), some 8))
    (hs : A.tmps.size = 29)
    (x0 : A.eval (.tmp 0) = .int .i64 (i : Nat))
    (x1 : A.eval (.tmp 1) = .int .i64 (j : Nat))
    (x2 : A.eval (.tmp 2) = .pointer (some ⟨plb, 0, none⟩))
    (x4 : A.eval (.tmp 4) = .pointer (some ⟨bx, 0, none⟩))
    (h : ∀ w1, Below w.heap.size w w1 → wpList Tryz.prog l.toArray Q (l.drop 12) ((((((((((((A.put (some 18) (.agg #[.slice (some ⟨b, 0, none⟩) n cb, .slice (some ⟨eb, 0, none⟩) n ce])).put (some 19) (.slice (some ⟨gl, 0, none⟩) m cp)).put (some 20) (.int .i64 (j : Nat))).put (some 21) (.pointer (some ⟨gl, j, none⟩))).put (some 22) (.int .i64 (p : Nat))).put (some 23) (.int .u8 ((Blk.elem n p).toNat : Nat))).put (some 24) (.int .i64 (i : Nat))).put (some 25) (.tuple #[.int .u8 ((Gal.powV (Blk.elem n p) (i : Nat)).toNat : Nat), .int .i64 (Gal.powE (Blk.elem n p) (i : Nat))])).put (some 17) (.tuple #[.int .u8 ((Gal.powV (Blk.elem n p) (i : Nat)).toNat : Nat), .int .i64 (Gal.powE (Blk.elem n p) (i : Nat))])).put (some 26) (.int .u8 ((Gal.powV (Blk.elem n p) (i : Nat)).toNat : Nat))).put (some 27) (.int .i64 (Gal.powE (Blk.elem n p) (i : Nat)))).put (some 8) (.int .u8 ((Gal.powV (Blk.elem n p) (i : Nat)).toNat : Nat))) w1) :
    (Code.region id l.toArray true).wp Tryz.prog Q A w := by
  refine wp_region_head (by kernel_rfl) _ _ _ hB (CpRegion plb bx b cb eb ce n gl cp m i j p A w) ⟨Off.refl _ _, (Below.refl _ _).drew, by simp, by simp, by simp, by simp, by simp, by simp, by simp, by simp, by simp, by simp, by simp, by simp⟩ ?_ ?_
  · intro s a w' S i' o il ho hsi hT K hK
    have sz : a.tmps.size = 29 := by rw [S.off.2.1]; exact hs
    have y0 : a.eval (.tmp 0) = .int .i64 (i : Nat) := by rw [S.off.eval (by decide)]; exact x0
    have y1 : a.eval (.tmp 1) = .int .i64 (j : Nat) := by rw [S.off.eval (by decide)]; exact x1
    have y2 : a.eval (.tmp 2) = .pointer (some ⟨plb, 0, none⟩) := by rw [S.off.eval (by decide)]; exact x2
    have y4 : a.eval (.tmp 4) = .pointer (some ⟨bx, 0, none⟩) := by rw [S.off.eval (by decide)]; exact x4
    match i', il, ho, hsi, hT with
    | 0, _, ho, hsi, hT =>
      obtain ⟨e1, e2⟩ := pick_of h0 ho
      have BW := S.before
      have cl0 := (BW.cell (p := ⟨bx, 0, none⟩) hbx).trans hc0
      have cl1 := (BW.cell (p := ⟨bx, 1, none⟩) hbx).trans hc1
      refine step_val (v := .agg #[.slice (some ⟨b, 0, none⟩) n cb, .slice (some ⟨eb, 0, none⟩) n ce]) (by simp only [execOp, e1, y4]; go_simp) (hK _ _ ?_)
      rw [e2]
      exact ⟨S.off.put (by decide) _, S.before, fun _ => (eval_put _ _ _ (by omega)).trans rfl, kp S.t1, kp S.t2, kp S.t3, kp S.t4, kp S.t5, kp S.t6, kp S.t7, kp S.t8, kp S.t9, kp S.t10, kp S.t11⟩
    | 1, _, ho, hsi, hT =>
      obtain ⟨e1, e2⟩ := pick_of h1 ho
      have BW := S.before
      have cl := (BW.cell (p := ⟨plb, 0, none⟩) hpl).trans hcp
      refine step_val (v := .slice (some ⟨gl, 0, none⟩) m cp) (by simp only [execOp, e1, y2]; go_simp) (hK _ _ ?_)
      rw [e2]
      exact ⟨S.off.put (by decide) _, S.before, kp S.t0, fun _ => (eval_put _ _ _ (by omega)).trans rfl, kp S.t2, kp S.t3, kp S.t4, kp S.t5, kp S.t6, kp S.t7, kp S.t8, kp S.t9, kp S.t10, kp S.t11⟩
    | 2, _, ho, hsi, hT =>
      obtain ⟨e1, e2⟩ := pick_of h2 ho
      have BW := S.before
      refine step_val (v := .int .i64 (j : Nat)) (by simp only [execOp, e1, y1]; go_simp) (hK _ _ ?_)
      rw [e2]
      exact ⟨S.off.put (by decide) _, S.before, kp S.t0, kp S.t1, fun _ => (eval_put _ _ _ (by omega)).trans rfl, kp S.t3, kp S.t4, kp S.t5, kp S.t6, kp S.t7, kp S.t8, kp S.t9, kp S.t10, kp S.t11⟩
    | 3, _, ho, hsi, hT =>
      obtain ⟨e1, e2⟩ := pick_of h3 ho
      have D1 : s 1 = true := list_pos hT (d := 1) (by decide)
      have D2 : s 2 = true := list_pos hT (d := 2) (by decide)
      have BW := S.before
      refine step_val (v := .pointer (some ⟨gl, j, none⟩)) (by simp only [execOp, e1, S.t1 D1, S.t2 D2]; go_simp) (hK _ _ ?_)
      rw [e2]
      exact ⟨S.off.put (by decide) _, S.before, kp S.t0, kp S.t1, kp S.t2, fun _ => (eval_put _ _ _ (by omega)).trans rfl, kp S.t4, kp S.t5, kp S.t6, kp S.t7, kp S.t8, kp S.t9, kp S.t10, kp S.t11⟩
    | 4, _, ho, hsi, hT =>
      obtain ⟨e1, e2⟩ := pick_of h4 ho
      have D3 : s 3 = true := list_pos hT (d := 3) (by decide)
      have BW := S.before
      have cl := (BW.cell (p := ⟨gl, j, none⟩) hgl).trans hcl
      refine step_val (v := .int .i64 (p : Nat)) (by simp only [execOp, e1, S.t3 D3]; go_simp) (hK _ _ ?_)
      rw [e2]
      exact ⟨S.off.put (by decide) _, S.before, kp S.t0, kp S.t1, kp S.t2, kp S.t3, fun _ => (eval_put _ _ _ (by omega)).trans rfl, kp S.t5, kp S.t6, kp S.t7, kp S.t8, kp S.t9, kp S.t10, kp S.t11⟩
    | 5, _, ho, hsi, hT =>
      obtain ⟨e1, e2⟩ := pick_of h5 ho
      have D0 : s 0 = true := list_pos hT (d := 0) (by decide)
      have D4 : s 4 = true := list_pos hT (d := 4) (by decide)
      have BW := S.before
      refine step_call 75 (fun args w => by go_simp) _ _ e1 #[.agg #[.slice (some ⟨b, 0, none⟩) n cb, .slice (some ⟨eb, 0, none⟩) n ce], .int .i64 (p : Nat)] (by simp only [List.map_toArray, List.map_cons, List.map_nil, S.t0 D0, S.t4 D4]) ((element_any b cb eb ce n p hn hp _).mono ?_)
      rintro e w2 ⟨rfl, BB⟩
      refine ⟨_, rfl, hK _ _ ?_⟩
      rw [e2]
      exact ⟨S.off.put (by decide) _, bt BW BB, kp S.t0, kp S.t1, kp S.t2, kp S.t3, kp S.t4, fun _ => (eval_put _ _ _ (by omega)).trans rfl, kp S.t6, kp S.t7, kp S.t8, kp S.t9, kp S.t10, kp S.t11⟩
    | 6, _, ho, hsi, hT =>
      obtain ⟨e1, e2⟩ := pick_of h6 ho
      have BW := S.before
      refine step_val (v := .int .i64 (i : Nat)) (by simp only [execOp, e1, y0]; go_simp) (hK _ _ ?_)
      rw [e2]
      exact ⟨S.off.put (by decide) _, S.before, kp S.t0, kp S.t1, kp S.t2, kp S.t3, kp S.t4, kp S.t5, fun _ => (eval_put _ _ _ (by omega)).trans rfl, kp S.t7, kp S.t8, kp S.t9, kp S.t10, kp S.t11⟩
    | 7, _, ho, hsi, hT =>
      obtain ⟨e1, e2⟩ := pick_of h7 ho
      have D5 : s 5 = true := list_pos hT (d := 5) (by decide)
      have D6 : s 6 = true := list_pos hT (d := 6) (by decide)
      have BW := S.before
      refine step_call 74 (fun args w => by go_simp) _ _ e1 #[.int .u8 ((Blk.elem n p).toNat : Nat), .int .i64 (i : Nat)] (by simp only [List.map_toArray, List.map_cons, List.map_nil, S.t5 D5, S.t6 D6]) ((pow_any (Blk.elem n p) (i : Nat) _).mono ?_)
      rintro e w2 ⟨rfl, BB⟩
      refine ⟨_, rfl, hK _ _ ?_⟩
      rw [e2]
      exact ⟨S.off.put (by decide) _, bt BW BB, kp S.t0, kp S.t1, kp S.t2, kp S.t3, kp S.t4, kp S.t5, kp S.t6, fun _ => (eval_put _ _ _ (by omega)).trans rfl, kp S.t8, kp S.t9, kp S.t10, kp S.t11⟩
    | 8, _, ho, hsi, hT =>
      obtain ⟨e1, e2⟩ := pick_of h8 ho
      have D7 : s 7 = true := list_pos hT (d := 7) (by decide)
      have BW := S.before
      refine step_val (v := .tuple #[.int .u8 ((Gal.powV (Blk.elem n p) (i : Nat)).toNat : Nat), .int .i64 (Gal.powE (Blk.elem n p) (i : Nat))]) (by simp only [execOp, e1, S.t7 D7]; go_simp) (hK _ _ ?_)
      rw [e2]
      exact ⟨S.off.put (by decide) _, S.before, kp S.t0, kp S.t1, kp S.t2, kp S.t3, kp S.t4, kp S.t5, kp S.t6, kp S.t7, fun _ => (eval_put _ _ _ (by omega)).trans rfl, kp S.t9, kp S.t10, kp S.t11⟩
    | 9, _, ho, hsi, hT =>
      obtain ⟨e1, e2⟩ := pick_of h9 ho
      have D8 : s 8 = true := list_pos hT (d := 8) (by decide)
      have BW := S.before
      refine step_val (v := .int .u8 ((Gal.powV (Blk.elem n p) (i : Nat)).toNat : Nat)) (by simp only [execOp, e1, S.t8 D8]; go_simp) (hK _ _ ?_)
      rw [e2]
      exact ⟨S.off.put (by decide) _, S.before, kp S.t0, kp S.t1, kp S.t2, kp S.t3, kp S.t4, kp S.t5, kp S.t6, kp S.t7, kp S.t8, fun _ => (eval_put _ _ _ (by omega)).trans rfl, kp S.t10, kp S.t11⟩
    | 10, _, ho, hsi, hT =>
      obtain ⟨e1, e2⟩ := pick_of h10 ho
      have D8 : s 8 = true := list_pos hT (d := 8) (by decide)
      have BW := S.before
      refine step_val (v := .int .i64 (Gal.powE (Blk.elem n p) (i : Nat))) (by simp only [execOp, e1, S.t8 D8]; go_simp) (hK _ _ ?_)
      rw [e2]
      exact ⟨S.off.put (by decide) _, S.before, kp S.t0, kp S.t1, kp S.t2, kp S.t3, kp S.t4, kp S.t5, kp S.t6, kp S.t7, kp S.t8, kp S.t9, fun _ => (eval_put _ _ _ (by omega)).trans rfl, kp S.t11⟩
    | 11, _, ho, hsi, hT =>
      obtain ⟨e1, e2⟩ := pick_of h11 ho
      have D9 : s 9 = true := list_pos hT (d := 9) (by decide)
      have BW := S.before
      refine step_val (v := .int .u8 ((Gal.powV (Blk.elem n p) (i : Nat)).toNat : Nat)) (by simp only [execOp, e1, S.t9 D9]; go_simp) (hK _ _ ?_)
      rw [e2]
      exact ⟨S.off.put (by decide) _, S.before, kp S.t0, kp S.t1, kp S.t2, kp S.t3, kp S.t4, kp S.t5, kp S.t6, kp S.t7, kp S.t8, kp S.t9, kp S.t10, fun _ => (eval_put _ _ _ (by omega)).trans rfl⟩
    | _ + 12, il, _, _, _ => exact absurd il (by omega)
  · intro s a w' S hall
    have a0 := hall 0 (by omega)
    have a1 := hall 1 (by omega)
    have a2 := hall 2 (by omega)
    have a3 := hall 3 (by omega)
    have a4 := hall 4 (by omega)
    have a5 := hall 5 (by omega)
    have a6 := hall 6 (by omega)
    have a7 := hall 7 (by omega)
    have a8 := hall 8 (by omega)
    have a9 := hall 9 (by omega)
    have a10 := hall 10 (by omega)
    have a11 := hall 11 (by omega)
    have e := off_norm _ (by intro d hd; simp at hd; omega) S.off
    simp only [List.foldl, S.t0 a0, S.t1 a1, S.t2 a2, S.t3 a3, S.t4 a4, S.t5 a5, S.t6 a6, S.t7 a7, S.t8 a8, S.t9 a9, S.t10 a10, S.t11 a11] at e
    rw [e]
    exact h _ S.before
set_option maxRecDepth 100000 in
theorem cor2_any (plb syb bx pb b cb eb ce n i j : Nat) (f : Nat → BitVec 8) (l : List Nat) (vp : Value) (hn : n ≤ 231) (hl : l.length ≤ 231) (hp : ∀ p, p ∈ l → p < n) (hi : i ≤ 1000) (hj : j ≤ l.length) (w : World) (H : CapW w plb syb bx pb b cb eb ce n f l vp) :
    Calls Tryz.prog 73 (#[] ++ #[.int .i64 (i : Nat), .int .i64 (j : Nat)] ++ #[.pointer (some ⟨plb, 0, none⟩), .pointer (some ⟨syb, 0, none⟩), .pointer (some ⟨bx, 0, none⟩)]) w fun e w' => e = .returned (.int .u8 ((Blk.mendM (Gal.coefs f n) l i j).toNat : Nat)) ∧ Below w.heap.size w w' := by
  show Calls Tryz.prog 73 #[.int .i64 (i : Nat), .int .i64 (j : Nat), .pointer (some ⟨plb, 0, none⟩), .pointer (some ⟨syb, 0, none⟩), .pointer (some ⟨bx, 0, none⟩)] w _
  obtain ⟨base, ho⟩ := H.own
  obtain ⟨ap, cp, rfl⟩ := own_shape ho
  by_cases e : j = l.length
  · have SE := Lib.hid (show Calls Tryz.prog 89 #[.int .i64 (i : Nat), .pointer (some ⟨pb, 0, none⟩)] w _ from syn1_any pb i ⟨(Gal.coefs f n).reverse.toArray⟩ (Gal.coefs f n) rfl (by rw [Gal.coefs_length]; omega) w H.lpb H.st)
    have hcp := H.p
    have hcs := H.s
    have B0 := Lib.hid (Below.refl w.heap.size w)
    rw [show Blk.mendM (Gal.coefs f n) l i j = Blk.syn (Gal.coefs f n) i from if_neg (by omega)]
    obtain ⟨m, hm⟩ : ∃ m, l.length = m := ⟨_, rfl⟩
    rw [hm] at hcp e
    obtain rfl := e
    have x1 : ((j : Int) == (j : Int)) = true := by simp
    have m2 : j ≤ 231 := by omega
    obtain ⟨v, hv⟩ : ∃ v, (Blk.syn (Gal.coefs f n) i).toNat = v := ⟨_, rfl⟩
    rw [hv] at SE ⊢
    clear H ho hv hm hp hj hl
    go_enter Tryz.func73, Tryz.ntmps73
    go_wp2_with fail
    (with_reducible refine SE.out.mono ?_)
    rintro e w' ⟨rfl, h1⟩
    have HB := Lib.hid h1
    clear h1 hcp hcs SE
    go_wp2_with fail
    go_ret
    exact ⟨rfl, HB.out⟩
  · obtain ⟨m, hm⟩ : ∃ m, l.length = m := ⟨_, rfl⟩
    have hjm : j < m := by omega
    have ho2 := ho
    rw [hm] at ho2
    obtain ⟨gl, cp', hap⟩ := ownsRow_succ (k := m - 1) (by rw [show m - 1 + 1 = m by omega]; exact ho2)
    simp only [Value.slice.injEq] at hap
    obtain ⟨rfl, hzz, rfl⟩ := hap
    clear hzz
    obtain ⟨hgl, hcells⟩ := own_ints ho
    have hcl := hcells j (by omega)
    have hpn : l.getD j 0 < n := hp _ (by
      rw [List.getD_eq_getElem?_getD, List.getElem?_eq_getElem (by omega), Option.getD_some]
      exact List.getElem_mem _)
    rw [show Blk.mendM (Gal.coefs f n) l i j = Gal.powV (Blk.elem n (l.getD j 0)) (i : Nat) by
      unfold Blk.mendM
      rw [if_pos (by omega), Gal.coefs_length, Blk.powV_elem]]
    obtain ⟨p, hpp⟩ : ∃ p, l.getD j 0 = p := ⟨_, rfl⟩
    rw [hpp] at hcl hpn ⊢
    have hcp := H.p
    rw [hm] at hcp
    have lp := H.lp
    have lx := H.lx
    have x0 := H.x0
    have x1 := H.x1
    have HX0 := Lib.hid x0
    have HX1 := Lib.hid x1
    have HCL := Lib.hid hcl
    have ne : ¬ j = m := by omega
    have ne2 : (j == m) = false := by simpa using ne
    have m2 : m ≤ 231 := by omega
    obtain ⟨v, hv⟩ : ∃ v, (Gal.powV (Blk.elem n p) (i : Nat)).toNat = v := ⟨_, rfl⟩
    rw [hv]
    have HV := Lib.hid hv
    have HLP := Lib.hid lp
    have HLX := Lib.hid lx
    have HGL := Lib.hid hgl
    have HCP := Lib.hid hcp
    clear H ho ho2 hcells hm hp hl hpp e x0 x1 hcl hv lp lx hgl
    go_enter Tryz.func73, Tryz.ntmps73
    go_upto_region 3 with fail
    refine cpRegion plb bx b cb eb ce n gl cp m i j p (by omega) hpn hjm (by omega) HLX.out HX0.out HX1.out HLP.out HCP.out HGL.out HCL.out (by kernel_rfl) rfl rfl rfl rfl rfl rfl rfl rfl rfl rfl rfl rfl rfl rfl rfl rfl rfl ?_
    intro w1 B1
    simp only [Act.put, List.setIfInBounds_toArray, List.set_cons_succ, List.set_cons_zero, List.drop_succ_cons, List.drop_zero]
    have HB := Lib.hid B1
    obtain ⟨v2, hv2⟩ : ∃ v, Gal.powE (Blk.elem n p) (i : Nat) = v := ⟨_, rfl⟩
    rw [HV.out, hv2]
    clear hv2 B1 hcp
    go_wp2_with fail
    go_ret
    exact ⟨rfl, HB.out⟩
theorem own_cap {w : World} {base e size b n cap : Nat} {xs : List Value} (h : w.ownsRow base e size (.slice (some ⟨b, 0, none⟩) n cap) n xs) : n ≤ cap := by
  rcases h.2 with ⟨hv, _⟩ | ⟨g, c, cur, hv, hb, hg, hnc, _⟩
  · simp at hv
  · simp only [Value.slice.injEq, Option.some.injEq, Addr.mk.injEq] at hv
    obtain ⟨_, _, rfl⟩ := hv
    exact hnc
/-- What Clone does. -/
def CloP (n : Nat) (f : Nat → BitVec 8) (w : World) (e : Ending) (w' : World) : Prop :=
  ∃ g cc, e = .returned (.slice (some ⟨g, 0, none⟩) n cc) ∧ n ≤ cc ∧ w.heap.size ≤ g ∧ NumsK .u8 w' g n (fun j => (f j).toNat) ∧ Below w.heap.size w w'
set_option maxRecDepth 100000 in
theorem clone_any (b cb n : Nat) (f : Nat → BitVec 8) (h1 : 1 ≤ n) (hn : n ≤ 1000) (w : World) (H : NumsK .u8 w b n (fun j => (f j).toNat)) :
    Calls Tryz.prog 76 #[.slice (some ⟨b, 0, none⟩) n cb] w (CloP n f w) := by
  have qT : ∀ (w : World) (a : Option Addr) (n c n' c' : Nat), (binOp .eql 41 (.slice a n c) (.slice none n' c')).run Tryz.prog w = .ok (.bool a.isNone) w := fun w a n c n' c' => Lib.run_eql_slice_nil w _ _ a n c n' c' Tryz.underlying41
  have OL := Lib.hid (show ∀ j u, (vals f n)[j]? = some u → (w.alloc (.cells #[] 5)).cell? ((⟨b, 0, none⟩ : Addr).add j) = some u from fun j u hu => by
    rw [addr_add, Nat.zero_add]
    have hj : j < n := by
      have := (List.getElem?_eq_some_iff.1 hu).1
      simpa [vals] using this
    rw [vals_at f hj] at hu
    cases hu
    exact (H.alloc _).cell hj)
  have B0 := Lib.hid (ba (Below.refl w.heap.size w) (.cells #[] 5))
  have FIN := Lib.hid (show ∀ v w2, w2.ownsRow (w.alloc (.cells #[] 5)).heap.size 5 1 v (0 + n) ([] ++ vals f n) → (w.alloc (.cells #[] 5)).grownBy w2 none → CloP n f w (.returned v) w2 from fun v w2 h hg => by
    rw [Nat.zero_add, List.nil_append] at h
    obtain ⟨g, cc, rfl⟩ := ownsRow_succ (k := n - 1) (by rw [show n - 1 + 1 = n by omega]; exact h)
    rw [show n - 1 + 1 = n by omega] at h ⊢
    have := (own_at h).1
    have sz := B0.out.size
    exact ⟨g, cc, rfl, own_cap h, by omega, own_row h, B0.out.grown hg B0.out.size (fun k e => by cases e)⟩)
  have VL := Lib.hid (show (vals f n).length = n * 1 by simp [vals])
  have V1 := Lib.hid (show ∀ u ∈ vals f n, u.oneCell' = true from fun u hu => by
    unfold vals at hu
    obtain ⟨i, _, rfl⟩ := List.mem_map.1 hu
    rfl)
  obtain ⟨i0, hi0, hz0, hz1, hz2⟩ := info_parts info_u8
  clear H
  go_enter Tryz.func76, Tryz.ntmps76
  go_wp2_with (at_builtin; refine wpList_append_grows _ rfl _ _ 41 rfl 5 i0 (.int .u8 0) 1 1 Tryz.underlying41 hi0 hz0 hz1 hz2 rfl (by decide) (some ⟨w.heap.size, 0, none⟩) 0 0 [] rfl (fun h => by cases h) rfl (fun b hb j u hu => by simp at hu) ⟨b, 0, none⟩ n cb (vals f n) rfl VL.out OL.out V1.out (by omega) (by unfold maxLen; omega) (by omega) ?_; intro v' w2 hown2 hgrow; have HH := Lib.hid (FIN.out v' w2 hown2 hgrow); clear hown2 hgrow)
  go_ret
  exact HH.out
end Go.Proofs.YtlpjhmafplljaaaGreatDoor
