/- Layer 8, the landed program: the closure that hands out a block, Clone, the finder within Feed, the drawn regions of take. -/
import Derived.Test.YtlfnglinalmpjaaMkPDrop
namespace Go.Proofs.Ytlfnglinalmpjaa
open Go.RowKit
set_option linter.unusedVariables false

/-- slices.Clone of some numbers. -/
theorem cloneI_any (n0 g off n c : Nat) (news : List Value) (hl : news.length = n) (h0 : 0 < n) (hn : n ≤ 1000000) (w : World) (hb : n0 ≤ w.heap.size)
    (hnews : ∀ j u, news[j]? = some u → w.cell? ⟨g, off + j, none⟩ = some u) (h1 : ∀ u ∈ news, u.oneCell' = true) :
    Calls Try.prog 47 #[.slice (some ⟨g, off, none⟩) n c] w fun e w' => ∃ v, e = .returned v ∧ OwnI n0 n news v w' ∧ Below w.heap.size w w' := by
  have qT : (binOp .eql 29 (.slice (some ⟨g, off, none⟩) n c) (.slice none 0 0)).run Try.prog w = .ok (.bool false) w := eql_nil w (some ⟨g, off, none⟩) n c
  have lg : g < w.heap.size := by
    have h := hnews 0 (news[0]'(by omega)) (List.getElem?_eq_getElem (by omega))
    apply Nat.lt_of_not_le
    intro hh
    have := Array.getElem?_eq_none hh
    simp [World.cell?, this] at h
  have B0 := Lib.hid (ba (Below.refl w.heap.size w) (.cells #[] 3))
  have OL := Lib.hid (show ∀ j u, news[j]? = some u → (w.alloc (.cells #[] 3)).cell? ((⟨g, off, none⟩ : Addr).add j) = some u from fun j u hu => by
    rw [add_off]
    exact (B0.out.cell (p := ⟨g, off + j, none⟩) lg).trans (hnews j u hu))
  have FIN := Lib.hid (show ∀ v w2, w2.ownsRow (w.alloc (.cells #[] 3)).heap.size 3 1 v (0 + n) ([] ++ news) → (w.alloc (.cells #[] 3)).grownBy w2 none → ∃ x, Ending.returned v = .returned x ∧ OwnI n0 n news x w2 ∧ Below w.heap.size w w2 from fun v w2 h hg => by
    rw [Nat.zero_add, List.nil_append] at h
    exact ⟨v, rfl, own_mono h (Nat.le_trans hb B0.out.size), B0.out.grown hg B0.out.size (fun k e => by cases e)⟩)
  have VL := Lib.hid (show news.length = n * 1 by omega)
  have V1 := Lib.hid h1
  obtain ⟨i0, hi0, hz0, hz1, hz2⟩ := info_parts info_i64
  clear h1 hl hnews hb
  go_enter Try.func47, Try.ntmps47
  go_wp2_with (at_builtin; refine wpList_append_grows _ rfl _ _ 29 rfl 3 i0 (.int .i64 0) 1 8 Try.underlying29 hi0 hz0 hz1 hz2 rfl (by decide) (some ⟨w.heap.size, 0, none⟩) 0 0 [] rfl (fun h => by cases h) rfl (fun b hb j u hu => by simp at hu) ⟨g, off, none⟩ n c news rfl VL.out OL.out V1.out (by omega) (by unfold maxLen; omega) (by omega) ?_; intro v' w2 hown2 hgrow; have HH := Lib.hid (FIN.out v' w2 hown2 hgrow); clear hown2 hgrow)
  go_ret
  exact HH.out
/-- The closure that appends a block: contract. -/
def HandP (Q0 n0 n : Nat) (bv : Value) (cs : List Value) (p wr : Nat) (sv : Value) (w : World) (e : Ending) (w' : World) : Prop :=
  ∃ bv', e = .returned (.tuple #[]) ∧ Cel w' Q0 1 (fun _ => bv') ∧ w'.ownsRow n0 50 3 bv' (n + 1) (cs ++ [.int .i64 (p : Nat), .int .i64 (wr : Nat), sv]) ∧
    (∀ k, bv'.ownBlock = some k → bv.ownBlock = some k ∨ w.heap.size ≤ k) ∧ Buts (fun k => k = Q0 ∨ bv.ownBlock = some k) w w'
set_option maxRecDepth 100000 in
set_option maxHeartbeats 1000000 in
theorem hand_any (Q0 n0 n : Nat) (bv : Value) (cs : List Value) (p wr m sc : Nat) (sa : Option Addr) (hn : n ≤ 1000000) (hQ : bv.ownBlock ≠ some Q0) (w : World) (hb : n0 ≤ w.heap.size) (C : Cel w Q0 1 (fun _ => bv)) (R : w.ownsRow n0 50 3 bv n cs) :
    Calls Try.prog 37 #[.agg #[.int .i64 (p : Nat), .int .i64 (wr : Nat), .slice sa m sc], .pointer (some ⟨Q0, 0, none⟩)] w (HandP Q0 n0 n bv cs p wr (.slice sa m sc) w) := by
  obtain ⟨j0, hj0, hy0, hy1, hy2⟩ := info_parts info_block
  obtain ⟨ba0, bc0, rfl⟩ := own_is R
  have HQ := Lib.hid hQ
  have HC := Lib.hid C
  have HR := Lib.hid R
  have HB := Lib.hid hb
  clear C R hQ hb
  go_enter Try.func37, Try.ntmps37
  go_upto_region 1 with fail
  obtain ⟨w1, hw1⟩ : ∃ w1, w.alloc (.cells #[.int .i64 (p : Nat), .int .i64 (wr : Nat), .slice sa m sc] 50) = w1 := ⟨_, rfl⟩
  obtain ⟨z, hz⟩ : ∃ z, w.heap.size = z := ⟨_, rfl⟩
  have cz : ∀ j, w1.cell? ⟨z, j, none⟩ = (#[.int .i64 (p : Nat), .int .i64 (wr : Nat), .slice sa m sc] : Array Value)[j]? := fun j => by rw [← hw1, ← hz, World.cell?_alloc_new]
  have b1 : w1.cell? ⟨z, 0, none⟩ = some (.int .i64 (p : Nat)) := cz 0
  have b2 : w1.cell? ⟨z, 1, none⟩ = some (.int .i64 (wr : Nat)) := cz 1
  have b3 : w1.cell? ⟨z, 2, none⟩ = some (.slice sa m sc) := cz 2
  have B1 := Lib.hid (show Below w.heap.size w w1 from hw1 ▸ ba (Below.refl _ _) _)
  have C1 := Lib.hid (HC.out.below B1.out)
  have R1 := Lib.hid (own_below HR.out B1.out)
  have c0 := C1.out.cell (j := 0) (by omega)
  rw [hw1, hz]
  clear cz hw1 hz
  obtain ⟨w2, hw2⟩ : ∃ w2, w1.alloc (.cells #[.int .i64 (p : Nat), .int .i64 (wr : Nat), .slice sa m sc] 50) = w2 := ⟨_, rfl⟩
  have B2 := Lib.hid (show Below w.heap.size w w2 from hw2 ▸ ba B1.out _)
  have B12 := Lib.hid (show Below w1.heap.size w1 w2 from hw2 ▸ ba (Below.refl _ _) _)
  have NC := Lib.hid (show ∀ j u, ([.int .i64 (p : Nat), .int .i64 (wr : Nat), .slice sa m sc] : List Value)[j]? = some u → w2.cell? ((⟨w1.heap.size, 0, none⟩ : Addr).add j) = some u from fun j u hu => by
    rw [add_off, Nat.zero_add, ← hw2, World.cell?_alloc_new]
    simpa using hu)
  have C2 := Lib.hid (C1.out.below B12.out)
  have R2 := Lib.hid (own_below R1.out B12.out)
  have HW2 := Lib.hid hw2
  have SZ := Lib.hid (Nat.le_trans HB.out B2.out.size)
  clear hw2 C1 R1 HC HR
  go_wp2_with (first
    | (at_builtin; refine wpList_append_own2 rfl _ _ 40 rfl n0 50 j0 (.agg #[.int .i64 0, .int .i64 0, .slice none 0 0]) 3 40 Try.underlying40 hj0 hy0 hy1 hy2 rfl (by decide) _ _ _ rfl R2.out ⟨w1.heap.size, 0, none⟩ 1 1 [.int .i64 (p : Nat), .int .i64 (wr : Nat), .slice sa m sc] rfl rfl NC.out (fun u hu => by simp at hu; rcases hu with rfl | rfl | rfl <;> rfl) (by unfold maxLen; omega) (by omega) SZ.out ?_; intro bv2 w3 hown3 hgrow3 hblk3; obtain ⟨b2a, b2c, rfl⟩ := own_is hown3; have C3 := C2.out.of_block (hgrow3.block Q0 C2.out.1 (fun e => HQ.out e.symm)); have m0 := C3.cell (j := 0) (by omega); have z0 := C3.frozen (j := 0) (by omega); have HC3 := Lib.hid C3; have HO3 := Lib.hid hown3; have HG3 := Lib.hid hgrow3; have HK3 := Lib.hid hblk3; clear C3 hown3 hgrow3 hblk3)
    | simp only [HW2.out])
  go_end0
  have nq : ∀ k, (Value.slice b2a (n + 1) b2c).ownBlock = some k → (Value.slice ba0 n bc0).ownBlock = some k ∨ w.heap.size ≤ k := fun k hk => by
    rcases HK3.out with g | g
    · exact .inl (g.symm.trans hk)
    · have h3 : some k = some w2.heap.size := hk.symm.trans g
      have := B2.out.size
      simp only [Option.some.injEq] at h3
      exact .inr (by omega)
  have nQ : (Value.slice b2a (n + 1) b2c).ownBlock ≠ some Q0 := fun q => by
    rcases HK3.out with g | g
    · exact HQ.out (g.symm.trans q)
    · have h3 : some Q0 = some w2.heap.size := q.symm.trans g
      have := C2.out.1
      simp only [Option.some.injEq] at h3
      omega
  refine ⟨(Value.slice b2a (n + 1) b2c), rfl, (HC3.out.set 0 (Value.slice b2a (n + 1) b2c)).congr (fun j hj => if_pos (by omega)), own_keep HO3.out (fun k hk _ => Below.heap_setCell _ _ _ _ (fun e => nQ (by rw [hk, e]))), nq, ?_⟩
  exact ((Buts.of_below B2.out).trans (Buts.of_grown HG3.out (fun k hk => .inr hk))).trans (Buts.of_but ((But.refl Q0 w3).setCell 0 (Value.slice b2a (n + 1) b2c)) (.inl rfl))
structure TkRegion (P g m cap : Nat) (ks : List Int) (fo : Bool) (A : Act) (w0 : World) (s : Nat → Bool) (a : Act) (w : World) : Prop where
  off : Off [25, 26, 27, 28, 29, 30, 31, 32, 33] a A
  before : Below w0.heap.size w0 w
  t0 : s 0 = true → a.eval (.tmp 25) = .pointer (some ⟨P, 0, none⟩)
  t1 : s 1 = true → a.eval (.tmp 26) = .pointer (some ⟨P, 0, none⟩)
  t2 : s 2 = true → a.eval (.tmp 27) = .pointer (some ⟨P, 0, none⟩)
  t3 : s 3 = true → a.eval (.tmp 28) = .pointer (some ⟨P, 0, none⟩)
  t4 : s 4 = true → a.eval (.tmp 29) = .pointer (some ⟨P, 0, none⟩)
  t5 : s 5 = true → a.eval (.tmp 30) = .pointer (some ⟨P, 5, none⟩)
  t6 : s 6 = true → a.eval (.tmp 31) = .slice (some ⟨g, 0, none⟩) m cap
  t7 : s 7 = true → a.eval (.tmp 32) = .int .i64 (Mk.wrongAt (fz ks) 0 32 : Nat)
  t8 : s 8 = true → a.eval (.tmp 33) = .bool fo
set_option maxHeartbeats 2000000 in
set_option maxRecDepth 100000 in
theorem tkRegion {id : Nat} {l : List Oper} {A : Act} {w : World} {Q : Exit → Act → World → Prop} (P g m cap : Nat) (ks : List Int) (fo : Bool)
    (hkl : ks.length = m) (h32 : 32 ≤ m) (hc : m ≤ cap) (hl : cap ≤ maxLen) (lP : P < w.heap.size) (RI : Ints w (some ⟨g, 0, none⟩) ks)
    (c5 : w.cell? ⟨P, 5, none⟩ = some (.slice (some ⟨g, 0, none⟩) m cap))
    (hfo : decide (Mk.wrongAt (fz ks) 0 32 ≤ 2) = fo)
    (hB : tableH l.toArray 9 (fun i => match i with | 0 => [] | 1 => [0] | 2 => [1] | 3 => [] | 4 => [3] | 5 => [4] | 6 => [5] | 7 => [6] | 8 => [7] | _ => []) (fun _ => []) = true)
    (h0 : pick l 0 = some (.move (.tmp 0), some 25))
    (h1 : pick l 1 = some (.nilCheck (.tmp 25), some 26))
    (h2 : pick l 2 = some (.fieldAddr 63 (.tmp 26) 0, some 27))
    (h3 : pick l 3 = some (.move (.tmp 0), some 28))
    (h4 : pick l 4 = some (.nilCheck (.tmp 28), some 29))
    (h5 : pick l 5 = some (.fieldAddr 63 (.tmp 29) 3, some 30))
    (h6 : pick l 6 = some (.load 29 (.tmp 30), some 31))
    (h7 : pick l 7 = some (.call { callee := .value (.func 45), args := #[.tmp 31], argTypes := #[29] }, some 32))
    (h8 : pick l 8 = some (.binOp .leq 3 (.tmp 32) (.const (.int .i64 2)) 3, some 33))
    (hs : A.tmps.size = 85)
    (x0 : A.eval (.tmp 0) = .pointer (some ⟨P, 0, none⟩))
    (h : ∀ w1, Below w.heap.size w w1 → wpList Try.prog l.toArray Q (l.drop 9) (((((((((A.put (some 25) (.pointer (some ⟨P, 0, none⟩))).put (some 26) (.pointer (some ⟨P, 0, none⟩))).put (some 27) (.pointer (some ⟨P, 0, none⟩))).put (some 28) (.pointer (some ⟨P, 0, none⟩))).put (some 29) (.pointer (some ⟨P, 0, none⟩))).put (some 30) (.pointer (some ⟨P, 5, none⟩))).put (some 31) (.slice (some ⟨g, 0, none⟩) m cap)).put (some 32) (.int .i64 (Mk.wrongAt (fz ks) 0 32 : Nat))).put (some 33) (.bool fo)) w1) :
    (Code.region id l.toArray true).wp Try.prog Q A w := by
  refine wp_region_head (by kernel_rfl) _ _ _ hB (TkRegion P g m cap ks fo A w) ⟨Off.refl _ _, (Below.refl _ _).drew, by simp, by simp, by simp, by simp, by simp, by simp, by simp, by simp, by simp⟩ ?_ ?_
  · intro s a w' S i' o il ho hsi hT K hK
    have sz : a.tmps.size = 85 := by rw [S.off.2.1]; exact hs
    have y0 : a.eval (.tmp 0) = .pointer (some ⟨P, 0, none⟩) := by rw [S.off.eval (by decide)]; exact x0
    match i', il, ho, hsi, hT with
    | 0, _, ho, hsi, hT =>
      obtain ⟨e1, e2⟩ := pick_of h0 ho
      have BW := S.before
      refine step_val (v := .pointer (some ⟨P, 0, none⟩)) (by simp only [execOp, e1, y0]; go_simp) (hK _ _ ?_)
      rw [e2]
      exact ⟨S.off.put (by decide) _, S.before, fun _ => (eval_put _ _ _ (by omega)).trans rfl, fun g => by rw [eval_put_ne _ _ _ _ (by decide)]; exact S.t1 (by simpa using g), fun g => by rw [eval_put_ne _ _ _ _ (by decide)]; exact S.t2 (by simpa using g), fun g => by rw [eval_put_ne _ _ _ _ (by decide)]; exact S.t3 (by simpa using g), fun g => by rw [eval_put_ne _ _ _ _ (by decide)]; exact S.t4 (by simpa using g), fun g => by rw [eval_put_ne _ _ _ _ (by decide)]; exact S.t5 (by simpa using g), fun g => by rw [eval_put_ne _ _ _ _ (by decide)]; exact S.t6 (by simpa using g), fun g => by rw [eval_put_ne _ _ _ _ (by decide)]; exact S.t7 (by simpa using g), fun g => by rw [eval_put_ne _ _ _ _ (by decide)]; exact S.t8 (by simpa using g)⟩
    | 1, _, ho, hsi, hT =>
      obtain ⟨e1, e2⟩ := pick_of h1 ho
      have D0 : s 0 = true := list_pos hT (d := 0) (by decide)
      have BW := S.before
      refine step_val (v := .pointer (some ⟨P, 0, none⟩)) (by simp only [execOp, e1, S.t0 D0]; go_simp) (hK _ _ ?_)
      rw [e2]
      exact ⟨S.off.put (by decide) _, S.before, fun g => by rw [eval_put_ne _ _ _ _ (by decide)]; exact S.t0 (by simpa using g), fun _ => (eval_put _ _ _ (by omega)).trans rfl, fun g => by rw [eval_put_ne _ _ _ _ (by decide)]; exact S.t2 (by simpa using g), fun g => by rw [eval_put_ne _ _ _ _ (by decide)]; exact S.t3 (by simpa using g), fun g => by rw [eval_put_ne _ _ _ _ (by decide)]; exact S.t4 (by simpa using g), fun g => by rw [eval_put_ne _ _ _ _ (by decide)]; exact S.t5 (by simpa using g), fun g => by rw [eval_put_ne _ _ _ _ (by decide)]; exact S.t6 (by simpa using g), fun g => by rw [eval_put_ne _ _ _ _ (by decide)]; exact S.t7 (by simpa using g), fun g => by rw [eval_put_ne _ _ _ _ (by decide)]; exact S.t8 (by simpa using g)⟩
    | 2, _, ho, hsi, hT =>
      obtain ⟨e1, e2⟩ := pick_of h2 ho
      have D1 : s 1 = true := list_pos hT (d := 1) (by decide)
      have BW := S.before
      refine step_val (v := .pointer (some ⟨P, 0, none⟩)) (by simp only [execOp, e1, S.t1 D1]; go_simp) (hK _ _ ?_)
      rw [e2]
      exact ⟨S.off.put (by decide) _, S.before, fun g => by rw [eval_put_ne _ _ _ _ (by decide)]; exact S.t0 (by simpa using g), fun g => by rw [eval_put_ne _ _ _ _ (by decide)]; exact S.t1 (by simpa using g), fun _ => (eval_put _ _ _ (by omega)).trans rfl, fun g => by rw [eval_put_ne _ _ _ _ (by decide)]; exact S.t3 (by simpa using g), fun g => by rw [eval_put_ne _ _ _ _ (by decide)]; exact S.t4 (by simpa using g), fun g => by rw [eval_put_ne _ _ _ _ (by decide)]; exact S.t5 (by simpa using g), fun g => by rw [eval_put_ne _ _ _ _ (by decide)]; exact S.t6 (by simpa using g), fun g => by rw [eval_put_ne _ _ _ _ (by decide)]; exact S.t7 (by simpa using g), fun g => by rw [eval_put_ne _ _ _ _ (by decide)]; exact S.t8 (by simpa using g)⟩
    | 3, _, ho, hsi, hT =>
      obtain ⟨e1, e2⟩ := pick_of h3 ho
      have BW := S.before
      refine step_val (v := .pointer (some ⟨P, 0, none⟩)) (by simp only [execOp, e1, y0]; go_simp) (hK _ _ ?_)
      rw [e2]
      exact ⟨S.off.put (by decide) _, S.before, fun g => by rw [eval_put_ne _ _ _ _ (by decide)]; exact S.t0 (by simpa using g), fun g => by rw [eval_put_ne _ _ _ _ (by decide)]; exact S.t1 (by simpa using g), fun g => by rw [eval_put_ne _ _ _ _ (by decide)]; exact S.t2 (by simpa using g), fun _ => (eval_put _ _ _ (by omega)).trans rfl, fun g => by rw [eval_put_ne _ _ _ _ (by decide)]; exact S.t4 (by simpa using g), fun g => by rw [eval_put_ne _ _ _ _ (by decide)]; exact S.t5 (by simpa using g), fun g => by rw [eval_put_ne _ _ _ _ (by decide)]; exact S.t6 (by simpa using g), fun g => by rw [eval_put_ne _ _ _ _ (by decide)]; exact S.t7 (by simpa using g), fun g => by rw [eval_put_ne _ _ _ _ (by decide)]; exact S.t8 (by simpa using g)⟩
    | 4, _, ho, hsi, hT =>
      obtain ⟨e1, e2⟩ := pick_of h4 ho
      have D3 : s 3 = true := list_pos hT (d := 3) (by decide)
      have BW := S.before
      refine step_val (v := .pointer (some ⟨P, 0, none⟩)) (by simp only [execOp, e1, S.t3 D3]; go_simp) (hK _ _ ?_)
      rw [e2]
      exact ⟨S.off.put (by decide) _, S.before, fun g => by rw [eval_put_ne _ _ _ _ (by decide)]; exact S.t0 (by simpa using g), fun g => by rw [eval_put_ne _ _ _ _ (by decide)]; exact S.t1 (by simpa using g), fun g => by rw [eval_put_ne _ _ _ _ (by decide)]; exact S.t2 (by simpa using g), fun g => by rw [eval_put_ne _ _ _ _ (by decide)]; exact S.t3 (by simpa using g), fun _ => (eval_put _ _ _ (by omega)).trans rfl, fun g => by rw [eval_put_ne _ _ _ _ (by decide)]; exact S.t5 (by simpa using g), fun g => by rw [eval_put_ne _ _ _ _ (by decide)]; exact S.t6 (by simpa using g), fun g => by rw [eval_put_ne _ _ _ _ (by decide)]; exact S.t7 (by simpa using g), fun g => by rw [eval_put_ne _ _ _ _ (by decide)]; exact S.t8 (by simpa using g)⟩
    | 5, _, ho, hsi, hT =>
      obtain ⟨e1, e2⟩ := pick_of h5 ho
      have D4 : s 4 = true := list_pos hT (d := 4) (by decide)
      have BW := S.before
      refine step_val (v := .pointer (some ⟨P, 5, none⟩)) (by simp only [execOp, e1, S.t4 D4]; go_simp) (hK _ _ ?_)
      rw [e2]
      exact ⟨S.off.put (by decide) _, S.before, fun g => by rw [eval_put_ne _ _ _ _ (by decide)]; exact S.t0 (by simpa using g), fun g => by rw [eval_put_ne _ _ _ _ (by decide)]; exact S.t1 (by simpa using g), fun g => by rw [eval_put_ne _ _ _ _ (by decide)]; exact S.t2 (by simpa using g), fun g => by rw [eval_put_ne _ _ _ _ (by decide)]; exact S.t3 (by simpa using g), fun g => by rw [eval_put_ne _ _ _ _ (by decide)]; exact S.t4 (by simpa using g), fun _ => (eval_put _ _ _ (by omega)).trans rfl, fun g => by rw [eval_put_ne _ _ _ _ (by decide)]; exact S.t6 (by simpa using g), fun g => by rw [eval_put_ne _ _ _ _ (by decide)]; exact S.t7 (by simpa using g), fun g => by rw [eval_put_ne _ _ _ _ (by decide)]; exact S.t8 (by simpa using g)⟩
    | 6, _, ho, hsi, hT =>
      obtain ⟨e1, e2⟩ := pick_of h6 ho
      have D5 : s 5 = true := list_pos hT (d := 5) (by decide)
      have BW := S.before
      have cl := (BW.cell (p := ⟨P, 5, none⟩) lP).trans c5
      refine step_val (v := .slice (some ⟨g, 0, none⟩) m cap) (by simp only [execOp, e1, S.t5 D5]; go_simp) (hK _ _ ?_)
      rw [e2]
      exact ⟨S.off.put (by decide) _, S.before, fun g => by rw [eval_put_ne _ _ _ _ (by decide)]; exact S.t0 (by simpa using g), fun g => by rw [eval_put_ne _ _ _ _ (by decide)]; exact S.t1 (by simpa using g), fun g => by rw [eval_put_ne _ _ _ _ (by decide)]; exact S.t2 (by simpa using g), fun g => by rw [eval_put_ne _ _ _ _ (by decide)]; exact S.t3 (by simpa using g), fun g => by rw [eval_put_ne _ _ _ _ (by decide)]; exact S.t4 (by simpa using g), fun g => by rw [eval_put_ne _ _ _ _ (by decide)]; exact S.t5 (by simpa using g), fun _ => (eval_put _ _ _ (by omega)).trans rfl, fun g => by rw [eval_put_ne _ _ _ _ (by decide)]; exact S.t7 (by simpa using g), fun g => by rw [eval_put_ne _ _ _ _ (by decide)]; exact S.t8 (by simpa using g)⟩
    | 7, _, ho, hsi, hT =>
      obtain ⟨e1, e2⟩ := pick_of h7 ho
      have D6 : s 6 = true := list_pos hT (d := 6) (by decide)
      have BW := S.before
      refine step_call 45 (fun args w => by go_simp) _ _ e1 #[.slice (some ⟨g, 0, none⟩) m cap] (by simp only [List.map_toArray, List.map_cons, List.map_nil, S.t6 D6]) ((wrongBits_any (some ⟨g, 0, none⟩) cap ks m hkl h32 hc hl w' (RI.below BW)).mono ?_)
      rintro e w2 ⟨rfl, BB⟩
      refine ⟨_, rfl, hK _ _ ?_⟩
      rw [e2]
      exact ⟨S.off.put (by decide) _, bt BW BB, fun g => by rw [eval_put_ne _ _ _ _ (by decide)]; exact S.t0 (by simpa using g), fun g => by rw [eval_put_ne _ _ _ _ (by decide)]; exact S.t1 (by simpa using g), fun g => by rw [eval_put_ne _ _ _ _ (by decide)]; exact S.t2 (by simpa using g), fun g => by rw [eval_put_ne _ _ _ _ (by decide)]; exact S.t3 (by simpa using g), fun g => by rw [eval_put_ne _ _ _ _ (by decide)]; exact S.t4 (by simpa using g), fun g => by rw [eval_put_ne _ _ _ _ (by decide)]; exact S.t5 (by simpa using g), fun g => by rw [eval_put_ne _ _ _ _ (by decide)]; exact S.t6 (by simpa using g), fun _ => (eval_put _ _ _ (by omega)).trans rfl, fun g => by rw [eval_put_ne _ _ _ _ (by decide)]; exact S.t8 (by simpa using g)⟩
    | 8, _, ho, hsi, hT =>
      obtain ⟨e1, e2⟩ := pick_of h8 ho
      have D7 : s 7 = true := list_pos hT (d := 7) (by decide)
      have BW := S.before
      refine step_val (v := .bool fo) (by simp only [execOp, e1, S.t7 D7]; go_simp; rw [← hfo]; simp; omega) (hK _ _ ?_)
      rw [e2]
      exact ⟨S.off.put (by decide) _, S.before, fun g => by rw [eval_put_ne _ _ _ _ (by decide)]; exact S.t0 (by simpa using g), fun g => by rw [eval_put_ne _ _ _ _ (by decide)]; exact S.t1 (by simpa using g), fun g => by rw [eval_put_ne _ _ _ _ (by decide)]; exact S.t2 (by simpa using g), fun g => by rw [eval_put_ne _ _ _ _ (by decide)]; exact S.t3 (by simpa using g), fun g => by rw [eval_put_ne _ _ _ _ (by decide)]; exact S.t4 (by simpa using g), fun g => by rw [eval_put_ne _ _ _ _ (by decide)]; exact S.t5 (by simpa using g), fun g => by rw [eval_put_ne _ _ _ _ (by decide)]; exact S.t6 (by simpa using g), fun g => by rw [eval_put_ne _ _ _ _ (by decide)]; exact S.t7 (by simpa using g), fun _ => (eval_put _ _ _ (by omega)).trans rfl⟩
    | _ + 9, il, _, _, _ => exact absurd il (by omega)
  · intro s a w' S hall
    have a0 := hall 0 (by omega)
    have a1 := hall 1 (by omega)
    have a2 := hall 2 (by omega)
    have a3 := hall 3 (by omega)
    have a4 := hall 4 (by omega)
    have a5 := hall 5 (by omega)
    have a6 := hall 6 (by omega)
    have a7 := hall 7 (by omega)
    have a8 := hall 8 (by omega)
    have e := off_norm _ (by intro d hd; simp at hd; omega) S.off
    simp only [List.foldl, S.t0 a0, S.t1 a1, S.t2 a2, S.t3 a3, S.t4 a4, S.t5 a5, S.t6 a6, S.t7 a7, S.t8 a8] at e
    rw [e]
    exact h _ S.before
structure HdRegion (P Q0 g m md cap T p n0 : Nat) (ks : List Int) (news : List Value) (A : Act) (w0 : World) (s : Nat → Bool) (a : Act) (w : World) : Prop where
  off : Off [50, 51, 52, 53, 54, 55, 56, 57, 58, 59, 60, 61, 62, 63, 64, 65, 66, 67, 68, 69, 70, 71, 72, 73, 74, 75, 76] a A
  before : Below w0.heap.size w0 w
  t0 : s 0 = true → a.eval (.tmp 50) = .pointer (some ⟨P, 0, none⟩)
  t1 : s 1 = true → a.eval (.tmp 51) = .pointer (some ⟨P, 0, none⟩)
  t2 : s 2 = true → a.eval (.tmp 52) = .pointer (some ⟨P, 6, none⟩)
  t3 : s 3 = true → a.eval (.tmp 53) = .func (.func 37) #[] #[.pointer (some ⟨Q0, 0, none⟩)]
  t4 : s 4 = true → a.eval (.tmp 54) = .pointer (some ⟨P, 0, none⟩)
  t5 : s 5 = true → a.eval (.tmp 55) = .pointer (some ⟨P, 0, none⟩)
  t6 : s 6 = true → a.eval (.tmp 56) = .pointer (some ⟨P, 0, none⟩)
  t7 : s 7 = true → a.eval (.tmp 57) = .pointer (some ⟨P, 0, none⟩)
  t8 : s 8 = true → a.eval (.tmp 58) = .int .i64 (T : Nat)
  t9 : s 9 = true → a.eval (.tmp 59) = .pointer (some ⟨P, 0, none⟩)
  t10 : s 10 = true → a.eval (.tmp 60) = .pointer (some ⟨P, 0, none⟩)
  t11 : s 11 = true → a.eval (.tmp 61) = .pointer (some ⟨P, 5, none⟩)
  t12 : s 12 = true → a.eval (.tmp 62) = .slice (some ⟨g, 0, none⟩) m cap
  t13 : s 13 = true → a.eval (.tmp 63) = .int .i64 (m : Nat)
  t14 : s 14 = true → a.eval (.tmp 64) = .int .i64 (p : Nat)
  t15 : s 15 = true → a.eval (.tmp 65) = .pointer (some ⟨P, 0, none⟩)
  t16 : s 16 = true → a.eval (.tmp 66) = .pointer (some ⟨P, 0, none⟩)
  t17 : s 17 = true → a.eval (.tmp 67) = .pointer (some ⟨P, 5, none⟩)
  t18 : s 18 = true → a.eval (.tmp 68) = .slice (some ⟨g, 0, none⟩) m cap
  t19 : s 19 = true → a.eval (.tmp 69) = .int .i64 (Mk.wrongAt (fz ks) 0 32 : Nat)
  t20 : s 20 = true → a.eval (.tmp 70) = .pointer (some ⟨P, 0, none⟩)
  t21 : s 21 = true → a.eval (.tmp 71) = .pointer (some ⟨P, 0, none⟩)
  t22 : s 22 = true → a.eval (.tmp 72) = .pointer (some ⟨P, 5, none⟩)
  t23 : s 23 = true → a.eval (.tmp 73) = .slice (some ⟨g, 0, none⟩) m cap
  t24 : s 24 = true → a.eval (.tmp 74) = .slice (some ⟨g, 32, none⟩) md (cap - 32)
  t25 : s 25 = true → ∃ v25, a.eval (.tmp 75) = v25 ∧ OwnI n0 md news v25 w
  t26 : s 26 = true → ∃ v26, a.eval (.tmp 76) = v26 ∧ BkV n0 md news p (Mk.wrongAt (fz ks) 0 32) v26 w
set_option maxHeartbeats 2000000 in
set_option maxRecDepth 100000 in
theorem hdRegion {id : Nat} {l : List Oper} {A : Act} {w : World} {Q : Exit → Act → World → Prop} (P Q0 g m md cap T p n0 : Nat) (ks : List Int) (news : List Value)
    (hkl : ks.length = m) (h32 : 32 ≤ m) (hc : m ≤ cap) (hl : cap ≤ maxLen) (lP : P < w.heap.size) (RI : Ints w (some ⟨g, 0, none⟩) ks)
    (c5 : w.cell? ⟨P, 5, none⟩ = some (.slice (some ⟨g, 0, none⟩) m cap))
    (hmd : md + 32 = m) (h0 : 0 < md) (hmm : m ≤ 1000000) (hp : p + m = T) (hT : T ≤ 1000000000) (hn0 : n0 ≤ w.heap.size) (lg : g < w.heap.size) (hnl : news.length = md) (c0 : w.cell? ⟨P, 0, none⟩ = some (.int .i64 (T : Nat))) (c6 : w.cell? ⟨P, 6, none⟩ = some (.func (.func 37) #[] #[.pointer (some ⟨Q0, 0, none⟩)])) (hnews : ∀ j u, news[j]? = some u → w.cell? ⟨g, 32 + j, none⟩ = some u) (hone : ∀ u ∈ news, u.oneCell' = true)
    (hB : tableH l.toArray 27 (fun i => match i with | 0 => [] | 1 => [0] | 2 => [1] | 3 => [2] | 4 => [] | 5 => [4] | 6 => [5] | 7 => [6] | 8 => [7] | 9 => [] | 10 => [9] | 11 => [10] | 12 => [11] | 13 => [12] | 14 => [8, 13] | 15 => [] | 16 => [15] | 17 => [16] | 18 => [17] | 19 => [18] | 20 => [] | 21 => [20] | 22 => [21] | 23 => [22] | 24 => [23] | 25 => [24] | 26 => [14, 19, 25] | _ => []) (fun _ => []) = true)
    (h0 : pick l 0 = some (.move (.tmp 0), some 50))
    (h1 : pick l 1 = some (.nilCheck (.tmp 50), some 51))
    (h2 : pick l 2 = some (.fieldAddr 63 (.tmp 51) 4, some 52))
    (h3 : pick l 3 = some (.load 61 (.tmp 52), some 53))
    (h4 : pick l 4 = some (.move (.tmp 0), some 54))
    (h5 : pick l 5 = some (.nilCheck (.tmp 54), some 55))
    (h6 : pick l 6 = some (.fieldAddr 63 (.tmp 55) 0, some 56))
    (h7 : pick l 7 = some (.fieldAddr 60 (.tmp 56) 0, some 57))
    (h8 : pick l 8 = some (.load 2 (.tmp 57), some 58))
    (h9 : pick l 9 = some (.move (.tmp 0), some 59))
    (h10 : pick l 10 = some (.nilCheck (.tmp 59), some 60))
    (h11 : pick l 11 = some (.fieldAddr 63 (.tmp 60) 3, some 61))
    (h12 : pick l 12 = some (.load 29 (.tmp 61), some 62))
    (h13 : pick l 13 = some (.call { callee := .builtin .len, args := #[.tmp 62], argTypes := #[29] }, some 63))
    (h14 : pick l 14 = some (.binOp .sub 2 (.tmp 58) (.tmp 63) 2, some 64))
    (h15 : pick l 15 = some (.move (.tmp 0), some 65))
    (h16 : pick l 16 = some (.nilCheck (.tmp 65), some 66))
    (h17 : pick l 17 = some (.fieldAddr 63 (.tmp 66) 3, some 67))
    (h18 : pick l 18 = some (.load 29 (.tmp 67), some 68))
    (h19 : pick l 19 = some (.call { callee := .value (.func 45), args := #[.tmp 68], argTypes := #[29] }, some 69))
    (h20 : pick l 20 = some (.move (.tmp 0), some 70))
    (h21 : pick l 21 = some (.nilCheck (.tmp 70), some 71))
    (h22 : pick l 22 = some (.fieldAddr 63 (.tmp 71) 3, some 72))
    (h23 : pick l 23 = some (.load 29 (.tmp 72), some 73))
    (h24 : pick l 24 = some (.slice 29 (.tmp 73) (some (.const (.int .i64 32))) none none, some 74))
    (h25 : pick l 25 = some (.call { callee := .value (.func 47), args := #[.tmp 74], argTypes := #[29] }, some 75))
    (h26 : pick l 26 = some (.build 50 #[(0, .tmp 64), (1, .tmp 69), (2, .tmp 75)], some 76))
    (hs : A.tmps.size = 85)
    (x0 : A.eval (.tmp 0) = .pointer (some ⟨P, 0, none⟩))
    (h : ∀ v25 v26 w1, Below w.heap.size w w1 → OwnI n0 md news v25 w1 → BkV n0 md news p (Mk.wrongAt (fz ks) 0 32) v26 w1 → wpList Try.prog l.toArray Q (l.drop 27) (((((((((((((((((((((((((((A.put (some 50) (.pointer (some ⟨P, 0, none⟩))).put (some 51) (.pointer (some ⟨P, 0, none⟩))).put (some 52) (.pointer (some ⟨P, 6, none⟩))).put (some 53) (.func (.func 37) #[] #[.pointer (some ⟨Q0, 0, none⟩)])).put (some 54) (.pointer (some ⟨P, 0, none⟩))).put (some 55) (.pointer (some ⟨P, 0, none⟩))).put (some 56) (.pointer (some ⟨P, 0, none⟩))).put (some 57) (.pointer (some ⟨P, 0, none⟩))).put (some 58) (.int .i64 (T : Nat))).put (some 59) (.pointer (some ⟨P, 0, none⟩))).put (some 60) (.pointer (some ⟨P, 0, none⟩))).put (some 61) (.pointer (some ⟨P, 5, none⟩))).put (some 62) (.slice (some ⟨g, 0, none⟩) m cap)).put (some 63) (.int .i64 (m : Nat))).put (some 64) (.int .i64 (p : Nat))).put (some 65) (.pointer (some ⟨P, 0, none⟩))).put (some 66) (.pointer (some ⟨P, 0, none⟩))).put (some 67) (.pointer (some ⟨P, 5, none⟩))).put (some 68) (.slice (some ⟨g, 0, none⟩) m cap)).put (some 69) (.int .i64 (Mk.wrongAt (fz ks) 0 32 : Nat))).put (some 70) (.pointer (some ⟨P, 0, none⟩))).put (some 71) (.pointer (some ⟨P, 0, none⟩))).put (some 72) (.pointer (some ⟨P, 5, none⟩))).put (some 73) (.slice (some ⟨g, 0, none⟩) m cap)).put (some 74) (.slice (some ⟨g, 32, none⟩) md (cap - 32))).put (some 75) (v25)).put (some 76) (v26)) w1) :
    (Code.region id l.toArray true).wp Try.prog Q A w := by
  refine wp_region_head (by kernel_rfl) _ _ _ hB (HdRegion P Q0 g m md cap T p n0 ks news A w) ⟨Off.refl _ _, (Below.refl _ _).drew, by simp, by simp, by simp, by simp, by simp, by simp, by simp, by simp, by simp, by simp, by simp, by simp, by simp, by simp, by simp, by simp, by simp, by simp, by simp, by simp, by simp, by simp, by simp, by simp, by simp, by simp, by simp⟩ ?_ ?_
  · intro s a w' S i' o il ho hsi hT K hK
    have sz : a.tmps.size = 85 := by rw [S.off.2.1]; exact hs
    have y0 : a.eval (.tmp 0) = .pointer (some ⟨P, 0, none⟩) := by rw [S.off.eval (by decide)]; exact x0
    match i', il, ho, hsi, hT with
    | 0, _, ho, hsi, hT =>
      obtain ⟨e1, e2⟩ := pick_of h0 ho
      have BW := S.before
      refine step_val (v := .pointer (some ⟨P, 0, none⟩)) (by simp only [execOp, e1, y0]; go_simp) (hK _ _ ?_)
      rw [e2]
      exact ⟨S.off.put (by decide) _, S.before, fun _ => (eval_put _ _ _ (by omega)).trans rfl, fun g => by rw [eval_put_ne _ _ _ _ (by decide)]; exact S.t1 (by simpa using g), fun g => by rw [eval_put_ne _ _ _ _ (by decide)]; exact S.t2 (by simpa using g), fun g => by rw [eval_put_ne _ _ _ _ (by decide)]; exact S.t3 (by simpa using g), fun g => by rw [eval_put_ne _ _ _ _ (by decide)]; exact S.t4 (by simpa using g), fun g => by rw [eval_put_ne _ _ _ _ (by decide)]; exact S.t5 (by simpa using g), fun g => by rw [eval_put_ne _ _ _ _ (by decide)]; exact S.t6 (by simpa using g), fun g => by rw [eval_put_ne _ _ _ _ (by decide)]; exact S.t7 (by simpa using g), fun g => by rw [eval_put_ne _ _ _ _ (by decide)]; exact S.t8 (by simpa using g), fun g => by rw [eval_put_ne _ _ _ _ (by decide)]; exact S.t9 (by simpa using g), fun g => by rw [eval_put_ne _ _ _ _ (by decide)]; exact S.t10 (by simpa using g), fun g => by rw [eval_put_ne _ _ _ _ (by decide)]; exact S.t11 (by simpa using g), fun g => by rw [eval_put_ne _ _ _ _ (by decide)]; exact S.t12 (by simpa using g), fun g => by rw [eval_put_ne _ _ _ _ (by decide)]; exact S.t13 (by simpa using g), fun g => by rw [eval_put_ne _ _ _ _ (by decide)]; exact S.t14 (by simpa using g), fun g => by rw [eval_put_ne _ _ _ _ (by decide)]; exact S.t15 (by simpa using g), fun g => by rw [eval_put_ne _ _ _ _ (by decide)]; exact S.t16 (by simpa using g), fun g => by rw [eval_put_ne _ _ _ _ (by decide)]; exact S.t17 (by simpa using g), fun g => by rw [eval_put_ne _ _ _ _ (by decide)]; exact S.t18 (by simpa using g), fun g => by rw [eval_put_ne _ _ _ _ (by decide)]; exact S.t19 (by simpa using g), fun g => by rw [eval_put_ne _ _ _ _ (by decide)]; exact S.t20 (by simpa using g), fun g => by rw [eval_put_ne _ _ _ _ (by decide)]; exact S.t21 (by simpa using g), fun g => by rw [eval_put_ne _ _ _ _ (by decide)]; exact S.t22 (by simpa using g), fun g => by rw [eval_put_ne _ _ _ _ (by decide)]; exact S.t23 (by simpa using g), fun g => by rw [eval_put_ne _ _ _ _ (by decide)]; exact S.t24 (by simpa using g), fun g => (S.t25 (by simpa using g)).imp fun b hb => ⟨by rw [eval_put_ne _ _ _ _ (by decide)]; exact hb.1, hb.2⟩, fun g => (S.t26 (by simpa using g)).imp fun b hb => ⟨by rw [eval_put_ne _ _ _ _ (by decide)]; exact hb.1, hb.2⟩⟩
    | 1, _, ho, hsi, hT =>
      obtain ⟨e1, e2⟩ := pick_of h1 ho
      have D0 : s 0 = true := list_pos hT (d := 0) (by decide)
      have BW := S.before
      refine step_val (v := .pointer (some ⟨P, 0, none⟩)) (by simp only [execOp, e1, S.t0 D0]; go_simp) (hK _ _ ?_)
      rw [e2]
      exact ⟨S.off.put (by decide) _, S.before, fun g => by rw [eval_put_ne _ _ _ _ (by decide)]; exact S.t0 (by simpa using g), fun _ => (eval_put _ _ _ (by omega)).trans rfl, fun g => by rw [eval_put_ne _ _ _ _ (by decide)]; exact S.t2 (by simpa using g), fun g => by rw [eval_put_ne _ _ _ _ (by decide)]; exact S.t3 (by simpa using g), fun g => by rw [eval_put_ne _ _ _ _ (by decide)]; exact S.t4 (by simpa using g), fun g => by rw [eval_put_ne _ _ _ _ (by decide)]; exact S.t5 (by simpa using g), fun g => by rw [eval_put_ne _ _ _ _ (by decide)]; exact S.t6 (by simpa using g), fun g => by rw [eval_put_ne _ _ _ _ (by decide)]; exact S.t7 (by simpa using g), fun g => by rw [eval_put_ne _ _ _ _ (by decide)]; exact S.t8 (by simpa using g), fun g => by rw [eval_put_ne _ _ _ _ (by decide)]; exact S.t9 (by simpa using g), fun g => by rw [eval_put_ne _ _ _ _ (by decide)]; exact S.t10 (by simpa using g), fun g => by rw [eval_put_ne _ _ _ _ (by decide)]; exact S.t11 (by simpa using g), fun g => by rw [eval_put_ne _ _ _ _ (by decide)]; exact S.t12 (by simpa using g), fun g => by rw [eval_put_ne _ _ _ _ (by decide)]; exact S.t13 (by simpa using g), fun g => by rw [eval_put_ne _ _ _ _ (by decide)]; exact S.t14 (by simpa using g), fun g => by rw [eval_put_ne _ _ _ _ (by decide)]; exact S.t15 (by simpa using g), fun g => by rw [eval_put_ne _ _ _ _ (by decide)]; exact S.t16 (by simpa using g), fun g => by rw [eval_put_ne _ _ _ _ (by decide)]; exact S.t17 (by simpa using g), fun g => by rw [eval_put_ne _ _ _ _ (by decide)]; exact S.t18 (by simpa using g), fun g => by rw [eval_put_ne _ _ _ _ (by decide)]; exact S.t19 (by simpa using g), fun g => by rw [eval_put_ne _ _ _ _ (by decide)]; exact S.t20 (by simpa using g), fun g => by rw [eval_put_ne _ _ _ _ (by decide)]; exact S.t21 (by simpa using g), fun g => by rw [eval_put_ne _ _ _ _ (by decide)]; exact S.t22 (by simpa using g), fun g => by rw [eval_put_ne _ _ _ _ (by decide)]; exact S.t23 (by simpa using g), fun g => by rw [eval_put_ne _ _ _ _ (by decide)]; exact S.t24 (by simpa using g), fun g => (S.t25 (by simpa using g)).imp fun b hb => ⟨by rw [eval_put_ne _ _ _ _ (by decide)]; exact hb.1, hb.2⟩, fun g => (S.t26 (by simpa using g)).imp fun b hb => ⟨by rw [eval_put_ne _ _ _ _ (by decide)]; exact hb.1, hb.2⟩⟩
    | 2, _, ho, hsi, hT =>
      obtain ⟨e1, e2⟩ := pick_of h2 ho
      have D1 : s 1 = true := list_pos hT (d := 1) (by decide)
      have BW := S.before
      refine step_val (v := .pointer (some ⟨P, 6, none⟩)) (by simp only [execOp, e1, S.t1 D1]; go_simp) (hK _ _ ?_)
      rw [e2]
      exact ⟨S.off.put (by decide) _, S.before, fun g => by rw [eval_put_ne _ _ _ _ (by decide)]; exact S.t0 (by simpa using g), fun g => by rw [eval_put_ne _ _ _ _ (by decide)]; exact S.t1 (by simpa using g), fun _ => (eval_put _ _ _ (by omega)).trans rfl, fun g => by rw [eval_put_ne _ _ _ _ (by decide)]; exact S.t3 (by simpa using g), fun g => by rw [eval_put_ne _ _ _ _ (by decide)]; exact S.t4 (by simpa using g), fun g => by rw [eval_put_ne _ _ _ _ (by decide)]; exact S.t5 (by simpa using g), fun g => by rw [eval_put_ne _ _ _ _ (by decide)]; exact S.t6 (by simpa using g), fun g => by rw [eval_put_ne _ _ _ _ (by decide)]; exact S.t7 (by simpa using g), fun g => by rw [eval_put_ne _ _ _ _ (by decide)]; exact S.t8 (by simpa using g), fun g => by rw [eval_put_ne _ _ _ _ (by decide)]; exact S.t9 (by simpa using g), fun g => by rw [eval_put_ne _ _ _ _ (by decide)]; exact S.t10 (by simpa using g), fun g => by rw [eval_put_ne _ _ _ _ (by decide)]; exact S.t11 (by simpa using g), fun g => by rw [eval_put_ne _ _ _ _ (by decide)]; exact S.t12 (by simpa using g), fun g => by rw [eval_put_ne _ _ _ _ (by decide)]; exact S.t13 (by simpa using g), fun g => by rw [eval_put_ne _ _ _ _ (by decide)]; exact S.t14 (by simpa using g), fun g => by rw [eval_put_ne _ _ _ _ (by decide)]; exact S.t15 (by simpa using g), fun g => by rw [eval_put_ne _ _ _ _ (by decide)]; exact S.t16 (by simpa using g), fun g => by rw [eval_put_ne _ _ _ _ (by decide)]; exact S.t17 (by simpa using g), fun g => by rw [eval_put_ne _ _ _ _ (by decide)]; exact S.t18 (by simpa using g), fun g => by rw [eval_put_ne _ _ _ _ (by decide)]; exact S.t19 (by simpa using g), fun g => by rw [eval_put_ne _ _ _ _ (by decide)]; exact S.t20 (by simpa using g), fun g => by rw [eval_put_ne _ _ _ _ (by decide)]; exact S.t21 (by simpa using g), fun g => by rw [eval_put_ne _ _ _ _ (by decide)]; exact S.t22 (by simpa using g), fun g => by rw [eval_put_ne _ _ _ _ (by decide)]; exact S.t23 (by simpa using g), fun g => by rw [eval_put_ne _ _ _ _ (by decide)]; exact S.t24 (by simpa using g), fun g => (S.t25 (by simpa using g)).imp fun b hb => ⟨by rw [eval_put_ne _ _ _ _ (by decide)]; exact hb.1, hb.2⟩, fun g => (S.t26 (by simpa using g)).imp fun b hb => ⟨by rw [eval_put_ne _ _ _ _ (by decide)]; exact hb.1, hb.2⟩⟩
    | 3, _, ho, hsi, hT =>
      obtain ⟨e1, e2⟩ := pick_of h3 ho
      have D2 : s 2 = true := list_pos hT (d := 2) (by decide)
      have BW := S.before
      have cl := (BW.cell (p := ⟨P, 6, none⟩) lP).trans c6
      refine step_val (v := .func (.func 37) #[] #[.pointer (some ⟨Q0, 0, none⟩)]) (by simp only [execOp, e1, S.t2 D2]; go_simp) (hK _ _ ?_)
      rw [e2]
      exact ⟨S.off.put (by decide) _, S.before, fun g => by rw [eval_put_ne _ _ _ _ (by decide)]; exact S.t0 (by simpa using g), fun g => by rw [eval_put_ne _ _ _ _ (by decide)]; exact S.t1 (by simpa using g), fun g => by rw [eval_put_ne _ _ _ _ (by decide)]; exact S.t2 (by simpa using g), fun _ => (eval_put _ _ _ (by omega)).trans rfl, fun g => by rw [eval_put_ne _ _ _ _ (by decide)]; exact S.t4 (by simpa using g), fun g => by rw [eval_put_ne _ _ _ _ (by decide)]; exact S.t5 (by simpa using g), fun g => by rw [eval_put_ne _ _ _ _ (by decide)]; exact S.t6 (by simpa using g), fun g => by rw [eval_put_ne _ _ _ _ (by decide)]; exact S.t7 (by simpa using g), fun g => by rw [eval_put_ne _ _ _ _ (by decide)]; exact S.t8 (by simpa using g), fun g => by rw [eval_put_ne _ _ _ _ (by decide)]; exact S.t9 (by simpa using g), fun g => by rw [eval_put_ne _ _ _ _ (by decide)]; exact S.t10 (by simpa using g), fun g => by rw [eval_put_ne _ _ _ _ (by decide)]; exact S.t11 (by simpa using g), fun g => by rw [eval_put_ne _ _ _ _ (by decide)]; exact S.t12 (by simpa using g), fun g => by rw [eval_put_ne _ _ _ _ (by decide)]; exact S.t13 (by simpa using g), fun g => by rw [eval_put_ne _ _ _ _ (by decide)]; exact S.t14 (by simpa using g), fun g => by rw [eval_put_ne _ _ _ _ (by decide)]; exact S.t15 (by simpa using g), fun g => by rw [eval_put_ne _ _ _ _ (by decide)]; exact S.t16 (by simpa using g), fun g => by rw [eval_put_ne _ _ _ _ (by decide)]; exact S.t17 (by simpa using g), fun g => by rw [eval_put_ne _ _ _ _ (by decide)]; exact S.t18 (by simpa using g), fun g => by rw [eval_put_ne _ _ _ _ (by decide)]; exact S.t19 (by simpa using g), fun g => by rw [eval_put_ne _ _ _ _ (by decide)]; exact S.t20 (by simpa using g), fun g => by rw [eval_put_ne _ _ _ _ (by decide)]; exact S.t21 (by simpa using g), fun g => by rw [eval_put_ne _ _ _ _ (by decide)]; exact S.t22 (by simpa using g), fun g => by rw [eval_put_ne _ _ _ _ (by decide)]; exact S.t23 (by simpa using g), fun g => by rw [eval_put_ne _ _ _ _ (by decide)]; exact S.t24 (by simpa using g), fun g => (S.t25 (by simpa using g)).imp fun b hb => ⟨by rw [eval_put_ne _ _ _ _ (by decide)]; exact hb.1, hb.2⟩, fun g => (S.t26 (by simpa using g)).imp fun b hb => ⟨by rw [eval_put_ne _ _ _ _ (by decide)]; exact hb.1, hb.2⟩⟩
    | 4, _, ho, hsi, hT =>
      obtain ⟨e1, e2⟩ := pick_of h4 ho
      have BW := S.before
      refine step_val (v := .pointer (some ⟨P, 0, none⟩)) (by simp only [execOp, e1, y0]; go_simp) (hK _ _ ?_)
      rw [e2]
      exact ⟨S.off.put (by decide) _, S.before, fun g => by rw [eval_put_ne _ _ _ _ (by decide)]; exact S.t0 (by simpa using g), fun g => by rw [eval_put_ne _ _ _ _ (by decide)]; exact S.t1 (by simpa using g), fun g => by rw [eval_put_ne _ _ _ _ (by decide)]; exact S.t2 (by simpa using g), fun g => by rw [eval_put_ne _ _ _ _ (by decide)]; exact S.t3 (by simpa using g), fun _ => (eval_put _ _ _ (by omega)).trans rfl, fun g => by rw [eval_put_ne _ _ _ _ (by decide)]; exact S.t5 (by simpa using g), fun g => by rw [eval_put_ne _ _ _ _ (by decide)]; exact S.t6 (by simpa using g), fun g => by rw [eval_put_ne _ _ _ _ (by decide)]; exact S.t7 (by simpa using g), fun g => by rw [eval_put_ne _ _ _ _ (by decide)]; exact S.t8 (by simpa using g), fun g => by rw [eval_put_ne _ _ _ _ (by decide)]; exact S.t9 (by simpa using g), fun g => by rw [eval_put_ne _ _ _ _ (by decide)]; exact S.t10 (by simpa using g), fun g => by rw [eval_put_ne _ _ _ _ (by decide)]; exact S.t11 (by simpa using g), fun g => by rw [eval_put_ne _ _ _ _ (by decide)]; exact S.t12 (by simpa using g), fun g => by rw [eval_put_ne _ _ _ _ (by decide)]; exact S.t13 (by simpa using g), fun g => by rw [eval_put_ne _ _ _ _ (by decide)]; exact S.t14 (by simpa using g), fun g => by rw [eval_put_ne _ _ _ _ (by decide)]; exact S.t15 (by simpa using g), fun g => by rw [eval_put_ne _ _ _ _ (by decide)]; exact S.t16 (by simpa using g), fun g => by rw [eval_put_ne _ _ _ _ (by decide)]; exact S.t17 (by simpa using g), fun g => by rw [eval_put_ne _ _ _ _ (by decide)]; exact S.t18 (by simpa using g), fun g => by rw [eval_put_ne _ _ _ _ (by decide)]; exact S.t19 (by simpa using g), fun g => by rw [eval_put_ne _ _ _ _ (by decide)]; exact S.t20 (by simpa using g), fun g => by rw [eval_put_ne _ _ _ _ (by decide)]; exact S.t21 (by simpa using g), fun g => by rw [eval_put_ne _ _ _ _ (by decide)]; exact S.t22 (by simpa using g), fun g => by rw [eval_put_ne _ _ _ _ (by decide)]; exact S.t23 (by simpa using g), fun g => by rw [eval_put_ne _ _ _ _ (by decide)]; exact S.t24 (by simpa using g), fun g => (S.t25 (by simpa using g)).imp fun b hb => ⟨by rw [eval_put_ne _ _ _ _ (by decide)]; exact hb.1, hb.2⟩, fun g => (S.t26 (by simpa using g)).imp fun b hb => ⟨by rw [eval_put_ne _ _ _ _ (by decide)]; exact hb.1, hb.2⟩⟩
    | 5, _, ho, hsi, hT =>
      obtain ⟨e1, e2⟩ := pick_of h5 ho
      have D4 : s 4 = true := list_pos hT (d := 4) (by decide)
      have BW := S.before
      refine step_val (v := .pointer (some ⟨P, 0, none⟩)) (by simp only [execOp, e1, S.t4 D4]; go_simp) (hK _ _ ?_)
      rw [e2]
      exact ⟨S.off.put (by decide) _, S.before, fun g => by rw [eval_put_ne _ _ _ _ (by decide)]; exact S.t0 (by simpa using g), fun g => by rw [eval_put_ne _ _ _ _ (by decide)]; exact S.t1 (by simpa using g), fun g => by rw [eval_put_ne _ _ _ _ (by decide)]; exact S.t2 (by simpa using g), fun g => by rw [eval_put_ne _ _ _ _ (by decide)]; exact S.t3 (by simpa using g), fun g => by rw [eval_put_ne _ _ _ _ (by decide)]; exact S.t4 (by simpa using g), fun _ => (eval_put _ _ _ (by omega)).trans rfl, fun g => by rw [eval_put_ne _ _ _ _ (by decide)]; exact S.t6 (by simpa using g), fun g => by rw [eval_put_ne _ _ _ _ (by decide)]; exact S.t7 (by simpa using g), fun g => by rw [eval_put_ne _ _ _ _ (by decide)]; exact S.t8 (by simpa using g), fun g => by rw [eval_put_ne _ _ _ _ (by decide)]; exact S.t9 (by simpa using g), fun g => by rw [eval_put_ne _ _ _ _ (by decide)]; exact S.t10 (by simpa using g), fun g => by rw [eval_put_ne _ _ _ _ (by decide)]; exact S.t11 (by simpa using g), fun g => by rw [eval_put_ne _ _ _ _ (by decide)]; exact S.t12 (by simpa using g), fun g => by rw [eval_put_ne _ _ _ _ (by decide)]; exact S.t13 (by simpa using g), fun g => by rw [eval_put_ne _ _ _ _ (by decide)]; exact S.t14 (by simpa using g), fun g => by rw [eval_put_ne _ _ _ _ (by decide)]; exact S.t15 (by simpa using g), fun g => by rw [eval_put_ne _ _ _ _ (by decide)]; exact S.t16 (by simpa using g), fun g => by rw [eval_put_ne _ _ _ _ (by decide)]; exact S.t17 (by simpa using g), fun g => by rw [eval_put_ne _ _ _ _ (by decide)]; exact S.t18 (by simpa using g), fun g => by rw [eval_put_ne _ _ _ _ (by decide)]; exact S.t19 (by simpa using g), fun g => by rw [eval_put_ne _ _ _ _ (by decide)]; exact S.t20 (by simpa using g), fun g => by rw [eval_put_ne _ _ _ _ (by decide)]; exact S.t21 (by simpa using g), fun g => by rw [eval_put_ne _ _ _ _ (by decide)]; exact S.t22 (by simpa using g), fun g => by rw [eval_put_ne _ _ _ _ (by decide)]; exact S.t23 (by simpa using g), fun g => by rw [eval_put_ne _ _ _ _ (by decide)]; exact S.t24 (by simpa using g), fun g => (S.t25 (by simpa using g)).imp fun b hb => ⟨by rw [eval_put_ne _ _ _ _ (by decide)]; exact hb.1, hb.2⟩, fun g => (S.t26 (by simpa using g)).imp fun b hb => ⟨by rw [eval_put_ne _ _ _ _ (by decide)]; exact hb.1, hb.2⟩⟩
    | 6, _, ho, hsi, hT =>
      obtain ⟨e1, e2⟩ := pick_of h6 ho
      have D5 : s 5 = true := list_pos hT (d := 5) (by decide)
      have BW := S.before
      refine step_val (v := .pointer (some ⟨P, 0, none⟩)) (by simp only [execOp, e1, S.t5 D5]; go_simp) (hK _ _ ?_)
      rw [e2]
      exact ⟨S.off.put (by decide) _, S.before, fun g => by rw [eval_put_ne _ _ _ _ (by decide)]; exact S.t0 (by simpa using g), fun g => by rw [eval_put_ne _ _ _ _ (by decide)]; exact S.t1 (by simpa using g), fun g => by rw [eval_put_ne _ _ _ _ (by decide)]; exact S.t2 (by simpa using g), fun g => by rw [eval_put_ne _ _ _ _ (by decide)]; exact S.t3 (by simpa using g), fun g => by rw [eval_put_ne _ _ _ _ (by decide)]; exact S.t4 (by simpa using g), fun g => by rw [eval_put_ne _ _ _ _ (by decide)]; exact S.t5 (by simpa using g), fun _ => (eval_put _ _ _ (by omega)).trans rfl, fun g => by rw [eval_put_ne _ _ _ _ (by decide)]; exact S.t7 (by simpa using g), fun g => by rw [eval_put_ne _ _ _ _ (by decide)]; exact S.t8 (by simpa using g), fun g => by rw [eval_put_ne _ _ _ _ (by decide)]; exact S.t9 (by simpa using g), fun g => by rw [eval_put_ne _ _ _ _ (by decide)]; exact S.t10 (by simpa using g), fun g => by rw [eval_put_ne _ _ _ _ (by decide)]; exact S.t11 (by simpa using g), fun g => by rw [eval_put_ne _ _ _ _ (by decide)]; exact S.t12 (by simpa using g), fun g => by rw [eval_put_ne _ _ _ _ (by decide)]; exact S.t13 (by simpa using g), fun g => by rw [eval_put_ne _ _ _ _ (by decide)]; exact S.t14 (by simpa using g), fun g => by rw [eval_put_ne _ _ _ _ (by decide)]; exact S.t15 (by simpa using g), fun g => by rw [eval_put_ne _ _ _ _ (by decide)]; exact S.t16 (by simpa using g), fun g => by rw [eval_put_ne _ _ _ _ (by decide)]; exact S.t17 (by simpa using g), fun g => by rw [eval_put_ne _ _ _ _ (by decide)]; exact S.t18 (by simpa using g), fun g => by rw [eval_put_ne _ _ _ _ (by decide)]; exact S.t19 (by simpa using g), fun g => by rw [eval_put_ne _ _ _ _ (by decide)]; exact S.t20 (by simpa using g), fun g => by rw [eval_put_ne _ _ _ _ (by decide)]; exact S.t21 (by simpa using g), fun g => by rw [eval_put_ne _ _ _ _ (by decide)]; exact S.t22 (by simpa using g), fun g => by rw [eval_put_ne _ _ _ _ (by decide)]; exact S.t23 (by simpa using g), fun g => by rw [eval_put_ne _ _ _ _ (by decide)]; exact S.t24 (by simpa using g), fun g => (S.t25 (by simpa using g)).imp fun b hb => ⟨by rw [eval_put_ne _ _ _ _ (by decide)]; exact hb.1, hb.2⟩, fun g => (S.t26 (by simpa using g)).imp fun b hb => ⟨by rw [eval_put_ne _ _ _ _ (by decide)]; exact hb.1, hb.2⟩⟩
    | 7, _, ho, hsi, hT =>
      obtain ⟨e1, e2⟩ := pick_of h7 ho
      have D6 : s 6 = true := list_pos hT (d := 6) (by decide)
      have BW := S.before
      refine step_val (v := .pointer (some ⟨P, 0, none⟩)) (by simp only [execOp, e1, S.t6 D6]; go_simp) (hK _ _ ?_)
      rw [e2]
      exact ⟨S.off.put (by decide) _, S.before, fun g => by rw [eval_put_ne _ _ _ _ (by decide)]; exact S.t0 (by simpa using g), fun g => by rw [eval_put_ne _ _ _ _ (by decide)]; exact S.t1 (by simpa using g), fun g => by rw [eval_put_ne _ _ _ _ (by decide)]; exact S.t2 (by simpa using g), fun g => by rw [eval_put_ne _ _ _ _ (by decide)]; exact S.t3 (by simpa using g), fun g => by rw [eval_put_ne _ _ _ _ (by decide)]; exact S.t4 (by simpa using g), fun g => by rw [eval_put_ne _ _ _ _ (by decide)]; exact S.t5 (by simpa using g), fun g => by rw [eval_put_ne _ _ _ _ (by decide)]; exact S.t6 (by simpa using g), fun _ => (eval_put _ _ _ (by omega)).trans rfl, fun g => by rw [eval_put_ne _ _ _ _ (by decide)]; exact S.t8 (by simpa using g), fun g => by rw [eval_put_ne _ _ _ _ (by decide)]; exact S.t9 (by simpa using g), fun g => by rw [eval_put_ne _ _ _ _ (by decide)]; exact S.t10 (by simpa using g), fun g => by rw [eval_put_ne _ _ _ _ (by decide)]; exact S.t11 (by simpa using g), fun g => by rw [eval_put_ne _ _ _ _ (by decide)]; exact S.t12 (by simpa using g), fun g => by rw [eval_put_ne _ _ _ _ (by decide)]; exact S.t13 (by simpa using g), fun g => by rw [eval_put_ne _ _ _ _ (by decide)]; exact S.t14 (by simpa using g), fun g => by rw [eval_put_ne _ _ _ _ (by decide)]; exact S.t15 (by simpa using g), fun g => by rw [eval_put_ne _ _ _ _ (by decide)]; exact S.t16 (by simpa using g), fun g => by rw [eval_put_ne _ _ _ _ (by decide)]; exact S.t17 (by simpa using g), fun g => by rw [eval_put_ne _ _ _ _ (by decide)]; exact S.t18 (by simpa using g), fun g => by rw [eval_put_ne _ _ _ _ (by decide)]; exact S.t19 (by simpa using g), fun g => by rw [eval_put_ne _ _ _ _ (by decide)]; exact S.t20 (by simpa using g), fun g => by rw [eval_put_ne _ _ _ _ (by decide)]; exact S.t21 (by simpa using g), fun g => by rw [eval_put_ne _ _ _ _ (by decide)]; exact S.t22 (by simpa using g), fun g => by rw [eval_put_ne _ _ _ _ (by decide)]; exact S.t23 (by simpa using g), fun g => by rw [eval_put_ne _ _ _ _ (by decide)]; exact S.t24 (by simpa using g), fun g => (S.t25 (by simpa using g)).imp fun b hb => ⟨by rw [eval_put_ne _ _ _ _ (by decide)]; exact hb.1, hb.2⟩, fun g => (S.t26 (by simpa using g)).imp fun b hb => ⟨by rw [eval_put_ne _ _ _ _ (by decide)]; exact hb.1, hb.2⟩⟩
    | 8, _, ho, hsi, hT =>
      obtain ⟨e1, e2⟩ := pick_of h8 ho
      have D7 : s 7 = true := list_pos hT (d := 7) (by decide)
      have BW := S.before
      have cl := (BW.cell (p := ⟨P, 0, none⟩) lP).trans c0
      refine step_val (v := .int .i64 (T : Nat)) (by simp only [execOp, e1, S.t7 D7]; go_simp) (hK _ _ ?_)
      rw [e2]
      exact ⟨S.off.put (by decide) _, S.before, fun g => by rw [eval_put_ne _ _ _ _ (by decide)]; exact S.t0 (by simpa using g), fun g => by rw [eval_put_ne _ _ _ _ (by decide)]; exact S.t1 (by simpa using g), fun g => by rw [eval_put_ne _ _ _ _ (by decide)]; exact S.t2 (by simpa using g), fun g => by rw [eval_put_ne _ _ _ _ (by decide)]; exact S.t3 (by simpa using g), fun g => by rw [eval_put_ne _ _ _ _ (by decide)]; exact S.t4 (by simpa using g), fun g => by rw [eval_put_ne _ _ _ _ (by decide)]; exact S.t5 (by simpa using g), fun g => by rw [eval_put_ne _ _ _ _ (by decide)]; exact S.t6 (by simpa using g), fun g => by rw [eval_put_ne _ _ _ _ (by decide)]; exact S.t7 (by simpa using g), fun _ => (eval_put _ _ _ (by omega)).trans rfl, fun g => by rw [eval_put_ne _ _ _ _ (by decide)]; exact S.t9 (by simpa using g), fun g => by rw [eval_put_ne _ _ _ _ (by decide)]; exact S.t10 (by simpa using g), fun g => by rw [eval_put_ne _ _ _ _ (by decide)]; exact S.t11 (by simpa using g), fun g => by rw [eval_put_ne _ _ _ _ (by decide)]; exact S.t12 (by simpa using g), fun g => by rw [eval_put_ne _ _ _ _ (by decide)]; exact S.t13 (by simpa using g), fun g => by rw [eval_put_ne _ _ _ _ (by decide)]; exact S.t14 (by simpa using g), fun g => by rw [eval_put_ne _ _ _ _ (by decide)]; exact S.t15 (by simpa using g), fun g => by rw [eval_put_ne _ _ _ _ (by decide)]; exact S.t16 (by simpa using g), fun g => by rw [eval_put_ne _ _ _ _ (by decide)]; exact S.t17 (by simpa using g), fun g => by rw [eval_put_ne _ _ _ _ (by decide)]; exact S.t18 (by simpa using g), fun g => by rw [eval_put_ne _ _ _ _ (by decide)]; exact S.t19 (by simpa using g), fun g => by rw [eval_put_ne _ _ _ _ (by decide)]; exact S.t20 (by simpa using g), fun g => by rw [eval_put_ne _ _ _ _ (by decide)]; exact S.t21 (by simpa using g), fun g => by rw [eval_put_ne _ _ _ _ (by decide)]; exact S.t22 (by simpa using g), fun g => by rw [eval_put_ne _ _ _ _ (by decide)]; exact S.t23 (by simpa using g), fun g => by rw [eval_put_ne _ _ _ _ (by decide)]; exact S.t24 (by simpa using g), fun g => (S.t25 (by simpa using g)).imp fun b hb => ⟨by rw [eval_put_ne _ _ _ _ (by decide)]; exact hb.1, hb.2⟩, fun g => (S.t26 (by simpa using g)).imp fun b hb => ⟨by rw [eval_put_ne _ _ _ _ (by decide)]; exact hb.1, hb.2⟩⟩
    | 9, _, ho, hsi, hT =>
      obtain ⟨e1, e2⟩ := pick_of h9 ho
      have BW := S.before
      refine step_val (v := .pointer (some ⟨P, 0, none⟩)) (by simp only [execOp, e1, y0]; go_simp) (hK _ _ ?_)
      rw [e2]
      exact ⟨S.off.put (by decide) _, S.before, fun g => by rw [eval_put_ne _ _ _ _ (by decide)]; exact S.t0 (by simpa using g), fun g => by rw [eval_put_ne _ _ _ _ (by decide)]; exact S.t1 (by simpa using g), fun g => by rw [eval_put_ne _ _ _ _ (by decide)]; exact S.t2 (by simpa using g), fun g => by rw [eval_put_ne _ _ _ _ (by decide)]; exact S.t3 (by simpa using g), fun g => by rw [eval_put_ne _ _ _ _ (by decide)]; exact S.t4 (by simpa using g), fun g => by rw [eval_put_ne _ _ _ _ (by decide)]; exact S.t5 (by simpa using g), fun g => by rw [eval_put_ne _ _ _ _ (by decide)]; exact S.t6 (by simpa using g), fun g => by rw [eval_put_ne _ _ _ _ (by decide)]; exact S.t7 (by simpa using g), fun g => by rw [eval_put_ne _ _ _ _ (by decide)]; exact S.t8 (by simpa using g), fun _ => (eval_put _ _ _ (by omega)).trans rfl, fun g => by rw [eval_put_ne _ _ _ _ (by decide)]; exact S.t10 (by simpa using g), fun g => by rw [eval_put_ne _ _ _ _ (by decide)]; exact S.t11 (by simpa using g), fun g => by rw [eval_put_ne _ _ _ _ (by decide)]; exact S.t12 (by simpa using g), fun g => by rw [eval_put_ne _ _ _ _ (by decide)]; exact S.t13 (by simpa using g), fun g => by rw [eval_put_ne _ _ _ _ (by decide)]; exact S.t14 (by simpa using g), fun g => by rw [eval_put_ne _ _ _ _ (by decide)]; exact S.t15 (by simpa using g), fun g => by rw [eval_put_ne _ _ _ _ (by decide)]; exact S.t16 (by simpa using g), fun g => by rw [eval_put_ne _ _ _ _ (by decide)]; exact S.t17 (by simpa using g), fun g => by rw [eval_put_ne _ _ _ _ (by decide)]; exact S.t18 (by simpa using g), fun g => by rw [eval_put_ne _ _ _ _ (by decide)]; exact S.t19 (by simpa using g), fun g => by rw [eval_put_ne _ _ _ _ (by decide)]; exact S.t20 (by simpa using g), fun g => by rw [eval_put_ne _ _ _ _ (by decide)]; exact S.t21 (by simpa using g), fun g => by rw [eval_put_ne _ _ _ _ (by decide)]; exact S.t22 (by simpa using g), fun g => by rw [eval_put_ne _ _ _ _ (by decide)]; exact S.t23 (by simpa using g), fun g => by rw [eval_put_ne _ _ _ _ (by decide)]; exact S.t24 (by simpa using g), fun g => (S.t25 (by simpa using g)).imp fun b hb => ⟨by rw [eval_put_ne _ _ _ _ (by decide)]; exact hb.1, hb.2⟩, fun g => (S.t26 (by simpa using g)).imp fun b hb => ⟨by rw [eval_put_ne _ _ _ _ (by decide)]; exact hb.1, hb.2⟩⟩
    | 10, _, ho, hsi, hT =>
      obtain ⟨e1, e2⟩ := pick_of h10 ho
      have D9 : s 9 = true := list_pos hT (d := 9) (by decide)
      have BW := S.before
      refine step_val (v := .pointer (some ⟨P, 0, none⟩)) (by simp only [execOp, e1, S.t9 D9]; go_simp) (hK _ _ ?_)
      rw [e2]
      exact ⟨S.off.put (by decide) _, S.before, fun g => by rw [eval_put_ne _ _ _ _ (by decide)]; exact S.t0 (by simpa using g), fun g => by rw [eval_put_ne _ _ _ _ (by decide)]; exact S.t1 (by simpa using g), fun g => by rw [eval_put_ne _ _ _ _ (by decide)]; exact S.t2 (by simpa using g), fun g => by rw [eval_put_ne _ _ _ _ (by decide)]; exact S.t3 (by simpa using g), fun g => by rw [eval_put_ne _ _ _ _ (by decide)]; exact S.t4 (by simpa using g), fun g => by rw [eval_put_ne _ _ _ _ (by decide)]; exact S.t5 (by simpa using g), fun g => by rw [eval_put_ne _ _ _ _ (by decide)]; exact S.t6 (by simpa using g), fun g => by rw [eval_put_ne _ _ _ _ (by decide)]; exact S.t7 (by simpa using g), fun g => by rw [eval_put_ne _ _ _ _ (by decide)]; exact S.t8 (by simpa using g), fun g => by rw [eval_put_ne _ _ _ _ (by decide)]; exact S.t9 (by simpa using g), fun _ => (eval_put _ _ _ (by omega)).trans rfl, fun g => by rw [eval_put_ne _ _ _ _ (by decide)]; exact S.t11 (by simpa using g), fun g => by rw [eval_put_ne _ _ _ _ (by decide)]; exact S.t12 (by simpa using g), fun g => by rw [eval_put_ne _ _ _ _ (by decide)]; exact S.t13 (by simpa using g), fun g => by rw [eval_put_ne _ _ _ _ (by decide)]; exact S.t14 (by simpa using g), fun g => by rw [eval_put_ne _ _ _ _ (by decide)]; exact S.t15 (by simpa using g), fun g => by rw [eval_put_ne _ _ _ _ (by decide)]; exact S.t16 (by simpa using g), fun g => by rw [eval_put_ne _ _ _ _ (by decide)]; exact S.t17 (by simpa using g), fun g => by rw [eval_put_ne _ _ _ _ (by decide)]; exact S.t18 (by simpa using g), fun g => by rw [eval_put_ne _ _ _ _ (by decide)]; exact S.t19 (by simpa using g), fun g => by rw [eval_put_ne _ _ _ _ (by decide)]; exact S.t20 (by simpa using g), fun g => by rw [eval_put_ne _ _ _ _ (by decide)]; exact S.t21 (by simpa using g), fun g => by rw [eval_put_ne _ _ _ _ (by decide)]; exact S.t22 (by simpa using g), fun g => by rw [eval_put_ne _ _ _ _ (by decide)]; exact S.t23 (by simpa using g), fun g => by rw [eval_put_ne _ _ _ _ (by decide)]; exact S.t24 (by simpa using g), fun g => (S.t25 (by simpa using g)).imp fun b hb => ⟨by rw [eval_put_ne _ _ _ _ (by decide)]; exact hb.1, hb.2⟩, fun g => (S.t26 (by simpa using g)).imp fun b hb => ⟨by rw [eval_put_ne _ _ _ _ (by decide)]; exact hb.1, hb.2⟩⟩
    | 11, _, ho, hsi, hT =>
      obtain ⟨e1, e2⟩ := pick_of h11 ho
      have D10 : s 10 = true := list_pos hT (d := 10) (by decide)
      have BW := S.before
      refine step_val (v := .pointer (some ⟨P, 5, none⟩)) (by simp only [execOp, e1, S.t10 D10]; go_simp) (hK _ _ ?_)
      rw [e2]
      exact ⟨S.off.put (by decide) _, S.before, fun g => by rw [eval_put_ne _ _ _ _ (by decide)]; exact S.t0 (by simpa using g), fun g => by rw [eval_put_ne _ _ _ _ (by decide)]; exact S.t1 (by simpa using g), fun g => by rw [eval_put_ne _ _ _ _ (by decide)]; exact S.t2 (by simpa using g), fun g => by rw [eval_put_ne _ _ _ _ (by decide)]; exact S.t3 (by simpa using g), fun g => by rw [eval_put_ne _ _ _ _ (by decide)]; exact S.t4 (by simpa using g), fun g => by rw [eval_put_ne _ _ _ _ (by decide)]; exact S.t5 (by simpa using g), fun g => by rw [eval_put_ne _ _ _ _ (by decide)]; exact S.t6 (by simpa using g), fun g => by rw [eval_put_ne _ _ _ _ (by decide)]; exact S.t7 (by simpa using g), fun g => by rw [eval_put_ne _ _ _ _ (by decide)]; exact S.t8 (by simpa using g), fun g => by rw [eval_put_ne _ _ _ _ (by decide)]; exact S.t9 (by simpa using g), fun g => by rw [eval_put_ne _ _ _ _ (by decide)]; exact S.t10 (by simpa using g), fun _ => (eval_put _ _ _ (by omega)).trans rfl, fun g => by rw [eval_put_ne _ _ _ _ (by decide)]; exact S.t12 (by simpa using g), fun g => by rw [eval_put_ne _ _ _ _ (by decide)]; exact S.t13 (by simpa using g), fun g => by rw [eval_put_ne _ _ _ _ (by decide)]; exact S.t14 (by simpa using g), fun g => by rw [eval_put_ne _ _ _ _ (by decide)]; exact S.t15 (by simpa using g), fun g => by rw [eval_put_ne _ _ _ _ (by decide)]; exact S.t16 (by simpa using g), fun g => by rw [eval_put_ne _ _ _ _ (by decide)]; exact S.t17 (by simpa using g), fun g => by rw [eval_put_ne _ _ _ _ (by decide)]; exact S.t18 (by simpa using g), fun g => by rw [eval_put_ne _ _ _ _ (by decide)]; exact S.t19 (by simpa using g), fun g => by rw [eval_put_ne _ _ _ _ (by decide)]; exact S.t20 (by simpa using g), fun g => by rw [eval_put_ne _ _ _ _ (by decide)]; exact S.t21 (by simpa using g), fun g => by rw [eval_put_ne _ _ _ _ (by decide)]; exact S.t22 (by simpa using g), fun g => by rw [eval_put_ne _ _ _ _ (by decide)]; exact S.t23 (by simpa using g), fun g => by rw [eval_put_ne _ _ _ _ (by decide)]; exact S.t24 (by simpa using g), fun g => (S.t25 (by simpa using g)).imp fun b hb => ⟨by rw [eval_put_ne _ _ _ _ (by decide)]; exact hb.1, hb.2⟩, fun g => (S.t26 (by simpa using g)).imp fun b hb => ⟨by rw [eval_put_ne _ _ _ _ (by decide)]; exact hb.1, hb.2⟩⟩
    | 12, _, ho, hsi, hT =>
      obtain ⟨e1, e2⟩ := pick_of h12 ho
      have D11 : s 11 = true := list_pos hT (d := 11) (by decide)
      have BW := S.before
      have cl := (BW.cell (p := ⟨P, 5, none⟩) lP).trans c5
      refine step_val (v := .slice (some ⟨g, 0, none⟩) m cap) (by simp only [execOp, e1, S.t11 D11]; go_simp) (hK _ _ ?_)
      rw [e2]
      exact ⟨S.off.put (by decide) _, S.before, fun g => by rw [eval_put_ne _ _ _ _ (by decide)]; exact S.t0 (by simpa using g), fun g => by rw [eval_put_ne _ _ _ _ (by decide)]; exact S.t1 (by simpa using g), fun g => by rw [eval_put_ne _ _ _ _ (by decide)]; exact S.t2 (by simpa using g), fun g => by rw [eval_put_ne _ _ _ _ (by decide)]; exact S.t3 (by simpa using g), fun g => by rw [eval_put_ne _ _ _ _ (by decide)]; exact S.t4 (by simpa using g), fun g => by rw [eval_put_ne _ _ _ _ (by decide)]; exact S.t5 (by simpa using g), fun g => by rw [eval_put_ne _ _ _ _ (by decide)]; exact S.t6 (by simpa using g), fun g => by rw [eval_put_ne _ _ _ _ (by decide)]; exact S.t7 (by simpa using g), fun g => by rw [eval_put_ne _ _ _ _ (by decide)]; exact S.t8 (by simpa using g), fun g => by rw [eval_put_ne _ _ _ _ (by decide)]; exact S.t9 (by simpa using g), fun g => by rw [eval_put_ne _ _ _ _ (by decide)]; exact S.t10 (by simpa using g), fun g => by rw [eval_put_ne _ _ _ _ (by decide)]; exact S.t11 (by simpa using g), fun _ => (eval_put _ _ _ (by omega)).trans rfl, fun g => by rw [eval_put_ne _ _ _ _ (by decide)]; exact S.t13 (by simpa using g), fun g => by rw [eval_put_ne _ _ _ _ (by decide)]; exact S.t14 (by simpa using g), fun g => by rw [eval_put_ne _ _ _ _ (by decide)]; exact S.t15 (by simpa using g), fun g => by rw [eval_put_ne _ _ _ _ (by decide)]; exact S.t16 (by simpa using g), fun g => by rw [eval_put_ne _ _ _ _ (by decide)]; exact S.t17 (by simpa using g), fun g => by rw [eval_put_ne _ _ _ _ (by decide)]; exact S.t18 (by simpa using g), fun g => by rw [eval_put_ne _ _ _ _ (by decide)]; exact S.t19 (by simpa using g), fun g => by rw [eval_put_ne _ _ _ _ (by decide)]; exact S.t20 (by simpa using g), fun g => by rw [eval_put_ne _ _ _ _ (by decide)]; exact S.t21 (by simpa using g), fun g => by rw [eval_put_ne _ _ _ _ (by decide)]; exact S.t22 (by simpa using g), fun g => by rw [eval_put_ne _ _ _ _ (by decide)]; exact S.t23 (by simpa using g), fun g => by rw [eval_put_ne _ _ _ _ (by decide)]; exact S.t24 (by simpa using g), fun g => (S.t25 (by simpa using g)).imp fun b hb => ⟨by rw [eval_put_ne _ _ _ _ (by decide)]; exact hb.1, hb.2⟩, fun g => (S.t26 (by simpa using g)).imp fun b hb => ⟨by rw [eval_put_ne _ _ _ _ (by decide)]; exact hb.1, hb.2⟩⟩
    | 13, _, ho, hsi, hT =>
      obtain ⟨e1, e2⟩ := pick_of h13 ho
      have D12 : s 12 = true := list_pos hT (d := 12) (by decide)
      have BW := S.before
      have q62 : a.tmps[62]'(by omega) = .slice (some ⟨g, 0, none⟩) m cap := by have := S.t12 D12; simpa [Act.eval, sz] using this
      refine step_val (v := .int .i64 (m : Nat)) (by simp only [execOp, e1]; go_simp) (hK _ _ ?_)
      rw [e2]
      exact ⟨S.off.put (by decide) _, S.before, fun g => by rw [eval_put_ne _ _ _ _ (by decide)]; exact S.t0 (by simpa using g), fun g => by rw [eval_put_ne _ _ _ _ (by decide)]; exact S.t1 (by simpa using g), fun g => by rw [eval_put_ne _ _ _ _ (by decide)]; exact S.t2 (by simpa using g), fun g => by rw [eval_put_ne _ _ _ _ (by decide)]; exact S.t3 (by simpa using g), fun g => by rw [eval_put_ne _ _ _ _ (by decide)]; exact S.t4 (by simpa using g), fun g => by rw [eval_put_ne _ _ _ _ (by decide)]; exact S.t5 (by simpa using g), fun g => by rw [eval_put_ne _ _ _ _ (by decide)]; exact S.t6 (by simpa using g), fun g => by rw [eval_put_ne _ _ _ _ (by decide)]; exact S.t7 (by simpa using g), fun g => by rw [eval_put_ne _ _ _ _ (by decide)]; exact S.t8 (by simpa using g), fun g => by rw [eval_put_ne _ _ _ _ (by decide)]; exact S.t9 (by simpa using g), fun g => by rw [eval_put_ne _ _ _ _ (by decide)]; exact S.t10 (by simpa using g), fun g => by rw [eval_put_ne _ _ _ _ (by decide)]; exact S.t11 (by simpa using g), fun g => by rw [eval_put_ne _ _ _ _ (by decide)]; exact S.t12 (by simpa using g), fun _ => (eval_put _ _ _ (by omega)).trans rfl, fun g => by rw [eval_put_ne _ _ _ _ (by decide)]; exact S.t14 (by simpa using g), fun g => by rw [eval_put_ne _ _ _ _ (by decide)]; exact S.t15 (by simpa using g), fun g => by rw [eval_put_ne _ _ _ _ (by decide)]; exact S.t16 (by simpa using g), fun g => by rw [eval_put_ne _ _ _ _ (by decide)]; exact S.t17 (by simpa using g), fun g => by rw [eval_put_ne _ _ _ _ (by decide)]; exact S.t18 (by simpa using g), fun g => by rw [eval_put_ne _ _ _ _ (by decide)]; exact S.t19 (by simpa using g), fun g => by rw [eval_put_ne _ _ _ _ (by decide)]; exact S.t20 (by simpa using g), fun g => by rw [eval_put_ne _ _ _ _ (by decide)]; exact S.t21 (by simpa using g), fun g => by rw [eval_put_ne _ _ _ _ (by decide)]; exact S.t22 (by simpa using g), fun g => by rw [eval_put_ne _ _ _ _ (by decide)]; exact S.t23 (by simpa using g), fun g => by rw [eval_put_ne _ _ _ _ (by decide)]; exact S.t24 (by simpa using g), fun g => (S.t25 (by simpa using g)).imp fun b hb => ⟨by rw [eval_put_ne _ _ _ _ (by decide)]; exact hb.1, hb.2⟩, fun g => (S.t26 (by simpa using g)).imp fun b hb => ⟨by rw [eval_put_ne _ _ _ _ (by decide)]; exact hb.1, hb.2⟩⟩
    | 14, _, ho, hsi, hT =>
      obtain ⟨e1, e2⟩ := pick_of h14 ho
      have D8 : s 8 = true := list_pos hT (d := 8) (by decide)
      have D13 : s 13 = true := list_pos hT (d := 13) (by decide)
      have BW := S.before
      refine step_val (v := .int .i64 (p : Nat)) (by simp only [execOp, e1, S.t8 D8, S.t13 D13]; go_simp; rw [IntKind.wrap_i64]; omega) (hK _ _ ?_)
      rw [e2]
      exact ⟨S.off.put (by decide) _, S.before, fun g => by rw [eval_put_ne _ _ _ _ (by decide)]; exact S.t0 (by simpa using g), fun g => by rw [eval_put_ne _ _ _ _ (by decide)]; exact S.t1 (by simpa using g), fun g => by rw [eval_put_ne _ _ _ _ (by decide)]; exact S.t2 (by simpa using g), fun g => by rw [eval_put_ne _ _ _ _ (by decide)]; exact S.t3 (by simpa using g), fun g => by rw [eval_put_ne _ _ _ _ (by decide)]; exact S.t4 (by simpa using g), fun g => by rw [eval_put_ne _ _ _ _ (by decide)]; exact S.t5 (by simpa using g), fun g => by rw [eval_put_ne _ _ _ _ (by decide)]; exact S.t6 (by simpa using g), fun g => by rw [eval_put_ne _ _ _ _ (by decide)]; exact S.t7 (by simpa using g), fun g => by rw [eval_put_ne _ _ _ _ (by decide)]; exact S.t8 (by simpa using g), fun g => by rw [eval_put_ne _ _ _ _ (by decide)]; exact S.t9 (by simpa using g), fun g => by rw [eval_put_ne _ _ _ _ (by decide)]; exact S.t10 (by simpa using g), fun g => by rw [eval_put_ne _ _ _ _ (by decide)]; exact S.t11 (by simpa using g), fun g => by rw [eval_put_ne _ _ _ _ (by decide)]; exact S.t12 (by simpa using g), fun g => by rw [eval_put_ne _ _ _ _ (by decide)]; exact S.t13 (by simpa using g), fun _ => (eval_put _ _ _ (by omega)).trans rfl, fun g => by rw [eval_put_ne _ _ _ _ (by decide)]; exact S.t15 (by simpa using g), fun g => by rw [eval_put_ne _ _ _ _ (by decide)]; exact S.t16 (by simpa using g), fun g => by rw [eval_put_ne _ _ _ _ (by decide)]; exact S.t17 (by simpa using g), fun g => by rw [eval_put_ne _ _ _ _ (by decide)]; exact S.t18 (by simpa using g), fun g => by rw [eval_put_ne _ _ _ _ (by decide)]; exact S.t19 (by simpa using g), fun g => by rw [eval_put_ne _ _ _ _ (by decide)]; exact S.t20 (by simpa using g), fun g => by rw [eval_put_ne _ _ _ _ (by decide)]; exact S.t21 (by simpa using g), fun g => by rw [eval_put_ne _ _ _ _ (by decide)]; exact S.t22 (by simpa using g), fun g => by rw [eval_put_ne _ _ _ _ (by decide)]; exact S.t23 (by simpa using g), fun g => by rw [eval_put_ne _ _ _ _ (by decide)]; exact S.t24 (by simpa using g), fun g => (S.t25 (by simpa using g)).imp fun b hb => ⟨by rw [eval_put_ne _ _ _ _ (by decide)]; exact hb.1, hb.2⟩, fun g => (S.t26 (by simpa using g)).imp fun b hb => ⟨by rw [eval_put_ne _ _ _ _ (by decide)]; exact hb.1, hb.2⟩⟩
    | 15, _, ho, hsi, hT =>
      obtain ⟨e1, e2⟩ := pick_of h15 ho
      have BW := S.before
      refine step_val (v := .pointer (some ⟨P, 0, none⟩)) (by simp only [execOp, e1, y0]; go_simp) (hK _ _ ?_)
      rw [e2]
      exact ⟨S.off.put (by decide) _, S.before, fun g => by rw [eval_put_ne _ _ _ _ (by decide)]; exact S.t0 (by simpa using g), fun g => by rw [eval_put_ne _ _ _ _ (by decide)]; exact S.t1 (by simpa using g), fun g => by rw [eval_put_ne _ _ _ _ (by decide)]; exact S.t2 (by simpa using g), fun g => by rw [eval_put_ne _ _ _ _ (by decide)]; exact S.t3 (by simpa using g), fun g => by rw [eval_put_ne _ _ _ _ (by decide)]; exact S.t4 (by simpa using g), fun g => by rw [eval_put_ne _ _ _ _ (by decide)]; exact S.t5 (by simpa using g), fun g => by rw [eval_put_ne _ _ _ _ (by decide)]; exact S.t6 (by simpa using g), fun g => by rw [eval_put_ne _ _ _ _ (by decide)]; exact S.t7 (by simpa using g), fun g => by rw [eval_put_ne _ _ _ _ (by decide)]; exact S.t8 (by simpa using g), fun g => by rw [eval_put_ne _ _ _ _ (by decide)]; exact S.t9 (by simpa using g), fun g => by rw [eval_put_ne _ _ _ _ (by decide)]; exact S.t10 (by simpa using g), fun g => by rw [eval_put_ne _ _ _ _ (by decide)]; exact S.t11 (by simpa using g), fun g => by rw [eval_put_ne _ _ _ _ (by decide)]; exact S.t12 (by simpa using g), fun g => by rw [eval_put_ne _ _ _ _ (by decide)]; exact S.t13 (by simpa using g), fun g => by rw [eval_put_ne _ _ _ _ (by decide)]; exact S.t14 (by simpa using g), fun _ => (eval_put _ _ _ (by omega)).trans rfl, fun g => by rw [eval_put_ne _ _ _ _ (by decide)]; exact S.t16 (by simpa using g), fun g => by rw [eval_put_ne _ _ _ _ (by decide)]; exact S.t17 (by simpa using g), fun g => by rw [eval_put_ne _ _ _ _ (by decide)]; exact S.t18 (by simpa using g), fun g => by rw [eval_put_ne _ _ _ _ (by decide)]; exact S.t19 (by simpa using g), fun g => by rw [eval_put_ne _ _ _ _ (by decide)]; exact S.t20 (by simpa using g), fun g => by rw [eval_put_ne _ _ _ _ (by decide)]; exact S.t21 (by simpa using g), fun g => by rw [eval_put_ne _ _ _ _ (by decide)]; exact S.t22 (by simpa using g), fun g => by rw [eval_put_ne _ _ _ _ (by decide)]; exact S.t23 (by simpa using g), fun g => by rw [eval_put_ne _ _ _ _ (by decide)]; exact S.t24 (by simpa using g), fun g => (S.t25 (by simpa using g)).imp fun b hb => ⟨by rw [eval_put_ne _ _ _ _ (by decide)]; exact hb.1, hb.2⟩, fun g => (S.t26 (by simpa using g)).imp fun b hb => ⟨by rw [eval_put_ne _ _ _ _ (by decide)]; exact hb.1, hb.2⟩⟩
    | 16, _, ho, hsi, hT =>
      obtain ⟨e1, e2⟩ := pick_of h16 ho
      have D15 : s 15 = true := list_pos hT (d := 15) (by decide)
      have BW := S.before
      refine step_val (v := .pointer (some ⟨P, 0, none⟩)) (by simp only [execOp, e1, S.t15 D15]; go_simp) (hK _ _ ?_)
      rw [e2]
      exact ⟨S.off.put (by decide) _, S.before, fun g => by rw [eval_put_ne _ _ _ _ (by decide)]; exact S.t0 (by simpa using g), fun g => by rw [eval_put_ne _ _ _ _ (by decide)]; exact S.t1 (by simpa using g), fun g => by rw [eval_put_ne _ _ _ _ (by decide)]; exact S.t2 (by simpa using g), fun g => by rw [eval_put_ne _ _ _ _ (by decide)]; exact S.t3 (by simpa using g), fun g => by rw [eval_put_ne _ _ _ _ (by decide)]; exact S.t4 (by simpa using g), fun g => by rw [eval_put_ne _ _ _ _ (by decide)]; exact S.t5 (by simpa using g), fun g => by rw [eval_put_ne _ _ _ _ (by decide)]; exact S.t6 (by simpa using g), fun g => by rw [eval_put_ne _ _ _ _ (by decide)]; exact S.t7 (by simpa using g), fun g => by rw [eval_put_ne _ _ _ _ (by decide)]; exact S.t8 (by simpa using g), fun g => by rw [eval_put_ne _ _ _ _ (by decide)]; exact S.t9 (by simpa using g), fun g => by rw [eval_put_ne _ _ _ _ (by decide)]; exact S.t10 (by simpa using g), fun g => by rw [eval_put_ne _ _ _ _ (by decide)]; exact S.t11 (by simpa using g), fun g => by rw [eval_put_ne _ _ _ _ (by decide)]; exact S.t12 (by simpa using g), fun g => by rw [eval_put_ne _ _ _ _ (by decide)]; exact S.t13 (by simpa using g), fun g => by rw [eval_put_ne _ _ _ _ (by decide)]; exact S.t14 (by simpa using g), fun g => by rw [eval_put_ne _ _ _ _ (by decide)]; exact S.t15 (by simpa using g), fun _ => (eval_put _ _ _ (by omega)).trans rfl, fun g => by rw [eval_put_ne _ _ _ _ (by decide)]; exact S.t17 (by simpa using g), fun g => by rw [eval_put_ne _ _ _ _ (by decide)]; exact S.t18 (by simpa using g), fun g => by rw [eval_put_ne _ _ _ _ (by decide)]; exact S.t19 (by simpa using g), fun g => by rw [eval_put_ne _ _ _ _ (by decide)]; exact S.t20 (by simpa using g), fun g => by rw [eval_put_ne _ _ _ _ (by decide)]; exact S.t21 (by simpa using g), fun g => by rw [eval_put_ne _ _ _ _ (by decide)]; exact S.t22 (by simpa using g), fun g => by rw [eval_put_ne _ _ _ _ (by decide)]; exact S.t23 (by simpa using g), fun g => by rw [eval_put_ne _ _ _ _ (by decide)]; exact S.t24 (by simpa using g), fun g => (S.t25 (by simpa using g)).imp fun b hb => ⟨by rw [eval_put_ne _ _ _ _ (by decide)]; exact hb.1, hb.2⟩, fun g => (S.t26 (by simpa using g)).imp fun b hb => ⟨by rw [eval_put_ne _ _ _ _ (by decide)]; exact hb.1, hb.2⟩⟩
    | 17, _, ho, hsi, hT =>
      obtain ⟨e1, e2⟩ := pick_of h17 ho
      have D16 : s 16 = true := list_pos hT (d := 16) (by decide)
      have BW := S.before
      refine step_val (v := .pointer (some ⟨P, 5, none⟩)) (by simp only [execOp, e1, S.t16 D16]; go_simp) (hK _ _ ?_)
      rw [e2]
      exact ⟨S.off.put (by decide) _, S.before, fun g => by rw [eval_put_ne _ _ _ _ (by decide)]; exact S.t0 (by simpa using g), fun g => by rw [eval_put_ne _ _ _ _ (by decide)]; exact S.t1 (by simpa using g), fun g => by rw [eval_put_ne _ _ _ _ (by decide)]; exact S.t2 (by simpa using g), fun g => by rw [eval_put_ne _ _ _ _ (by decide)]; exact S.t3 (by simpa using g), fun g => by rw [eval_put_ne _ _ _ _ (by decide)]; exact S.t4 (by simpa using g), fun g => by rw [eval_put_ne _ _ _ _ (by decide)]; exact S.t5 (by simpa using g), fun g => by rw [eval_put_ne _ _ _ _ (by decide)]; exact S.t6 (by simpa using g), fun g => by rw [eval_put_ne _ _ _ _ (by decide)]; exact S.t7 (by simpa using g), fun g => by rw [eval_put_ne _ _ _ _ (by decide)]; exact S.t8 (by simpa using g), fun g => by rw [eval_put_ne _ _ _ _ (by decide)]; exact S.t9 (by simpa using g), fun g => by rw [eval_put_ne _ _ _ _ (by decide)]; exact S.t10 (by simpa using g), fun g => by rw [eval_put_ne _ _ _ _ (by decide)]; exact S.t11 (by simpa using g), fun g => by rw [eval_put_ne _ _ _ _ (by decide)]; exact S.t12 (by simpa using g), fun g => by rw [eval_put_ne _ _ _ _ (by decide)]; exact S.t13 (by simpa using g), fun g => by rw [eval_put_ne _ _ _ _ (by decide)]; exact S.t14 (by simpa using g), fun g => by rw [eval_put_ne _ _ _ _ (by decide)]; exact S.t15 (by simpa using g), fun g => by rw [eval_put_ne _ _ _ _ (by decide)]; exact S.t16 (by simpa using g), fun _ => (eval_put _ _ _ (by omega)).trans rfl, fun g => by rw [eval_put_ne _ _ _ _ (by decide)]; exact S.t18 (by simpa using g), fun g => by rw [eval_put_ne _ _ _ _ (by decide)]; exact S.t19 (by simpa using g), fun g => by rw [eval_put_ne _ _ _ _ (by decide)]; exact S.t20 (by simpa using g), fun g => by rw [eval_put_ne _ _ _ _ (by decide)]; exact S.t21 (by simpa using g), fun g => by rw [eval_put_ne _ _ _ _ (by decide)]; exact S.t22 (by simpa using g), fun g => by rw [eval_put_ne _ _ _ _ (by decide)]; exact S.t23 (by simpa using g), fun g => by rw [eval_put_ne _ _ _ _ (by decide)]; exact S.t24 (by simpa using g), fun g => (S.t25 (by simpa using g)).imp fun b hb => ⟨by rw [eval_put_ne _ _ _ _ (by decide)]; exact hb.1, hb.2⟩, fun g => (S.t26 (by simpa using g)).imp fun b hb => ⟨by rw [eval_put_ne _ _ _ _ (by decide)]; exact hb.1, hb.2⟩⟩
    | 18, _, ho, hsi, hT =>
      obtain ⟨e1, e2⟩ := pick_of h18 ho
      have D17 : s 17 = true := list_pos hT (d := 17) (by decide)
      have BW := S.before
      have cl := (BW.cell (p := ⟨P, 5, none⟩) lP).trans c5
      refine step_val (v := .slice (some ⟨g, 0, none⟩) m cap) (by simp only [execOp, e1, S.t17 D17]; go_simp) (hK _ _ ?_)
      rw [e2]
      exact ⟨S.off.put (by decide) _, S.before, fun g => by rw [eval_put_ne _ _ _ _ (by decide)]; exact S.t0 (by simpa using g), fun g => by rw [eval_put_ne _ _ _ _ (by decide)]; exact S.t1 (by simpa using g), fun g => by rw [eval_put_ne _ _ _ _ (by decide)]; exact S.t2 (by simpa using g), fun g => by rw [eval_put_ne _ _ _ _ (by decide)]; exact S.t3 (by simpa using g), fun g => by rw [eval_put_ne _ _ _ _ (by decide)]; exact S.t4 (by simpa using g), fun g => by rw [eval_put_ne _ _ _ _ (by decide)]; exact S.t5 (by simpa using g), fun g => by rw [eval_put_ne _ _ _ _ (by decide)]; exact S.t6 (by simpa using g), fun g => by rw [eval_put_ne _ _ _ _ (by decide)]; exact S.t7 (by simpa using g), fun g => by rw [eval_put_ne _ _ _ _ (by decide)]; exact S.t8 (by simpa using g), fun g => by rw [eval_put_ne _ _ _ _ (by decide)]; exact S.t9 (by simpa using g), fun g => by rw [eval_put_ne _ _ _ _ (by decide)]; exact S.t10 (by simpa using g), fun g => by rw [eval_put_ne _ _ _ _ (by decide)]; exact S.t11 (by simpa using g), fun g => by rw [eval_put_ne _ _ _ _ (by decide)]; exact S.t12 (by simpa using g), fun g => by rw [eval_put_ne _ _ _ _ (by decide)]; exact S.t13 (by simpa using g), fun g => by rw [eval_put_ne _ _ _ _ (by decide)]; exact S.t14 (by simpa using g), fun g => by rw [eval_put_ne _ _ _ _ (by decide)]; exact S.t15 (by simpa using g), fun g => by rw [eval_put_ne _ _ _ _ (by decide)]; exact S.t16 (by simpa using g), fun g => by rw [eval_put_ne _ _ _ _ (by decide)]; exact S.t17 (by simpa using g), fun _ => (eval_put _ _ _ (by omega)).trans rfl, fun g => by rw [eval_put_ne _ _ _ _ (by decide)]; exact S.t19 (by simpa using g), fun g => by rw [eval_put_ne _ _ _ _ (by decide)]; exact S.t20 (by simpa using g), fun g => by rw [eval_put_ne _ _ _ _ (by decide)]; exact S.t21 (by simpa using g), fun g => by rw [eval_put_ne _ _ _ _ (by decide)]; exact S.t22 (by simpa using g), fun g => by rw [eval_put_ne _ _ _ _ (by decide)]; exact S.t23 (by simpa using g), fun g => by rw [eval_put_ne _ _ _ _ (by decide)]; exact S.t24 (by simpa using g), fun g => (S.t25 (by simpa using g)).imp fun b hb => ⟨by rw [eval_put_ne _ _ _ _ (by decide)]; exact hb.1, hb.2⟩, fun g => (S.t26 (by simpa using g)).imp fun b hb => ⟨by rw [eval_put_ne _ _ _ _ (by decide)]; exact hb.1, hb.2⟩⟩
    | 19, _, ho, hsi, hT =>
      obtain ⟨e1, e2⟩ := pick_of h19 ho
      have D18 : s 18 = true := list_pos hT (d := 18) (by decide)
      have BW := S.before
      refine step_call 45 (fun args w => by go_simp) _ _ e1 #[.slice (some ⟨g, 0, none⟩) m cap] (by simp only [List.map_toArray, List.map_cons, List.map_nil, S.t18 D18]) ((wrongBits_any (some ⟨g, 0, none⟩) cap ks m hkl h32 hc hl w' (RI.below BW)).mono ?_)
      rintro e w2 ⟨rfl, BB⟩
      refine ⟨_, rfl, hK _ _ ?_⟩
      rw [e2]
      exact ⟨S.off.put (by decide) _, bt BW BB, fun g => by rw [eval_put_ne _ _ _ _ (by decide)]; exact S.t0 (by simpa using g), fun g => by rw [eval_put_ne _ _ _ _ (by decide)]; exact S.t1 (by simpa using g), fun g => by rw [eval_put_ne _ _ _ _ (by decide)]; exact S.t2 (by simpa using g), fun g => by rw [eval_put_ne _ _ _ _ (by decide)]; exact S.t3 (by simpa using g), fun g => by rw [eval_put_ne _ _ _ _ (by decide)]; exact S.t4 (by simpa using g), fun g => by rw [eval_put_ne _ _ _ _ (by decide)]; exact S.t5 (by simpa using g), fun g => by rw [eval_put_ne _ _ _ _ (by decide)]; exact S.t6 (by simpa using g), fun g => by rw [eval_put_ne _ _ _ _ (by decide)]; exact S.t7 (by simpa using g), fun g => by rw [eval_put_ne _ _ _ _ (by decide)]; exact S.t8 (by simpa using g), fun g => by rw [eval_put_ne _ _ _ _ (by decide)]; exact S.t9 (by simpa using g), fun g => by rw [eval_put_ne _ _ _ _ (by decide)]; exact S.t10 (by simpa using g), fun g => by rw [eval_put_ne _ _ _ _ (by decide)]; exact S.t11 (by simpa using g), fun g => by rw [eval_put_ne _ _ _ _ (by decide)]; exact S.t12 (by simpa using g), fun g => by rw [eval_put_ne _ _ _ _ (by decide)]; exact S.t13 (by simpa using g), fun g => by rw [eval_put_ne _ _ _ _ (by decide)]; exact S.t14 (by simpa using g), fun g => by rw [eval_put_ne _ _ _ _ (by decide)]; exact S.t15 (by simpa using g), fun g => by rw [eval_put_ne _ _ _ _ (by decide)]; exact S.t16 (by simpa using g), fun g => by rw [eval_put_ne _ _ _ _ (by decide)]; exact S.t17 (by simpa using g), fun g => by rw [eval_put_ne _ _ _ _ (by decide)]; exact S.t18 (by simpa using g), fun _ => (eval_put _ _ _ (by omega)).trans rfl, fun g => by rw [eval_put_ne _ _ _ _ (by decide)]; exact S.t20 (by simpa using g), fun g => by rw [eval_put_ne _ _ _ _ (by decide)]; exact S.t21 (by simpa using g), fun g => by rw [eval_put_ne _ _ _ _ (by decide)]; exact S.t22 (by simpa using g), fun g => by rw [eval_put_ne _ _ _ _ (by decide)]; exact S.t23 (by simpa using g), fun g => by rw [eval_put_ne _ _ _ _ (by decide)]; exact S.t24 (by simpa using g), fun g => (S.t25 (by simpa using g)).imp fun b hb => ⟨by rw [eval_put_ne _ _ _ _ (by decide)]; exact hb.1, (OwnI.mono hb.2 BB)⟩, fun g => (S.t26 (by simpa using g)).imp fun b hb => ⟨by rw [eval_put_ne _ _ _ _ (by decide)]; exact hb.1, (BkV.mono hb.2 BB)⟩⟩
    | 20, _, ho, hsi, hT =>
      obtain ⟨e1, e2⟩ := pick_of h20 ho
      have BW := S.before
      refine step_val (v := .pointer (some ⟨P, 0, none⟩)) (by simp only [execOp, e1, y0]; go_simp) (hK _ _ ?_)
      rw [e2]
      exact ⟨S.off.put (by decide) _, S.before, fun g => by rw [eval_put_ne _ _ _ _ (by decide)]; exact S.t0 (by simpa using g), fun g => by rw [eval_put_ne _ _ _ _ (by decide)]; exact S.t1 (by simpa using g), fun g => by rw [eval_put_ne _ _ _ _ (by decide)]; exact S.t2 (by simpa using g), fun g => by rw [eval_put_ne _ _ _ _ (by decide)]; exact S.t3 (by simpa using g), fun g => by rw [eval_put_ne _ _ _ _ (by decide)]; exact S.t4 (by simpa using g), fun g => by rw [eval_put_ne _ _ _ _ (by decide)]; exact S.t5 (by simpa using g), fun g => by rw [eval_put_ne _ _ _ _ (by decide)]; exact S.t6 (by simpa using g), fun g => by rw [eval_put_ne _ _ _ _ (by decide)]; exact S.t7 (by simpa using g), fun g => by rw [eval_put_ne _ _ _ _ (by decide)]; exact S.t8 (by simpa using g), fun g => by rw [eval_put_ne _ _ _ _ (by decide)]; exact S.t9 (by simpa using g), fun g => by rw [eval_put_ne _ _ _ _ (by decide)]; exact S.t10 (by simpa using g), fun g => by rw [eval_put_ne _ _ _ _ (by decide)]; exact S.t11 (by simpa using g), fun g => by rw [eval_put_ne _ _ _ _ (by decide)]; exact S.t12 (by simpa using g), fun g => by rw [eval_put_ne _ _ _ _ (by decide)]; exact S.t13 (by simpa using g), fun g => by rw [eval_put_ne _ _ _ _ (by decide)]; exact S.t14 (by simpa using g), fun g => by rw [eval_put_ne _ _ _ _ (by decide)]; exact S.t15 (by simpa using g), fun g => by rw [eval_put_ne _ _ _ _ (by decide)]; exact S.t16 (by simpa using g), fun g => by rw [eval_put_ne _ _ _ _ (by decide)]; exact S.t17 (by simpa using g), fun g => by rw [eval_put_ne _ _ _ _ (by decide)]; exact S.t18 (by simpa using g), fun g => by rw [eval_put_ne _ _ _ _ (by decide)]; exact S.t19 (by simpa using g), fun _ => (eval_put _ _ _ (by omega)).trans rfl, fun g => by rw [eval_put_ne _ _ _ _ (by decide)]; exact S.t21 (by simpa using g), fun g => by rw [eval_put_ne _ _ _ _ (by decide)]; exact S.t22 (by simpa using g), fun g => by rw [eval_put_ne _ _ _ _ (by decide)]; exact S.t23 (by simpa using g), fun g => by rw [eval_put_ne _ _ _ _ (by decide)]; exact S.t24 (by simpa using g), fun g => (S.t25 (by simpa using g)).imp fun b hb => ⟨by rw [eval_put_ne _ _ _ _ (by decide)]; exact hb.1, hb.2⟩, fun g => (S.t26 (by simpa using g)).imp fun b hb => ⟨by rw [eval_put_ne _ _ _ _ (by decide)]; exact hb.1, hb.2⟩⟩
    | 21, _, ho, hsi, hT =>
      obtain ⟨e1, e2⟩ := pick_of h21 ho
      have D20 : s 20 = true := list_pos hT (d := 20) (by decide)
      have BW := S.before
      refine step_val (v := .pointer (some ⟨P, 0, none⟩)) (by simp only [execOp, e1, S.t20 D20]; go_simp) (hK _ _ ?_)
      rw [e2]
      exact ⟨S.off.put (by decide) _, S.before, fun g => by rw [eval_put_ne _ _ _ _ (by decide)]; exact S.t0 (by simpa using g), fun g => by rw [eval_put_ne _ _ _ _ (by decide)]; exact S.t1 (by simpa using g), fun g => by rw [eval_put_ne _ _ _ _ (by decide)]; exact S.t2 (by simpa using g), fun g => by rw [eval_put_ne _ _ _ _ (by decide)]; exact S.t3 (by simpa using g), fun g => by rw [eval_put_ne _ _ _ _ (by decide)]; exact S.t4 (by simpa using g), fun g => by rw [eval_put_ne _ _ _ _ (by decide)]; exact S.t5 (by simpa using g), fun g => by rw [eval_put_ne _ _ _ _ (by decide)]; exact S.t6 (by simpa using g), fun g => by rw [eval_put_ne _ _ _ _ (by decide)]; exact S.t7 (by simpa using g), fun g => by rw [eval_put_ne _ _ _ _ (by decide)]; exact S.t8 (by simpa using g), fun g => by rw [eval_put_ne _ _ _ _ (by decide)]; exact S.t9 (by simpa using g), fun g => by rw [eval_put_ne _ _ _ _ (by decide)]; exact S.t10 (by simpa using g), fun g => by rw [eval_put_ne _ _ _ _ (by decide)]; exact S.t11 (by simpa using g), fun g => by rw [eval_put_ne _ _ _ _ (by decide)]; exact S.t12 (by simpa using g), fun g => by rw [eval_put_ne _ _ _ _ (by decide)]; exact S.t13 (by simpa using g), fun g => by rw [eval_put_ne _ _ _ _ (by decide)]; exact S.t14 (by simpa using g), fun g => by rw [eval_put_ne _ _ _ _ (by decide)]; exact S.t15 (by simpa using g), fun g => by rw [eval_put_ne _ _ _ _ (by decide)]; exact S.t16 (by simpa using g), fun g => by rw [eval_put_ne _ _ _ _ (by decide)]; exact S.t17 (by simpa using g), fun g => by rw [eval_put_ne _ _ _ _ (by decide)]; exact S.t18 (by simpa using g), fun g => by rw [eval_put_ne _ _ _ _ (by decide)]; exact S.t19 (by simpa using g), fun g => by rw [eval_put_ne _ _ _ _ (by decide)]; exact S.t20 (by simpa using g), fun _ => (eval_put _ _ _ (by omega)).trans rfl, fun g => by rw [eval_put_ne _ _ _ _ (by decide)]; exact S.t22 (by simpa using g), fun g => by rw [eval_put_ne _ _ _ _ (by decide)]; exact S.t23 (by simpa using g), fun g => by rw [eval_put_ne _ _ _ _ (by decide)]; exact S.t24 (by simpa using g), fun g => (S.t25 (by simpa using g)).imp fun b hb => ⟨by rw [eval_put_ne _ _ _ _ (by decide)]; exact hb.1, hb.2⟩, fun g => (S.t26 (by simpa using g)).imp fun b hb => ⟨by rw [eval_put_ne _ _ _ _ (by decide)]; exact hb.1, hb.2⟩⟩
    | 22, _, ho, hsi, hT =>
      obtain ⟨e1, e2⟩ := pick_of h22 ho
      have D21 : s 21 = true := list_pos hT (d := 21) (by decide)
      have BW := S.before
      refine step_val (v := .pointer (some ⟨P, 5, none⟩)) (by simp only [execOp, e1, S.t21 D21]; go_simp) (hK _ _ ?_)
      rw [e2]
      exact ⟨S.off.put (by decide) _, S.before, fun g => by rw [eval_put_ne _ _ _ _ (by decide)]; exact S.t0 (by simpa using g), fun g => by rw [eval_put_ne _ _ _ _ (by decide)]; exact S.t1 (by simpa using g), fun g => by rw [eval_put_ne _ _ _ _ (by decide)]; exact S.t2 (by simpa using g), fun g => by rw [eval_put_ne _ _ _ _ (by decide)]; exact S.t3 (by simpa using g), fun g => by rw [eval_put_ne _ _ _ _ (by decide)]; exact S.t4 (by simpa using g), fun g => by rw [eval_put_ne _ _ _ _ (by decide)]; exact S.t5 (by simpa using g), fun g => by rw [eval_put_ne _ _ _ _ (by decide)]; exact S.t6 (by simpa using g), fun g => by rw [eval_put_ne _ _ _ _ (by decide)]; exact S.t7 (by simpa using g), fun g => by rw [eval_put_ne _ _ _ _ (by decide)]; exact S.t8 (by simpa using g), fun g => by rw [eval_put_ne _ _ _ _ (by decide)]; exact S.t9 (by simpa using g), fun g => by rw [eval_put_ne _ _ _ _ (by decide)]; exact S.t10 (by simpa using g), fun g => by rw [eval_put_ne _ _ _ _ (by decide)]; exact S.t11 (by simpa using g), fun g => by rw [eval_put_ne _ _ _ _ (by decide)]; exact S.t12 (by simpa using g), fun g => by rw [eval_put_ne _ _ _ _ (by decide)]; exact S.t13 (by simpa using g), fun g => by rw [eval_put_ne _ _ _ _ (by decide)]; exact S.t14 (by simpa using g), fun g => by rw [eval_put_ne _ _ _ _ (by decide)]; exact S.t15 (by simpa using g), fun g => by rw [eval_put_ne _ _ _ _ (by decide)]; exact S.t16 (by simpa using g), fun g => by rw [eval_put_ne _ _ _ _ (by decide)]; exact S.t17 (by simpa using g), fun g => by rw [eval_put_ne _ _ _ _ (by decide)]; exact S.t18 (by simpa using g), fun g => by rw [eval_put_ne _ _ _ _ (by decide)]; exact S.t19 (by simpa using g), fun g => by rw [eval_put_ne _ _ _ _ (by decide)]; exact S.t20 (by simpa using g), fun g => by rw [eval_put_ne _ _ _ _ (by decide)]; exact S.t21 (by simpa using g), fun _ => (eval_put _ _ _ (by omega)).trans rfl, fun g => by rw [eval_put_ne _ _ _ _ (by decide)]; exact S.t23 (by simpa using g), fun g => by rw [eval_put_ne _ _ _ _ (by decide)]; exact S.t24 (by simpa using g), fun g => (S.t25 (by simpa using g)).imp fun b hb => ⟨by rw [eval_put_ne _ _ _ _ (by decide)]; exact hb.1, hb.2⟩, fun g => (S.t26 (by simpa using g)).imp fun b hb => ⟨by rw [eval_put_ne _ _ _ _ (by decide)]; exact hb.1, hb.2⟩⟩
    | 23, _, ho, hsi, hT =>
      obtain ⟨e1, e2⟩ := pick_of h23 ho
      have D22 : s 22 = true := list_pos hT (d := 22) (by decide)
      have BW := S.before
      have cl := (BW.cell (p := ⟨P, 5, none⟩) lP).trans c5
      refine step_val (v := .slice (some ⟨g, 0, none⟩) m cap) (by simp only [execOp, e1, S.t22 D22]; go_simp) (hK _ _ ?_)
      rw [e2]
      exact ⟨S.off.put (by decide) _, S.before, fun g => by rw [eval_put_ne _ _ _ _ (by decide)]; exact S.t0 (by simpa using g), fun g => by rw [eval_put_ne _ _ _ _ (by decide)]; exact S.t1 (by simpa using g), fun g => by rw [eval_put_ne _ _ _ _ (by decide)]; exact S.t2 (by simpa using g), fun g => by rw [eval_put_ne _ _ _ _ (by decide)]; exact S.t3 (by simpa using g), fun g => by rw [eval_put_ne _ _ _ _ (by decide)]; exact S.t4 (by simpa using g), fun g => by rw [eval_put_ne _ _ _ _ (by decide)]; exact S.t5 (by simpa using g), fun g => by rw [eval_put_ne _ _ _ _ (by decide)]; exact S.t6 (by simpa using g), fun g => by rw [eval_put_ne _ _ _ _ (by decide)]; exact S.t7 (by simpa using g), fun g => by rw [eval_put_ne _ _ _ _ (by decide)]; exact S.t8 (by simpa using g), fun g => by rw [eval_put_ne _ _ _ _ (by decide)]; exact S.t9 (by simpa using g), fun g => by rw [eval_put_ne _ _ _ _ (by decide)]; exact S.t10 (by simpa using g), fun g => by rw [eval_put_ne _ _ _ _ (by decide)]; exact S.t11 (by simpa using g), fun g => by rw [eval_put_ne _ _ _ _ (by decide)]; exact S.t12 (by simpa using g), fun g => by rw [eval_put_ne _ _ _ _ (by decide)]; exact S.t13 (by simpa using g), fun g => by rw [eval_put_ne _ _ _ _ (by decide)]; exact S.t14 (by simpa using g), fun g => by rw [eval_put_ne _ _ _ _ (by decide)]; exact S.t15 (by simpa using g), fun g => by rw [eval_put_ne _ _ _ _ (by decide)]; exact S.t16 (by simpa using g), fun g => by rw [eval_put_ne _ _ _ _ (by decide)]; exact S.t17 (by simpa using g), fun g => by rw [eval_put_ne _ _ _ _ (by decide)]; exact S.t18 (by simpa using g), fun g => by rw [eval_put_ne _ _ _ _ (by decide)]; exact S.t19 (by simpa using g), fun g => by rw [eval_put_ne _ _ _ _ (by decide)]; exact S.t20 (by simpa using g), fun g => by rw [eval_put_ne _ _ _ _ (by decide)]; exact S.t21 (by simpa using g), fun g => by rw [eval_put_ne _ _ _ _ (by decide)]; exact S.t22 (by simpa using g), fun _ => (eval_put _ _ _ (by omega)).trans rfl, fun g => by rw [eval_put_ne _ _ _ _ (by decide)]; exact S.t24 (by simpa using g), fun g => (S.t25 (by simpa using g)).imp fun b hb => ⟨by rw [eval_put_ne _ _ _ _ (by decide)]; exact hb.1, hb.2⟩, fun g => (S.t26 (by simpa using g)).imp fun b hb => ⟨by rw [eval_put_ne _ _ _ _ (by decide)]; exact hb.1, hb.2⟩⟩
    | 24, _, ho, hsi, hT =>
      obtain ⟨e1, e2⟩ := pick_of h24 ho
      have D23 : s 23 = true := list_pos hT (d := 23) (by decide)
      have BW := S.before
      refine step_val (v := .slice (some ⟨g, 32, none⟩) md (cap - 32)) (by simp only [execOp, e1, Option.map_none, Option.map_some, S.t23 D23]; go_simp; rw [if_pos (by omega), show m - 32 = md by omega]; rw [if_neg (by omega)]) (hK _ _ ?_)
      rw [e2]
      exact ⟨S.off.put (by decide) _, S.before, fun g => by rw [eval_put_ne _ _ _ _ (by decide)]; exact S.t0 (by simpa using g), fun g => by rw [eval_put_ne _ _ _ _ (by decide)]; exact S.t1 (by simpa using g), fun g => by rw [eval_put_ne _ _ _ _ (by decide)]; exact S.t2 (by simpa using g), fun g => by rw [eval_put_ne _ _ _ _ (by decide)]; exact S.t3 (by simpa using g), fun g => by rw [eval_put_ne _ _ _ _ (by decide)]; exact S.t4 (by simpa using g), fun g => by rw [eval_put_ne _ _ _ _ (by decide)]; exact S.t5 (by simpa using g), fun g => by rw [eval_put_ne _ _ _ _ (by decide)]; exact S.t6 (by simpa using g), fun g => by rw [eval_put_ne _ _ _ _ (by decide)]; exact S.t7 (by simpa using g), fun g => by rw [eval_put_ne _ _ _ _ (by decide)]; exact S.t8 (by simpa using g), fun g => by rw [eval_put_ne _ _ _ _ (by decide)]; exact S.t9 (by simpa using g), fun g => by rw [eval_put_ne _ _ _ _ (by decide)]; exact S.t10 (by simpa using g), fun g => by rw [eval_put_ne _ _ _ _ (by decide)]; exact S.t11 (by simpa using g), fun g => by rw [eval_put_ne _ _ _ _ (by decide)]; exact S.t12 (by simpa using g), fun g => by rw [eval_put_ne _ _ _ _ (by decide)]; exact S.t13 (by simpa using g), fun g => by rw [eval_put_ne _ _ _ _ (by decide)]; exact S.t14 (by simpa using g), fun g => by rw [eval_put_ne _ _ _ _ (by decide)]; exact S.t15 (by simpa using g), fun g => by rw [eval_put_ne _ _ _ _ (by decide)]; exact S.t16 (by simpa using g), fun g => by rw [eval_put_ne _ _ _ _ (by decide)]; exact S.t17 (by simpa using g), fun g => by rw [eval_put_ne _ _ _ _ (by decide)]; exact S.t18 (by simpa using g), fun g => by rw [eval_put_ne _ _ _ _ (by decide)]; exact S.t19 (by simpa using g), fun g => by rw [eval_put_ne _ _ _ _ (by decide)]; exact S.t20 (by simpa using g), fun g => by rw [eval_put_ne _ _ _ _ (by decide)]; exact S.t21 (by simpa using g), fun g => by rw [eval_put_ne _ _ _ _ (by decide)]; exact S.t22 (by simpa using g), fun g => by rw [eval_put_ne _ _ _ _ (by decide)]; exact S.t23 (by simpa using g), fun _ => (eval_put _ _ _ (by omega)).trans rfl, fun g => (S.t25 (by simpa using g)).imp fun b hb => ⟨by rw [eval_put_ne _ _ _ _ (by decide)]; exact hb.1, hb.2⟩, fun g => (S.t26 (by simpa using g)).imp fun b hb => ⟨by rw [eval_put_ne _ _ _ _ (by decide)]; exact hb.1, hb.2⟩⟩
    | 25, _, ho, hsi, hT =>
      obtain ⟨e1, e2⟩ := pick_of h25 ho
      have D24 : s 24 = true := list_pos hT (d := 24) (by decide)
      have BW := S.before
      refine step_call 47 (fun args w => by go_simp) _ _ e1 #[.slice (some ⟨g, 32, none⟩) md (cap - 32)] (by simp only [List.map_toArray, List.map_cons, List.map_nil, S.t24 D24]) ((cloneI_any n0 g 32 md (cap - 32) news hnl (by omega) (by omega) w' (Nat.le_trans hn0 BW.size) (fun j u hu => (BW.cell (p := ⟨g, 32 + j, none⟩) lg).trans (hnews j u hu)) hone).mono ?_)
      rintro e w2 ⟨v, rfl, FF, BB⟩
      refine ⟨_, rfl, hK _ _ ?_⟩
      rw [e2]
      exact ⟨S.off.put (by decide) _, bt BW BB, fun g => by rw [eval_put_ne _ _ _ _ (by decide)]; exact S.t0 (by simpa using g), fun g => by rw [eval_put_ne _ _ _ _ (by decide)]; exact S.t1 (by simpa using g), fun g => by rw [eval_put_ne _ _ _ _ (by decide)]; exact S.t2 (by simpa using g), fun g => by rw [eval_put_ne _ _ _ _ (by decide)]; exact S.t3 (by simpa using g), fun g => by rw [eval_put_ne _ _ _ _ (by decide)]; exact S.t4 (by simpa using g), fun g => by rw [eval_put_ne _ _ _ _ (by decide)]; exact S.t5 (by simpa using g), fun g => by rw [eval_put_ne _ _ _ _ (by decide)]; exact S.t6 (by simpa using g), fun g => by rw [eval_put_ne _ _ _ _ (by decide)]; exact S.t7 (by simpa using g), fun g => by rw [eval_put_ne _ _ _ _ (by decide)]; exact S.t8 (by simpa using g), fun g => by rw [eval_put_ne _ _ _ _ (by decide)]; exact S.t9 (by simpa using g), fun g => by rw [eval_put_ne _ _ _ _ (by decide)]; exact S.t10 (by simpa using g), fun g => by rw [eval_put_ne _ _ _ _ (by decide)]; exact S.t11 (by simpa using g), fun g => by rw [eval_put_ne _ _ _ _ (by decide)]; exact S.t12 (by simpa using g), fun g => by rw [eval_put_ne _ _ _ _ (by decide)]; exact S.t13 (by simpa using g), fun g => by rw [eval_put_ne _ _ _ _ (by decide)]; exact S.t14 (by simpa using g), fun g => by rw [eval_put_ne _ _ _ _ (by decide)]; exact S.t15 (by simpa using g), fun g => by rw [eval_put_ne _ _ _ _ (by decide)]; exact S.t16 (by simpa using g), fun g => by rw [eval_put_ne _ _ _ _ (by decide)]; exact S.t17 (by simpa using g), fun g => by rw [eval_put_ne _ _ _ _ (by decide)]; exact S.t18 (by simpa using g), fun g => by rw [eval_put_ne _ _ _ _ (by decide)]; exact S.t19 (by simpa using g), fun g => by rw [eval_put_ne _ _ _ _ (by decide)]; exact S.t20 (by simpa using g), fun g => by rw [eval_put_ne _ _ _ _ (by decide)]; exact S.t21 (by simpa using g), fun g => by rw [eval_put_ne _ _ _ _ (by decide)]; exact S.t22 (by simpa using g), fun g => by rw [eval_put_ne _ _ _ _ (by decide)]; exact S.t23 (by simpa using g), fun g => by rw [eval_put_ne _ _ _ _ (by decide)]; exact S.t24 (by simpa using g), fun _ => ⟨_, (eval_put _ _ _ (by omega)).trans rfl, FF⟩, fun g => (S.t26 (by simpa using g)).imp fun b hb => ⟨by rw [eval_put_ne _ _ _ _ (by decide)]; exact hb.1, (BkV.mono hb.2 BB)⟩⟩
    | 26, _, ho, hsi, hT =>
      obtain ⟨e1, e2⟩ := pick_of h26 ho
      have D14 : s 14 = true := list_pos hT (d := 14) (by decide)
      have D19 : s 19 = true := list_pos hT (d := 19) (by decide)
      have D25 : s 25 = true := list_pos hT (d := 25) (by decide)
      have BW := S.before
      obtain ⟨v25, M25, F25⟩ := S.t25 D25
      obtain ⟨sa4, sc4, rfl⟩ := own_is F25
      have q64 : a.tmps[64]'(by omega) = .int .i64 (p : Nat) := by have := S.t14 D14; simpa [Act.eval, sz] using this
      have q69 : a.tmps[69]'(by omega) = .int .i64 (Mk.wrongAt (fz ks) 0 32 : Nat) := by have := S.t19 D19; simpa [Act.eval, sz] using this
      have q75 : a.tmps[75]'(by omega) = .slice sa4 md sc4 := by have := M25; simpa [Act.eval, sz] using this
      refine step_to1x (Fact := BkV n0 md news p (Mk.wrongAt (fz ks) 0 32)) (v := .agg #[.int .i64 (p : Nat), .int .i64 (Mk.wrongAt (fz ks) 0 32 : Nat), .slice sa4 md sc4]) (w2 := w') (by simp only [execOp, e1]; go_simp) ⟨_, rfl, F25⟩ (Below.refl _ _) (fun v w2 FF BB => hK _ _ ?_)
      rw [e2]
      exact ⟨S.off.put (by decide) _, bt BW BB, fun g => by rw [eval_put_ne _ _ _ _ (by decide)]; exact S.t0 (by simpa using g), fun g => by rw [eval_put_ne _ _ _ _ (by decide)]; exact S.t1 (by simpa using g), fun g => by rw [eval_put_ne _ _ _ _ (by decide)]; exact S.t2 (by simpa using g), fun g => by rw [eval_put_ne _ _ _ _ (by decide)]; exact S.t3 (by simpa using g), fun g => by rw [eval_put_ne _ _ _ _ (by decide)]; exact S.t4 (by simpa using g), fun g => by rw [eval_put_ne _ _ _ _ (by decide)]; exact S.t5 (by simpa using g), fun g => by rw [eval_put_ne _ _ _ _ (by decide)]; exact S.t6 (by simpa using g), fun g => by rw [eval_put_ne _ _ _ _ (by decide)]; exact S.t7 (by simpa using g), fun g => by rw [eval_put_ne _ _ _ _ (by decide)]; exact S.t8 (by simpa using g), fun g => by rw [eval_put_ne _ _ _ _ (by decide)]; exact S.t9 (by simpa using g), fun g => by rw [eval_put_ne _ _ _ _ (by decide)]; exact S.t10 (by simpa using g), fun g => by rw [eval_put_ne _ _ _ _ (by decide)]; exact S.t11 (by simpa using g), fun g => by rw [eval_put_ne _ _ _ _ (by decide)]; exact S.t12 (by simpa using g), fun g => by rw [eval_put_ne _ _ _ _ (by decide)]; exact S.t13 (by simpa using g), fun g => by rw [eval_put_ne _ _ _ _ (by decide)]; exact S.t14 (by simpa using g), fun g => by rw [eval_put_ne _ _ _ _ (by decide)]; exact S.t15 (by simpa using g), fun g => by rw [eval_put_ne _ _ _ _ (by decide)]; exact S.t16 (by simpa using g), fun g => by rw [eval_put_ne _ _ _ _ (by decide)]; exact S.t17 (by simpa using g), fun g => by rw [eval_put_ne _ _ _ _ (by decide)]; exact S.t18 (by simpa using g), fun g => by rw [eval_put_ne _ _ _ _ (by decide)]; exact S.t19 (by simpa using g), fun g => by rw [eval_put_ne _ _ _ _ (by decide)]; exact S.t20 (by simpa using g), fun g => by rw [eval_put_ne _ _ _ _ (by decide)]; exact S.t21 (by simpa using g), fun g => by rw [eval_put_ne _ _ _ _ (by decide)]; exact S.t22 (by simpa using g), fun g => by rw [eval_put_ne _ _ _ _ (by decide)]; exact S.t23 (by simpa using g), fun g => by rw [eval_put_ne _ _ _ _ (by decide)]; exact S.t24 (by simpa using g), fun g => (S.t25 (by simpa using g)).imp fun b hb => ⟨by rw [eval_put_ne _ _ _ _ (by decide)]; exact hb.1, (OwnI.mono hb.2 BB)⟩, fun _ => ⟨_, (eval_put _ _ _ (by omega)).trans rfl, FF⟩⟩
    | _ + 27, il, _, _, _ => exact absurd il (by omega)
  · intro s a w' S hall
    have a0 := hall 0 (by omega)
    have a1 := hall 1 (by omega)
    have a2 := hall 2 (by omega)
    have a3 := hall 3 (by omega)
    have a4 := hall 4 (by omega)
    have a5 := hall 5 (by omega)
    have a6 := hall 6 (by omega)
    have a7 := hall 7 (by omega)
    have a8 := hall 8 (by omega)
    have a9 := hall 9 (by omega)
    have a10 := hall 10 (by omega)
    have a11 := hall 11 (by omega)
    have a12 := hall 12 (by omega)
    have a13 := hall 13 (by omega)
    have a14 := hall 14 (by omega)
    have a15 := hall 15 (by omega)
    have a16 := hall 16 (by omega)
    have a17 := hall 17 (by omega)
    have a18 := hall 18 (by omega)
    have a19 := hall 19 (by omega)
    have a20 := hall 20 (by omega)
    have a21 := hall 21 (by omega)
    have a22 := hall 22 (by omega)
    have a23 := hall 23 (by omega)
    have a24 := hall 24 (by omega)
    have a25 := hall 25 (by omega)
    have a26 := hall 26 (by omega)
    have e := off_norm _ (by intro d hd; simp at hd; omega) S.off
    obtain ⟨v25, M25, F25⟩ := S.t25 a25
    obtain ⟨v26, M26, F26⟩ := S.t26 a26
    simp only [List.foldl, S.t0 a0, S.t1 a1, S.t2 a2, S.t3 a3, S.t4 a4, S.t5 a5, S.t6 a6, S.t7 a7, S.t8 a8, S.t9 a9, S.t10 a10, S.t11 a11, S.t12 a12, S.t13 a13, S.t14 a14, S.t15 a15, S.t16 a16, S.t17 a17, S.t18 a18, S.t19 a19, S.t20 a20, S.t21 a21, S.t22 a22, S.t23 a23, S.t24 a24, M25, M26] at e
    rw [e]
    exact h _ _ _ S.before F25 F26
end Go.Proofs.Ytlfnglinalmpjaa
