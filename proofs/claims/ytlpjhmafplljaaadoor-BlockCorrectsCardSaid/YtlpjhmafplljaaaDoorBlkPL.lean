/- The contract of block's locator over this program. -/
import Derived.Test.YtlpjhmafplljaaaDoorBlkLc
namespace Go.Proofs.YtlpjhmafplljaaaDoor
open Go.RowKit
set_option linter.unusedVariables false

theorem own_row {w : World} {base g C L : Nat} {f : Nat → BitVec 8} (h : w.ownsRow base 5 1 (.slice (some ⟨g, 0, none⟩) L C) L (vals f L)) : NumsK .u8 w g L (fun j => (f j).toNat) := by
  obtain ⟨hl, h⟩ := h
  rcases h with ⟨hv, _⟩ | ⟨g', c, cur, hv, hb, hg, hnc, hm, hsz, ht⟩
  · simp at hv
  · simp only [Value.slice.injEq, Option.some.injEq, Addr.mk.injEq] at hv
    obtain ⟨⟨rfl, _, _⟩, _, rfl⟩ := hv
    refine ⟨(Array.getElem?_eq_some_iff.1 hg).1, fun j hj => ?_⟩
    have e1 : w.cell? ⟨g, j, none⟩ = cur[j]? := by
      unfold World.cell?
      rw [hg]
      simp
    have e2 : (cur.toList.take (L * 1))[j]? = cur[j]? := by
      rw [List.getElem?_take_of_lt (by omega)]
      simp
    refine ⟨?_, ?_⟩
    · rw [e1, ← e2, ht]
      simp [vals, hj]
    · unfold World.frozen?
      rw [hg]
      simp
theorem own_set {w : World} {base e size n c i : Nat} {v u : Value} {xs : List Value} (h : w.ownsRow base e size v n xs) (hc : c < base) : (w.setCell ⟨c, i, none⟩ u).ownsRow base e size v n xs := by
  obtain ⟨hl, h⟩ := h
  refine ⟨hl, ?_⟩
  rcases h with h | ⟨g, cap, cur, rfl, h1, hg, h2⟩
  · exact .inl h
  · exact .inr ⟨g, cap, cur, rfl, h1, by rw [Below.heap_setCell _ _ _ _ (show g ≠ c by omega)]; exact hg, h2⟩
/-- The sums, captured. -/
theorem loc1_any (sb g C L i j : Nat) (U : Nat → BitVec 8) (hL : L ≤ 8) (hij : i + j < L) (w : World) (hs : w.cell? ⟨sb, 0, none⟩ = some (.slice (some ⟨g, 0, none⟩) L C)) (N : NumsK .u8 w g L (fun j => (U j).toNat)) :
    Calls Tryd.prog 66 (#[] ++ #[.int .i64 (i : Nat), .int .i64 (j : Nat)] ++ #[.pointer (some ⟨sb, 0, none⟩)]) w fun e w' => e = .returned (.int .u8 ((U (i + j)).toNat : Nat)) ∧ Below w.heap.size w w' := by
  show Calls Tryd.prog 66 #[.int .i64 (i : Nat), .int .i64 (j : Nat), .pointer (some ⟨sb, 0, none⟩)] w _
  have B0 := Lib.hid (Below.refl w.heap.size w)
  have c1 := N.cell hij
  obtain ⟨v, hv⟩ : ∃ v, (U (i + j)).toNat = v := ⟨_, rfl⟩
  rw [hv] at c1 ⊢
  obtain ⟨q, hq⟩ : ∃ q, i + j = q := ⟨_, rfl⟩
  rw [hq] at c1 hij
  have e1 : (i : Int) + (j : Int) = (q : Int) := by omega
  have i1 : IntKind.i64.wrap ((i : Int) + (j : Int)) = (q : Int) := by rw [IntKind.wrap_i64]; omega
  clear hv hq N
  go_enter Tryd.func66, Tryd.ntmps66
  go_wp2_with fail
  go_ret
  exact ⟨rfl, B0.out⟩
structure LsRegion (sb i pb : Nat) (v : Value) (x : BitVec 8) (A : Act) (w0 : World) (s : Nat → Bool) (a : Act) (w : World) : Prop where
  off : Off [15, 16, 17, 18, 19] a A
  before : Below w0.heap.size w0 w
  t0 : s 0 = true → a.eval (.tmp 15) = v
  t1 : s 1 = true → a.eval (.tmp 16) = .func (.func 63) #[] #[.pointer (some ⟨pb, 0, none⟩)]
  t2 : s 2 = true → a.eval (.tmp 17) = .int .i64 (i : Nat)
  t3 : s 3 = true → a.eval (.tmp 18) = .int .u8 (x.toNat : Nat)
  t4 : s 4 = true → ∃ v4, a.eval (.tmp 19) = v4 ∧ Bld (.int .u8 (x.toNat : Nat)) v4 w
set_option maxHeartbeats 2000000 in
set_option maxRecDepth 100000 in
theorem lsRegion {id : Nat} {l : List Oper} {A : Act} {w : World} {Q : Exit → Act → World → Prop} (sb i pb : Nat) (v : Value) (x : BitVec 8)
    (hsb : sb < w.heap.size) (hv : w.cell? ⟨sb, 0, none⟩ = some v) (hE : ∀ w', Below w.heap.size w w' → Calls Tryd.prog 63 (#[] ++ #[.int .i64 (i : Nat)] ++ #[.pointer (some ⟨pb, 0, none⟩)]) w' fun e w2 => e = .returned (.int .u8 (x.toNat : Nat)) ∧ Below w'.heap.size w' w2)
    (hB : tableH l.toArray 5 (fun i => match i with | 0 => [] | 1 => [] | 2 => [] | 3 => [1, 2] | 4 => [3] | _ => []) (fun _ => []) = true)
    (h0 : pick l 0 = some (.load 33 (.tmp 7), some 15))
    (h1 : pick l 1 = some (.move (.tmp 1), some 16))
    (h2 : pick l 2 = some (.move (.tmp 8), some 17))
    (h3 : pick l 3 = some (.call { callee := .value (.tmp 16), args := #[.tmp 17], argTypes := #[3] }, some 18))
    (h4 : pick l 4 = some (.buildSlice 33 1 #[(0, .tmp 18)], some 19))
    (hs : A.tmps.size = 44)
    (x1 : A.eval (.tmp 1) = .func (.func 63) #[] #[.pointer (some ⟨pb, 0, none⟩)])
    (x7 : A.eval (.tmp 7) = .pointer (some ⟨sb, 0, none⟩))
    (x8 : A.eval (.tmp 8) = .int .i64 (i : Nat))
    (h : ∀ v4 w1, Below w.heap.size w w1 → Bld (.int .u8 (x.toNat : Nat)) v4 w1 → wpList Tryd.prog l.toArray Q (l.drop 5) (((((A.put (some 15) (v)).put (some 16) (.func (.func 63) #[] #[.pointer (some ⟨pb, 0, none⟩)])).put (some 17) (.int .i64 (i : Nat))).put (some 18) (.int .u8 (x.toNat : Nat))).put (some 19) (v4)) w1) :
    (Code.region id l.toArray true).wp Tryd.prog Q A w := by
  refine wp_region_head (by kernel_rfl) _ _ _ hB (LsRegion sb i pb v x A w) ⟨Off.refl _ _, (Below.refl _ _).drew, by simp, by simp, by simp, by simp, by simp⟩ ?_ ?_
  · intro s a w' S i' o il ho hsi hT K hK
    have sz : a.tmps.size = 44 := by rw [S.off.2.1]; exact hs
    have y1 : a.eval (.tmp 1) = .func (.func 63) #[] #[.pointer (some ⟨pb, 0, none⟩)] := by rw [S.off.eval (by decide)]; exact x1
    have y7 : a.eval (.tmp 7) = .pointer (some ⟨sb, 0, none⟩) := by rw [S.off.eval (by decide)]; exact x7
    have y8 : a.eval (.tmp 8) = .int .i64 (i : Nat) := by rw [S.off.eval (by decide)]; exact x8
    match i', il, ho, hsi, hT with
    | 0, _, ho, hsi, hT =>
      obtain ⟨e1, e2⟩ := pick_of h0 ho
      have BW := S.before
      have cl := (BW.cell (p := ⟨sb, 0, none⟩) hsb).trans hv
      refine step_val (v := v) (by simp only [execOp, e1, y7]; go_simp) (hK _ _ ?_)
      rw [e2]
      exact ⟨S.off.put (by decide) _, S.before, fun _ => (eval_put _ _ _ (by omega)).trans rfl, fun g => by rw [eval_put_ne _ _ _ _ (by decide)]; exact S.t1 (by simpa using g), fun g => by rw [eval_put_ne _ _ _ _ (by decide)]; exact S.t2 (by simpa using g), fun g => by rw [eval_put_ne _ _ _ _ (by decide)]; exact S.t3 (by simpa using g), fun g => (S.t4 (by simpa using g)).imp fun b hb => ⟨by rw [eval_put_ne _ _ _ _ (by decide)]; exact hb.1, hb.2⟩⟩
    | 1, _, ho, hsi, hT =>
      obtain ⟨e1, e2⟩ := pick_of h1 ho
      have BW := S.before
      refine step_val (v := .func (.func 63) #[] #[.pointer (some ⟨pb, 0, none⟩)]) (by simp only [execOp, e1, y1]; go_simp) (hK _ _ ?_)
      rw [e2]
      exact ⟨S.off.put (by decide) _, S.before, fun g => by rw [eval_put_ne _ _ _ _ (by decide)]; exact S.t0 (by simpa using g), fun _ => (eval_put _ _ _ (by omega)).trans rfl, fun g => by rw [eval_put_ne _ _ _ _ (by decide)]; exact S.t2 (by simpa using g), fun g => by rw [eval_put_ne _ _ _ _ (by decide)]; exact S.t3 (by simpa using g), fun g => (S.t4 (by simpa using g)).imp fun b hb => ⟨by rw [eval_put_ne _ _ _ _ (by decide)]; exact hb.1, hb.2⟩⟩
    | 2, _, ho, hsi, hT =>
      obtain ⟨e1, e2⟩ := pick_of h2 ho
      have BW := S.before
      refine step_val (v := .int .i64 (i : Nat)) (by simp only [execOp, e1, y8]; go_simp) (hK _ _ ?_)
      rw [e2]
      exact ⟨S.off.put (by decide) _, S.before, fun g => by rw [eval_put_ne _ _ _ _ (by decide)]; exact S.t0 (by simpa using g), fun g => by rw [eval_put_ne _ _ _ _ (by decide)]; exact S.t1 (by simpa using g), fun _ => (eval_put _ _ _ (by omega)).trans rfl, fun g => by rw [eval_put_ne _ _ _ _ (by decide)]; exact S.t3 (by simpa using g), fun g => (S.t4 (by simpa using g)).imp fun b hb => ⟨by rw [eval_put_ne _ _ _ _ (by decide)]; exact hb.1, hb.2⟩⟩
    | 3, _, ho, hsi, hT =>
      obtain ⟨e1, e2⟩ := pick_of h3 ho
      have D1 : s 1 = true := list_pos hT (d := 1) (by decide)
      have D2 : s 2 = true := list_pos hT (d := 2) (by decide)
      have BW := S.before
      refine step_callc 63 #[] #[.pointer (some ⟨pb, 0, none⟩)] (fun args w => by go_simp) _ (by simp only [S.t1 D1]) _ _ e1 #[.int .i64 (i : Nat)] (by simp only [List.map_toArray, List.map_cons, List.map_nil, S.t2 D2]) ((hE _ BW).mono ?_)
      rintro e w2 ⟨rfl, BB⟩
      refine ⟨_, rfl, hK _ _ ?_⟩
      rw [e2]
      exact ⟨S.off.put (by decide) _, bt BW BB, fun g => by rw [eval_put_ne _ _ _ _ (by decide)]; exact S.t0 (by simpa using g), fun g => by rw [eval_put_ne _ _ _ _ (by decide)]; exact S.t1 (by simpa using g), fun g => by rw [eval_put_ne _ _ _ _ (by decide)]; exact S.t2 (by simpa using g), fun _ => (eval_put _ _ _ (by omega)).trans rfl, fun g => (S.t4 (by simpa using g)).imp fun b hb => ⟨by rw [eval_put_ne _ _ _ _ (by decide)]; exact hb.1, (Bld.mono hb.2 BB)⟩⟩
    | 4, _, ho, hsi, hT =>
      obtain ⟨e1, e2⟩ := pick_of h4 ho
      have D3 : s 3 = true := list_pos hT (d := 3) (by decide)
      have BW := S.before
      have q18 : a.tmps[18]'(by omega) = .int .u8 (x.toNat : Nat) := by have := S.t3 D3; simpa [Act.eval, sz] using this
      refine step_to1 (w2 := w'.alloc (.cells #[.int .u8 (x.toNat : Nat)] 5)) (v := .slice (some ⟨w'.heap.size, 0, none⟩) 1 1) (by simp only [execOp, e1]; go_simp) (hK _ _ ?_)
      have BB := ba (Below.refl w'.heap.size w') (.cells #[.int .u8 (x.toNat : Nat)] 5)
      have FF := bld_new w' (.int .u8 (x.toNat : Nat)) 5
      rw [e2]
      exact ⟨S.off.put (by decide) _, bt BW BB, fun g => by rw [eval_put_ne _ _ _ _ (by decide)]; exact S.t0 (by simpa using g), fun g => by rw [eval_put_ne _ _ _ _ (by decide)]; exact S.t1 (by simpa using g), fun g => by rw [eval_put_ne _ _ _ _ (by decide)]; exact S.t2 (by simpa using g), fun g => by rw [eval_put_ne _ _ _ _ (by decide)]; exact S.t3 (by simpa using g), fun _ => ⟨_, (eval_put _ _ _ (by omega)).trans rfl, FF⟩⟩
    | _ + 5, il, _, _, _ => exact absurd il (by omega)
  · intro s a w' S hall
    have a0 := hall 0 (by omega)
    have a1 := hall 1 (by omega)
    have a2 := hall 2 (by omega)
    have a3 := hall 3 (by omega)
    have a4 := hall 4 (by omega)
    have e := off_norm _ (by intro d hd; simp at hd; omega) S.off
    obtain ⟨v4, M4, F4⟩ := S.t4 a4
    simp only [List.foldl, S.t0 a0, S.t1 a1, S.t2 a2, S.t3 a3, M4] at e
    rw [e]
    exact h _ _ S.before F4
structure LeRegion (sb bx k b cb eb ce n : Nat) (v : Value) (A : Act) (w0 : World) (s : Nat → Bool) (a : Act) (w : World) : Prop where
  off : Off [31, 32, 33, 34] a A
  before : Below w0.heap.size w0 w
  t0 : s 0 = true → a.eval (.tmp 31) = v
  t1 : s 1 = true → a.eval (.tmp 32) = .agg #[.slice (some ⟨b, 0, none⟩) n cb, .slice (some ⟨eb, 0, none⟩) n ce]
  t2 : s 2 = true → a.eval (.tmp 33) = .int .i64 (k : Nat)
  t3 : s 3 = true → a.eval (.tmp 34) = .int .u8 ((Blk.elem n k).toNat : Nat)
set_option maxHeartbeats 2000000 in
set_option maxRecDepth 100000 in
theorem leRegion {id : Nat} {l : List Oper} {A : Act} {w : World} {Q : Exit → Act → World → Prop} (sb bx k b cb eb ce n : Nat) (v : Value)
    (hn : n ≤ 1000) (hk : k < n) (hsb : sb < w.heap.size) (hv : w.cell? ⟨sb, 0, none⟩ = some v) (hbx : bx < w.heap.size) (hc0 : w.cell? ⟨bx, 0, none⟩ = some (.slice (some ⟨b, 0, none⟩) n cb)) (hc1 : w.cell? ⟨bx, 1, none⟩ = some (.slice (some ⟨eb, 0, none⟩) n ce))
    (hB : tableH l.toArray 4 (fun i => match i with | 0 => [] | 1 => [] | 2 => [] | 3 => [1, 2] | _ => []) (fun _ => []) = true)
    (h0 : pick l 0 = some (.load 33 (.tmp 7), some 31))
    (h1 : pick l 1 = some (.load 48 (.tmp 3), some 32))
    (h2 : pick l 2 = some (.move (.tmp 9), some 33))
    (h3 : pick l 3 = some (.call { callee := .value (.func 49), args := #[.tmp 32, .tmp 33], argTypes := #[48, 3] }, some 34))
    (hs : A.tmps.size = 44)
    (x3 : A.eval (.tmp 3) = .pointer (some ⟨bx, 0, none⟩))
    (x7 : A.eval (.tmp 7) = .pointer (some ⟨sb, 0, none⟩))
    (x9 : A.eval (.tmp 9) = .int .i64 (k : Nat))
    (h : ∀ w1, Below w.heap.size w w1 → wpList Tryd.prog l.toArray Q (l.drop 4) ((((A.put (some 31) (v)).put (some 32) (.agg #[.slice (some ⟨b, 0, none⟩) n cb, .slice (some ⟨eb, 0, none⟩) n ce])).put (some 33) (.int .i64 (k : Nat))).put (some 34) (.int .u8 ((Blk.elem n k).toNat : Nat))) w1) :
    (Code.region id l.toArray true).wp Tryd.prog Q A w := by
  refine wp_region_head (by kernel_rfl) _ _ _ hB (LeRegion sb bx k b cb eb ce n v A w) ⟨Off.refl _ _, (Below.refl _ _).drew, by simp, by simp, by simp, by simp⟩ ?_ ?_
  · intro s a w' S i' o il ho hsi hT K hK
    have sz : a.tmps.size = 44 := by rw [S.off.2.1]; exact hs
    have y3 : a.eval (.tmp 3) = .pointer (some ⟨bx, 0, none⟩) := by rw [S.off.eval (by decide)]; exact x3
    have y7 : a.eval (.tmp 7) = .pointer (some ⟨sb, 0, none⟩) := by rw [S.off.eval (by decide)]; exact x7
    have y9 : a.eval (.tmp 9) = .int .i64 (k : Nat) := by rw [S.off.eval (by decide)]; exact x9
    match i', il, ho, hsi, hT with
    | 0, _, ho, hsi, hT =>
      obtain ⟨e1, e2⟩ := pick_of h0 ho
      have BW := S.before
      have cl := (BW.cell (p := ⟨sb, 0, none⟩) hsb).trans hv
      refine step_val (v := v) (by simp only [execOp, e1, y7]; go_simp) (hK _ _ ?_)
      rw [e2]
      exact ⟨S.off.put (by decide) _, S.before, fun _ => (eval_put _ _ _ (by omega)).trans rfl, fun g => by rw [eval_put_ne _ _ _ _ (by decide)]; exact S.t1 (by simpa using g), fun g => by rw [eval_put_ne _ _ _ _ (by decide)]; exact S.t2 (by simpa using g), fun g => by rw [eval_put_ne _ _ _ _ (by decide)]; exact S.t3 (by simpa using g)⟩
    | 1, _, ho, hsi, hT =>
      obtain ⟨e1, e2⟩ := pick_of h1 ho
      have BW := S.before
      have cl0 := (BW.cell (p := ⟨bx, 0, none⟩) hbx).trans hc0
      have cl1 := (BW.cell (p := ⟨bx, 1, none⟩) hbx).trans hc1
      refine step_val (v := .agg #[.slice (some ⟨b, 0, none⟩) n cb, .slice (some ⟨eb, 0, none⟩) n ce]) (by simp only [execOp, e1, y3]; go_simp) (hK _ _ ?_)
      rw [e2]
      exact ⟨S.off.put (by decide) _, S.before, fun g => by rw [eval_put_ne _ _ _ _ (by decide)]; exact S.t0 (by simpa using g), fun _ => (eval_put _ _ _ (by omega)).trans rfl, fun g => by rw [eval_put_ne _ _ _ _ (by decide)]; exact S.t2 (by simpa using g), fun g => by rw [eval_put_ne _ _ _ _ (by decide)]; exact S.t3 (by simpa using g)⟩
    | 2, _, ho, hsi, hT =>
      obtain ⟨e1, e2⟩ := pick_of h2 ho
      have BW := S.before
      refine step_val (v := .int .i64 (k : Nat)) (by simp only [execOp, e1, y9]; go_simp) (hK _ _ ?_)
      rw [e2]
      exact ⟨S.off.put (by decide) _, S.before, fun g => by rw [eval_put_ne _ _ _ _ (by decide)]; exact S.t0 (by simpa using g), fun g => by rw [eval_put_ne _ _ _ _ (by decide)]; exact S.t1 (by simpa using g), fun _ => (eval_put _ _ _ (by omega)).trans rfl, fun g => by rw [eval_put_ne _ _ _ _ (by decide)]; exact S.t3 (by simpa using g)⟩
    | 3, _, ho, hsi, hT =>
      obtain ⟨e1, e2⟩ := pick_of h3 ho
      have D1 : s 1 = true := list_pos hT (d := 1) (by decide)
      have D2 : s 2 = true := list_pos hT (d := 2) (by decide)
      have BW := S.before
      refine step_call 49 (fun args w => by go_simp) _ _ e1 #[.agg #[.slice (some ⟨b, 0, none⟩) n cb, .slice (some ⟨eb, 0, none⟩) n ce], .int .i64 (k : Nat)] (by simp only [List.map_toArray, List.map_cons, List.map_nil, S.t1 D1, S.t2 D2]) ((element_any b cb eb ce n k hn hk _).mono ?_)
      rintro e w2 ⟨rfl, BB⟩
      refine ⟨_, rfl, hK _ _ ?_⟩
      rw [e2]
      exact ⟨S.off.put (by decide) _, bt BW BB, fun g => by rw [eval_put_ne _ _ _ _ (by decide)]; exact S.t0 (by simpa using g), fun g => by rw [eval_put_ne _ _ _ _ (by decide)]; exact S.t1 (by simpa using g), fun g => by rw [eval_put_ne _ _ _ _ (by decide)]; exact S.t2 (by simpa using g), fun _ => (eval_put _ _ _ (by omega)).trans rfl⟩
    | _ + 4, il, _, _, _ => exact absurd il (by omega)
  · intro s a w' S hall
    have a0 := hall 0 (by omega)
    have a1 := hall 1 (by omega)
    have a2 := hall 2 (by omega)
    have a3 := hall 3 (by omega)
    have e := off_norm _ (by intro d hd; simp at hd; omega) S.off
    simp only [List.foldl, S.t0 a0, S.t1 a1, S.t2 a2, S.t3 a3] at e
    rw [e]
    exact h _ S.before
/-- What locator does. -/
def LocP (bl : List UInt8) (er : Nat → Bool) (n q : Nat) (w : World) (e : Ending) (w' : World) : Prop :=
  Below w.heap.size w w' ∧ ((∃ y, e = .returned (.string ⟨(Blk.locP y q).toArray⟩) ∧ Blk.Solves (Blk.locB (Blk.twist (Blk.elem n) (Blk.ers er n) (Blk.syn bl)) (Blk.ers er n).length q) q y 1#8 ∧
      ∀ z, Blk.Solves (Blk.locB (Blk.twist (Blk.elem n) (Blk.ers er n) (Blk.syn bl)) (Blk.ers er n).length q) q z 1#8 → ∀ r, r < q → z r = y r) ∨
    ((∃ z r, r < q ∧ Blk.Solves (Blk.locB (Blk.twist (Blk.elem n) (Blk.ers er n) (Blk.syn bl)) (Blk.ers er n).length q) q z 0#8 ∧ z r = 1#8) ∧ ∃ p, e = .panicked p ∧ Pan p))
theorem ers_len_le (er : Nat → Bool) {k n : Nat} (h : k ≤ n) : (Blk.ers er k).length ≤ (Blk.ers er n).length := by
  induction n with
  | zero => obtain rfl : k = 0 := by omega
            exact Nat.le_refl _
  | succ n ih =>
    by_cases e : k = n + 1
    · rw [e]; exact Nat.le_refl _
    · have := ih (by omega)
      rw [Blk.ers_succ]
      split
      · rw [List.length_append]; omega
      · exact this
set_option maxRecDepth 100000 in
set_option maxHeartbeats 1000000 in
theorem locator_any (b cb eb ce n pb q : Nat) (f : Nat → BitVec 8) (er : Nat → Bool) (hn : n ≤ 231) (hq : (Blk.ers er n).length + 2 * q ≤ 8) (w : World) (H : Wd w b cb eb ce n f er) (hpb : pb < w.heap.size) (hps : w.cell? ⟨pb, 0, none⟩ = some (.string ⟨(Gal.coefs f n).reverse.toArray⟩)) :
    Calls Tryd.prog 45 #[.agg #[.slice (some ⟨b, 0, none⟩) n cb, .slice (some ⟨eb, 0, none⟩) n ce], .func (.func 63) #[] #[.pointer (some ⟨pb, 0, none⟩)], .int .i64 (q : Nat)] w (LocP (Gal.coefs f n) er n q w) := by
  have SE := Lib.hid (fun i w1 (B : Below w.heap.size w w1) => syn1_any pb i ⟨(Gal.coefs f n).reverse.toArray⟩ (Gal.coefs f n) rfl (by rw [Gal.coefs_length]; omega) w1 (Nat.lt_of_lt_of_le hpb B.size) ((B.cell (p := ⟨pb, 0, none⟩) hpb).trans hps))
  have HH := Lib.hid H
  have HPB := Lib.hid hpb
  have BA := Lib.hid (ba (Below.refl w.heap.size w) (.cells #[.slice (some ⟨b, 0, none⟩) n cb, .slice (some ⟨eb, 0, none⟩) n ce] 48))
  have BB := Lib.hid (ba BA.out (.cells #[.slice none 0 0] 33))
  have c0 := Lib.hid (show ((w.alloc (.cells #[.slice (some ⟨b, 0, none⟩) n cb, .slice (some ⟨eb, 0, none⟩) n ce] 48)).alloc (.cells #[.slice none 0 0] 33)).cell? ⟨w.heap.size, 0, none⟩ = some (.slice (some ⟨b, 0, none⟩) n cb) by go_simp)
  have c1 := Lib.hid (show ((w.alloc (.cells #[.slice (some ⟨b, 0, none⟩) n cb, .slice (some ⟨eb, 0, none⟩) n ce] 48)).alloc (.cells #[.slice none 0 0] 33)).cell? ⟨w.heap.size, 1, none⟩ = some (.slice (some ⟨eb, 0, none⟩) n ce) by go_simp)
  have cs := Lib.hid (show ((w.alloc (.cells #[.slice (some ⟨b, 0, none⟩) n cb, .slice (some ⟨eb, 0, none⟩) n ce] 48)).alloc (.cells #[.slice none 0 0] 33)).cell? ⟨w.heap.size + 1, 0, none⟩ = some (.slice none 0 0) by go_simp)
  have fs := Lib.hid (show ((w.alloc (.cells #[.slice (some ⟨b, 0, none⟩) n cb, .slice (some ⟨eb, 0, none⟩) n ce] 48)).alloc (.cells #[.slice none 0 0] 33)).frozen? ⟨w.heap.size + 1, 0, none⟩ = false by go_simp)
  have z1 := Lib.hid (show ((w.alloc (.cells #[.slice (some ⟨b, 0, none⟩) n cb, .slice (some ⟨eb, 0, none⟩) n ce] 48)).alloc (.cells #[.slice none 0 0] 33)).heap.size = w.heap.size + 1 + 1 by rw [World.size_alloc, World.size_alloc])
  have hmf : ∀ (fn : Fn) (first cap : Array Value) (w : World), (Instr.makeFunc fn first cap).run Tryd.prog w = .ok (.func fn first cap) w := fun _ _ _ _ => rfl
  have SY0 := Lib.hid (show ∀ i, (fun j => Blk.syn (Gal.coefs f n) j) i = Blk.syn (Gal.coefs f n) i from fun _ => rfl)
  unfold LocP
  obtain ⟨S, hS⟩ : ∃ S, Blk.syn (Gal.coefs f n) = S := ⟨_, rfl⟩
  rw [hS] at SE ⊢
  obtain ⟨bx, hbx⟩ : ∃ bx, w.heap.size = bx := ⟨_, rfl⟩
  have HBX := Lib.hid hbx
  clear H hpb hps hS SY0 hbx
  go_enter Tryd.func45, Tryd.ntmps45
  go_wp2_with fail
  obtain ⟨w1, hw1⟩ : ∃ w1, (w.alloc (.cells #[.slice (some ⟨b, 0, none⟩) n cb, .slice (some ⟨eb, 0, none⟩) n ce] 48)).alloc (.cells #[.slice none 0 0] 33) = w1 := ⟨_, rfl⟩
  rw [hw1] at BB c0 c1 cs fs z1 ⊢
  rw [HBX.out] at c0 c1 cs fs z1 ⊢
  obtain ⟨sb, hsb⟩ : ∃ sb, bx + 1 = sb := ⟨_, rfl⟩
  rw [hsb] at cs fs z1 ⊢
  have HSB := Lib.hid hsb
  clear hw1 hsb
  go_loopw [12] (fun i wr => ∃ (k : Nat) (v : Value), k ≤ 8 ∧ i = .int .i64 (k : Nat) ∧ wr.cell? ⟨sb, 0, none⟩ = some v ∧ wr.frozen? ⟨sb, 0, none⟩ = false ∧ wr.ownsRow w1.heap.size 5 1 v k (vals S k) ∧ But sb w1 wr) (fun i _ => 8 - (intOf i).toNat)
  case atStart => exact ⟨0, .slice none 0 0, Nat.zero_le _, rfl, cs.out, fs.out, World.ownsRow_nil _ _ _ _, But.refl _ _⟩
  case round =>
    obtain ⟨k, v, hk, rfl, hcv, hfv, hown, hB⟩ := hrel
    have HC := Lib.hid hcv
    have HF := Lib.hid hfv
    have HO := Lib.hid hown
    have HB := Lib.hid hB
    have BW := Lib.hid (show Below w.heap.size w wr from BB.out.trans (hB.below.mono (by have := HBX.out; have := HSB.out; omega)))
    have lsb := Lib.hid (show sb < wr.heap.size by have := hB.below.size; have := z1.out; omega)
    clear hcv hfv hown hB
    by_cases hlt : k < 8
    · have EE := Lib.hid (fun w' (b : Below wr.heap.size wr w') => SE.out k w' (bt BW.out b))
      have NS := Lib.hid (vals_succ S k)
      obtain ⟨i0, hi0, hz0, hz1, hz2⟩ := info_parts info_u8
      go_upto_region 5 with fail
      refine lsRegion sb k pb v (S k) lsb.out HC.out EE.out (by kernel_rfl) rfl rfl rfl rfl rfl rfl rfl rfl rfl ?_
      intro v4 w2 B2 F2
      simp only [Act.put, List.setIfInBounds_toArray, List.set_cons_succ, List.set_cons_zero, List.drop_succ_cons, List.drop_zero]
      obtain ⟨Bd, rfl, hcl⟩ := F2.cells
      have HCL := Lib.hid hcl
      have HO2 := Lib.hid (own_below HO.out B2)
      have HB2 := Lib.hid (HB.out.trans (But.of_below B2 (Nat.le_of_lt lsb.out)))
      have C2 := Lib.hid ((B2.cell (p := ⟨sb, 0, none⟩) lsb.out).trans HC.out)
      have FZ2 := Lib.hid ((B2.frozen (p := ⟨sb, 0, none⟩) lsb.out).trans HF.out)
      have L2 := Lib.hid (Nat.lt_of_lt_of_le lsb.out B2.size)
      obtain ⟨u, hu⟩ : ∃ u, (S k).toNat = u := ⟨_, rfl⟩
      rw [hu] at HCL NS
      rw [hu]
      have z2 := Lib.hid (show w1.heap.size ≤ w2.heap.size from HB2.out.below.size)
      have sz1 := Lib.hid (show sb < w1.heap.size by have := z1.out; omega)
      clear hu F2 hcl B2 EE HO HB HC HF
      go_wp2_with (at_builtin; refine wpList_append_own _ rfl _ _ 33 rfl w1.heap.size 5 i0 (.int .u8 0) 1 1 Tryd.underlying33 hi0 hz0 hz1 hz2 rfl (by decide) _ _ _ rfl HO2.out ⟨Bd, 0, none⟩ 1 1 [.int .u8 (u : Int)] rfl rfl HCL.out (by simp [Value.oneCell']) (by unfold maxLen; omega) (by omega) z2.out ?_; intro v' w3 hown3 hgrow3 _; have G3 := (Below.refl w1.heap.size w2).grown hgrow3 z2.out (fun k e => own_block_ge HO2.out e); have c3 := (G3.cell (p := ⟨sb, 0, none⟩) sz1.out).trans C2.out; have f3 := (G3.frozen (p := ⟨sb, 0, none⟩) sz1.out).trans FZ2.out; obtain ⟨g', cap', rfl⟩ := ownsRow_succ hown3; have HO3 := Lib.hid hown3; have HG3 := Lib.hid G3; clear hown3 hgrow3 G3)
      have one := Lib.hid (show ((w3.setCell ⟨sb, 0, none⟩ (.slice (some ⟨g', 0, none⟩) (k + 1) cap')).cell? ⟨sb, 0, none⟩ = some (.slice (some ⟨g', 0, none⟩) (k + 1) cap')) from World.cell?_setCell_same' _ _ _ (by rw [c3]; rfl))
      have two := Lib.hid (show (w3.setCell ⟨sb, 0, none⟩ (.slice (some ⟨g', 0, none⟩) (k + 1) cap')).frozen? ⟨sb, 0, none⟩ = false by rw [World.frozen?_setCell]; exact f3)
      have three := Lib.hid (show (w3.setCell ⟨sb, 0, none⟩ (.slice (some ⟨g', 0, none⟩) (k + 1) cap')).ownsRow w1.heap.size 5 1 (.slice (some ⟨g', 0, none⟩) (k + 1) cap') (k + 1) (vals S (k + 1)) by rw [NS.out]; exact own_set HO3.out sz1.out)
      have four := Lib.hid (show But sb w1 (w3.setCell ⟨sb, 0, none⟩ (.slice (some ⟨g', 0, none⟩) (k + 1) cap')) from But.setCell ⟨HB2.out.below.trans (HG3.out.mono (Nat.le_of_lt sz1.out)), fun b hb hc => (HG3.out.block b hb).trans (HB2.out.rest b hb hc)⟩ 0 _)
      go_roundw
      case rel => exact ⟨k + 1, _, by omega, by go_num, one.out, two.out, three.out, four.out⟩
      case measure => simp [intOf]; omega
    · have HK8 := Lib.hid (show k = 8 by omega)
      have sz1 := Lib.hid (show sb < w1.heap.size by have := z1.out; omega)
      have bsb := Lib.hid (show bx < sb by have := HSB.out; omega)
      have lbx := Lib.hid (show bx < wr.heap.size by have := lsb.out; have := bsb.out; omega)
      have cw0 := Lib.hid (show wr.cell? ⟨bx, 0, none⟩ = some (.slice (some ⟨b, 0, none⟩) n cb) from (World.cell?_of_block (w := w1) (a := ⟨bx, 0, none⟩) (HB.out.rest bx (by have := sz1.out; have := bsb.out; omega) (by have := bsb.out; omega))).trans c0.out)
      have cw1 := Lib.hid (show wr.cell? ⟨bx, 1, none⟩ = some (.slice (some ⟨eb, 0, none⟩) n ce) from (World.cell?_of_block (w := w1) (a := ⟨bx, 1, none⟩) (HB.out.rest bx (by have := sz1.out; have := bsb.out; omega) (by have := bsb.out; omega))).trans c1.out)
      have q1 := cw0.out
      have q2 := cw1.out
      have SW := Lib.hid (show ∀ j, vals S 8 = vals (fun i => Blk.twist (Blk.elem n) (Blk.ers er 0) S ((Blk.ers er 0).length + i)) (8 - (Blk.ers er 0).length) ∨ j = 1 from fun j => .inl (by
        show vals S 8 = vals (fun i => S (0 + i)) 8
        congr 1
        funext i
        rw [Nat.zero_add]))
      have HO0 := Lib.hid (show wr.ownsRow w1.heap.size 5 1 v (8 - (Blk.ers er 0).length) (vals (fun i => Blk.twist (Blk.elem n) (Blk.ers er 0) S ((Blk.ers er 0).length + i)) (8 - (Blk.ers er 0).length)) by
        have h8 := HO.out
        rw [HK8.out] at h8
        rcases SW.out 0 with h | h
        · rw [← h]; exact h8
        · omega)
      rename World => w5
      clear SW
      go_wp2_with fail
      clear q1 q2
      go_loopw [25] (fun i wr => ∃ (k : Nat) (v : Value), k ≤ n ∧ i = .int .i64 (k : Nat) ∧ wr.cell? ⟨sb, 0, none⟩ = some v ∧ wr.frozen? ⟨sb, 0, none⟩ = false ∧ wr.ownsRow w1.heap.size 5 1 v (8 - (Blk.ers er k).length) (vals (fun i => Blk.twist (Blk.elem n) (Blk.ers er k) S ((Blk.ers er k).length + i)) (8 - (Blk.ers er k).length)) ∧ But sb w1 wr) (fun i _ => n - (intOf i).toNat)
      case atStart => exact ⟨0, v, Nat.zero_le _, rfl, HC.out, HF.out, HO0.out, HB.out⟩
      case round =>
        obtain ⟨k, v, hk, rfl, hcv, hfv, hown, hB⟩ := hrel
        have HC := Lib.hid hcv
        have HF := Lib.hid hfv
        have HO := Lib.hid hown
        have HB := Lib.hid hB
        have BW := Lib.hid (show Below w.heap.size w wr from BB.out.trans (hB.below.mono (by have := HBX.out; have := HSB.out; omega)))
        have lsb := Lib.hid (show sb < wr.heap.size by have := hB.below.size; have := z1.out; omega)
        have LK := Lib.hid (ers_len_le er hk)
        have HL8 := Lib.hid hq
        clear hcv hfv hown hB lbx cw0 cw1 HO0
        by_cases hlt : k < n
        · have HW := Lib.hid (HH.out.below BW.out)
          have ck := HW.out.er.cell hlt
          have es := Blk.ers_succ er k
          obtain ⟨vb, hvb⟩ : ∃ v, er k = v := ⟨_, rfl⟩
          rw [hvb] at ck
          cases vb with
          | false =>
            have EN := Lib.hid (show Blk.ers er (k + 1) = Blk.ers er k by rw [es, hvb]; rfl)
            clear es hvb
            go_wp2_with fail
            go_roundw
            case rel => exact ⟨k + 1, v, by omega, by go_num, HC.out, HF.out, by rw [EN.out]; exact HO.out, HB.out⟩
            case measure => simp [intOf]; omega
          | true =>
            have EY := Lib.hid (show Blk.ers er (k + 1) = Blk.ers er k ++ [k] by rw [es, hvb]; rfl)
            have LY := Lib.hid (show (Blk.ers er (k + 1)).length = (Blk.ers er k).length + 1 by rw [EY.out, List.length_append]; rfl)
            have LN := Lib.hid (ers_len_le er (show k + 1 ≤ n by omega))
            obtain ⟨m, hm⟩ : ∃ m, 8 - (Blk.ers er (k + 1)).length = m := ⟨_, rfl⟩
            have hm1 : 8 - (Blk.ers er k).length = m + 1 := by have := LY.out; have := LN.out; omega
            have HO1 := HO.out
            rw [hm1] at HO1
            obtain ⟨g, C, rfl⟩ := ownsRow_succ HO1
            have NM := Lib.hid (own_row HO1)
            have lbx := Lib.hid (show bx < wr.heap.size by have := lsb.out; have := bsb.out; omega)
            have cw0 := Lib.hid (show wr.cell? ⟨bx, 0, none⟩ = some (.slice (some ⟨b, 0, none⟩) n cb) from (World.cell?_of_block (w := w1) (a := ⟨bx, 0, none⟩) (HB.out.rest bx (by have := sz1.out; have := bsb.out; omega) (by have := bsb.out; omega))).trans c0.out)
            have cw1 := Lib.hid (show wr.cell? ⟨bx, 1, none⟩ = some (.slice (some ⟨eb, 0, none⟩) n ce) from (World.cell?_of_block (w := w1) (a := ⟨bx, 1, none⟩) (HB.out.rest bx (by have := sz1.out; have := bsb.out; omega) (by have := bsb.out; omega))).trans c1.out)
            have TS := Lib.hid (show ∀ i, i < m → Gal.mul (Blk.elem n k) (Blk.twist (Blk.elem n) (Blk.ers er k) S ((Blk.ers er k).length + i)) ^^^ Blk.twist (Blk.elem n) (Blk.ers er k) S ((Blk.ers er k).length + (i + 1)) = Blk.twist (Blk.elem n) (Blk.ers er (k + 1)) S ((Blk.ers er (k + 1)).length + i) from fun i hi => by
              rw [LY.out, EY.out, Blk.twist_snoc]
              unfold Blk.tstep Gal.sh
              rw [if_pos (by omega), show (Blk.ers er k).length + 1 + i - 1 = (Blk.ers er k).length + i by omega, show (Blk.ers er k).length + 1 + i = (Blk.ers er k).length + (i + 1) by omega, BitVec.xor_comm])
            have HM := Lib.hid hm
            clear es hvb HO1 hm
            go_upto_region 11 with fail
            refine leRegion sb bx k b cb eb ce n (.slice (some ⟨g, 0, none⟩) (m + 1) C) (by omega) hlt lsb.out HC.out lbx.out cw0.out cw1.out (by kernel_rfl) rfl rfl rfl rfl rfl rfl rfl rfl ?_
            intro w2 B2
            simp only [Act.put, List.setIfInBounds_toArray, List.set_cons_succ, List.set_cons_zero, List.drop_succ_cons, List.drop_zero]
            have N2 := NM.out.below B2
            have WO := Lib.hid (without_any g C (m + 1) m (Blk.elem n k) (fun i => Blk.twist (Blk.elem n) (Blk.ers er k) S ((Blk.ers er k).length + i)) rfl (by omega) w2 N2)
            have C2 := Lib.hid ((B2.cell (p := ⟨sb, 0, none⟩) lsb.out).trans HC.out)
            have FZ2 := Lib.hid ((B2.frozen (p := ⟨sb, 0, none⟩) lsb.out).trans HF.out)
            have HB2 := Lib.hid (HB.out.trans (But.of_below B2 (Nat.le_of_lt lsb.out)))
            have L2 := Lib.hid (Nat.lt_of_lt_of_le lsb.out B2.size)
            obtain ⟨xe, hxe⟩ : ∃ x, (Blk.elem n k).toNat = x := ⟨_, rfl⟩
            rw [hxe] at WO ⊢
            clear hxe B2 N2 NM HO HB HC HF ck cw0 cw1 hm1
            go_wp2_with fail
            (with_reducible refine WO.out.mono ?_)
            rintro e w3 ⟨v3, rfl, ho3, hb3⟩
            have vm : ∃ g3 C3, v3 = .slice g3 m C3 := by
              rcases ho3.2 with ⟨rfl, h⟩ | ⟨g3, C3, _, rfl, _⟩
              · exact ⟨none, 0, by rw [h]⟩
              · exact ⟨_, _, rfl⟩
            obtain ⟨g3, C3, rfl⟩ := vm
            have z2 := Lib.hid (show w1.heap.size ≤ w2.heap.size from HB2.out.below.size)
            have HO3 := Lib.hid (own_mono ho3 z2.out)
            have c3 := (hb3.cell (p := ⟨sb, 0, none⟩) L2.out).trans C2.out
            have f3 := (hb3.frozen (p := ⟨sb, 0, none⟩) L2.out).trans FZ2.out
            have HB3 := Lib.hid (HB2.out.trans (But.of_below hb3 (Nat.le_of_lt L2.out)))
            have one := Lib.hid (show ((w3.setCell ⟨sb, 0, none⟩ (.slice g3 m C3)).cell? ⟨sb, 0, none⟩ = some (.slice g3 m C3)) from World.cell?_setCell_same' _ _ _ (by rw [c3]; rfl))
            have two := Lib.hid (show (w3.setCell ⟨sb, 0, none⟩ (.slice g3 m C3)).frozen? ⟨sb, 0, none⟩ = false by rw [World.frozen?_setCell]; exact f3)
            have three := Lib.hid (show (w3.setCell ⟨sb, 0, none⟩ (.slice g3 m C3)).ownsRow w1.heap.size 5 1 (.slice g3 m C3) (8 - (Blk.ers er (k + 1)).length) (vals (fun i => Blk.twist (Blk.elem n) (Blk.ers er (k + 1)) S ((Blk.ers er (k + 1)).length + i)) (8 - (Blk.ers er (k + 1)).length)) by
              rw [HM.out]
              have := own_set (c := sb) (i := 0) (u := .slice g3 m C3) HO3.out sz1.out
              rwa [show vals (fun i => Gal.mul (Blk.elem n k) (Blk.twist (Blk.elem n) (Blk.ers er k) S ((Blk.ers er k).length + i)) ^^^ Blk.twist (Blk.elem n) (Blk.ers er k) S ((Blk.ers er k).length + (i + 1))) m = vals (fun i => Blk.twist (Blk.elem n) (Blk.ers er (k + 1)) S ((Blk.ers er (k + 1)).length + i)) m from by
                unfold vals
                refine List.map_congr_left (fun i hi => ?_)
                exact congrArg (fun z : BitVec 8 => Value.int .u8 (z.toNat : Nat)) (TS.out i (List.mem_range.1 hi))] at this)
            have four := Lib.hid (show But sb w1 (w3.setCell ⟨sb, 0, none⟩ (.slice g3 m C3)) from HB3.out.setCell 0 _)
            clear ho3 hb3 WO
            go_wp2_with fail
            go_roundw
            case rel => exact ⟨k + 1, _, by omega, by go_num, one.out, two.out, three.out, four.out⟩
            case measure => simp [intOf]; omega
        · obtain rfl : k = n := by omega
          obtain ⟨L, hL⟩ : ∃ L, 8 - (Blk.ers er k).length = L := ⟨_, rfl⟩
          have HO1 := HO.out
          rw [hL] at HO1
          have L2q : 2 * q ≤ L := by have := HL8.out; omega
          have EN := Lib.hid (show ∀ i j w6, i < q → j ≤ q → Below wr.heap.size wr w6 → Calls Tryd.prog 66 (#[] ++ #[.int .i64 (i : Nat), .int .i64 (j : Nat)] ++ #[.pointer (some ⟨sb, 0, none⟩)]) w6 fun e w7 => e = .returned (.int .u8 ((Blk.locB (Blk.twist (Blk.elem k) (Blk.ers er k) S) (Blk.ers er k).length q i j).toNat : Nat)) ∧ Below w6.heap.size w6 w7 from fun i j w6 hi hj hB6 => by
            have e1 : L = (L - 1) + 1 := by omega
            rw [e1] at HO1
            obtain ⟨g, C, rfl⟩ := ownsRow_succ HO1
            have NM := own_row HO1
            rw [← e1] at NM
            have cc := (hB6.cell (p := ⟨sb, 0, none⟩) lsb.out).trans HC.out
            rw [← e1] at cc
            exact loc1_any sb g C L i j (fun i => Blk.twist (Blk.elem k) (Blk.ers er k) S ((Blk.ers er k).length + i)) (by omega) (by omega) w6 cc (NM.below hB6))
          have SV := Lib.hid (solved_any q 66 #[.pointer (some ⟨sb, 0, none⟩)] (Blk.locB (Blk.twist (Blk.elem k) (Blk.ers er k) S) (Blk.ers er k).length q) (by omega) wr (fun args w => by go_simp) EN.out)
          obtain ⟨M, hM⟩ : ∃ M, Blk.locB (Blk.twist (Blk.elem k) (Blk.ers er k) S) (Blk.ers er k).length q = M := ⟨_, rfl⟩
          rw [hM] at SV
          have HMM := Lib.hid hM
          clear HO1 EN hM HO
          go_wp2_with fail
          (with_reducible refine SV.out.mono ?_)
          rintro e w6 ⟨hB6, ⟨g, y, rfl, hg, hN, hS1, hS2⟩ | ⟨hK, p, rfl, hp⟩⟩
          · have HB6 := Lib.hid (BW.out.trans (hB6.mono BW.out.size))
            have HS1 := Lib.hid hS1
            have HS2 := Lib.hid hS2
            have HN6 := Lib.hid hN
            have B7 := Lib.hid (ba HB6.out (.cells #[.int .u8 1] 5))
            have q9 : q ≤ 8 := by omega
            have OL := Lib.hid (show ∀ b, some (⟨g, 0, none⟩ : Addr) = some b → ∀ j u, (vals y q)[j]? = some u → (w6.alloc (.cells #[.int .u8 1] 5)).cell? (b.add j) = some u from fun b hb j u hu => by
              cases hb
              rw [addr_add, Nat.zero_add]
              have hj : j < q := by
                have := (List.getElem?_eq_some_iff.1 hu).1
                simpa [vals] using this
              rw [vals_at y hj] at hu
              cases hu
              exact (HN6.out.alloc _).cell hj)
            have VQ := Lib.hid (show vals y q ++ [.int .u8 1] = vals (fun i => if i < q then y i else 1#8) (q + 1) by
              rw [vals_succ, if_neg (Nat.lt_irrefl q)]
              congr 1
              unfold vals
              refine List.map_congr_left (fun i hi => ?_)
              show Value.int .u8 ((y i).toNat : Nat) = Value.int .u8 ((if i < q then y i else 1#8).toNat : Nat)
              rw [if_pos (List.mem_range.1 hi)])
            obtain ⟨i0, hi0, hz0, hz1, hz2⟩ := info_parts info_u8
            have FIN := Lib.hid (show ∀ w8, Below w.heap.size w w8 → Below w.heap.size w w8 ∧ ((∃ y', Ending.returned (.string ⟨(Gal.coefs (fun i => if i < q then y i else 1#8) (q + 1)).toArray⟩) = .returned (.string ⟨(Blk.locP y' q).toArray⟩) ∧ Blk.Solves M q y' 1#8 ∧ ∀ z, Blk.Solves M q z 1#8 → ∀ r, r < q → z r = y' r) ∨ ((∃ z r, r < q ∧ Blk.Solves M q z 0#8 ∧ z r = 1#8) ∧ ∃ p, Ending.returned (.string ⟨(Gal.coefs (fun i => if i < q then y i else 1#8) (q + 1)).toArray⟩) = .panicked p ∧ Pan p)) from fun w8 h => ⟨h, .inl ⟨y, by rw [Blk.locP_coefs], HS1.out, HS2.out⟩⟩)
            obtain ⟨st, hst⟩ : ∃ s : ByteArray, (⟨(Gal.coefs (fun i => if i < q then y i else 1#8) (q + 1)).toArray⟩ : ByteArray) = s := ⟨_, rfl⟩
            rw [hst] at FIN
            have HST := Lib.hid hst
            clear hB6 hS1 hS2 hN SV hst
            go_wp2_with (at_builtin; refine wpList_append_grows _ rfl _ _ 33 rfl 5 i0 (.int .u8 0) 1 1 Tryd.underlying33 hi0 hz0 hz1 hz2 rfl (by decide) (some ⟨g, 0, none⟩) q q (vals y q) rfl (fun h => by cases h) (by simp [vals]) OL.out ⟨w6.heap.size, 0, none⟩ 1 1 [.int .u8 1] rfl rfl cell_one (by simp [Value.oneCell']) (by omega) (by unfold maxLen; omega) (by omega) ?_; intro v' w8 hown8 hgrow8; rw [VQ.out] at hown8; have CV := own_back hown8; rw [HST.out] at CV; have B8 := Lib.hid (B7.out.grown hgrow8 B7.out.size (fun k e => by cases e)); clear hown8 hgrow8)
            go_ret
            rw [HMM.out]
            exact FIN.out _ B8.out
          · rw [← HMM.out] at hK
            exact ⟨rfl, BW.out.trans (hB6.mono BW.out.size), .inr ⟨hK, p, rfl, hp⟩⟩
end Go.Proofs.YtlpjhmafplljaaaDoor
