/- BlkSpoil, BlkErr as one text. -/
import Derived.Test.YtlpjhmafplljaaaGreatDoorPkQ
import Derived.Lib.SmallJoins
/- What the statements' spoil does: some string of the same length, and a list of places in it. -/
namespace Go.Proofs.YtlpjhmafplljaaaGreatDoor
open Go.RowKit
set_option linter.unusedVariables false
/-- Cells of a list of errors. -/
def Errs (w : World) (a : Option Addr) (m : Nat) (At : Nat → Int) (Ch : Nat → BitVec 8) (Er : Nat → Bool) : Prop :=
  m = 0 ∨ ∃ b off, a = some ⟨b, off, none⟩ ∧ b < w.heap.size ∧ ∀ j, j < m → w.cell? ⟨b, off + j * 3, none⟩ = some (.int .i64 (At j)) ∧ w.cell? ⟨b, off + j * 3 + 1, none⟩ = some (.int .u8 ((Ch j).toNat : Nat)) ∧ w.cell? ⟨b, off + j * 3 + 2, none⟩ = some (.bool (Er j))
theorem Errs.below {w w' : World} {a : Option Addr} {m : Nat} {At : Nat → Int} {Ch : Nat → BitVec 8} {Er : Nat → Bool} (h : Errs w a m At Ch Er) (hb : Below w.heap.size w w') : Errs w' a m At Ch Er := by
  rcases h with h | ⟨b, off, rfl, hl, hc⟩
  · exact .inl h
  · exact .inr ⟨b, off, rfl, Nat.lt_of_lt_of_le hl hb.size, fun j hj => ⟨(hb.cell (p := ⟨b, _, none⟩) hl).trans (hc j hj).1, (hb.cell (p := ⟨b, _, none⟩) hl).trans (hc j hj).2.1, (hb.cell (p := ⟨b, _, none⟩) hl).trans (hc j hj).2.2⟩⟩
theorem add_pl (b off j : Nat) : (⟨b, off, none⟩ : Addr).add j = ⟨b, off + j, none⟩ := by unfold Addr.add; split <;> simp_all
def ivl (zs : List Int) : List Value := zs.map (.int .i64)
theorem ivl_add (zs : List Int) (k : Nat) : ivl (zs ++ [(k : Int)]) = ivl zs ++ [.int .i64 (k : Nat)] := by simp [ivl]
theorem within_add {zs : List Int} {n k : Nat} (h : Within zs n) (hk : k < n) : Within (zs ++ [(k : Int)]) n := fun p hp => by
  rcases List.mem_append.1 hp with q | q
  · exact h p q
  · rw [List.mem_singleton.1 q]; omega
theorem ints_own {w : World} {B m : Nat} {v : Value} {zs : List Int} (h : w.ownsRow B 3 1 v m (ivl zs)) (hm : zs.length = m) : ∃ a cap, v = .slice a m cap ∧ Ints w a zs := by
  rcases h.2 with ⟨rfl, q⟩ | ⟨g, cap, cur, rfl, hb, hh, _⟩
  · have : zs = [] := List.eq_nil_of_length_eq_zero (hm.trans q)
    subst this
    exact ⟨none, 0, by rw [← hm]; rfl, .inl rfl⟩
  · refine ⟨_, cap, rfl, .inr ⟨g, 0, rfl, ?_, fun j hj => ?_⟩⟩
    · rcases Nat.lt_or_ge g w.heap.size with q | q
      · exact q
      · rw [Array.getElem?_eq_none q] at hh; cases hh
    · have := h.cells (g := g) rfl j (.int .i64 (zs.getD j 0)) (by unfold ivl; rw [List.getElem?_map, List.getElem?_eq_getElem hj, Option.map_some, getD_at zs hj])
      rw [add_pl] at this
      exact this
theorem below_set {B : Nat} {a w : World} (h : Below B a w) {p : Addr} (hp : B ≤ p.block) (u : Value) : Below B a (w.setCell p u) := h.setCell hp u
/-- What spoil leaves: a string as long, and places in it. -/
def SpP (L m : Nat) (w : World) (e : Ending) (w' : World) : Prop :=
  ∃ (s : ByteArray) (zs : List Int) (a : Option Addr) (cap : Nat), e = .returned (.tuple #[.string s, .slice a zs.length cap]) ∧ s.size = L ∧ zs.length ≤ m ∧ Within zs L ∧ Ints w' a zs ∧ Below w.heap.size w w'
structure SpoilRegion (sb L D i k b eo m cap : Nat) (V X : BitVec 8) (A : Act) (w0 : World) (s : Nat → Bool) (a : Act) (w : World) : Prop where
  off : Off [26, 27, 28, 29, 30, 31, 32, 33, 34, 35, 36, 37, 38] a A
  before : Below w0.heap.size w0 w
  t0 : s 0 = true → a.eval (.tmp 26) = .slice (some ⟨sb, 0, none⟩) L D
  t1 : s 1 = true → a.eval (.tmp 27) = .int .i64 (k : Nat)
  t2 : s 2 = true → a.eval (.tmp 28) = .slice (some ⟨sb, 0, none⟩) L D
  t3 : s 3 = true → a.eval (.tmp 29) = .int .i64 (k : Nat)
  t4 : s 4 = true → a.eval (.tmp 30) = .pointer (some ⟨sb, k, none⟩)
  t5 : s 5 = true → a.eval (.tmp 31) = .int .u8 (V.toNat : Nat)
  t6 : s 6 = true → a.eval (.tmp 32) = .slice (some ⟨b, eo, none⟩) m cap
  t7 : s 7 = true → a.eval (.tmp 33) = .int .i64 (i : Nat)
  t8 : s 8 = true → a.eval (.tmp 34) = .pointer (some ⟨b, eo + i * 3, none⟩)
  t9 : s 9 = true → a.eval (.tmp 35) = .pointer (some ⟨b, eo + i * 3 + 1, none⟩)
  t10 : s 10 = true → a.eval (.tmp 36) = .int .u8 (X.toNat : Nat)
  t11 : s 11 = true → a.eval (.tmp 37) = .int .u8 ((V ^^^ X).toNat : Nat)
  t12 : s 12 = true → a.eval (.tmp 38) = .pointer (some ⟨sb, k, none⟩)
set_option maxHeartbeats 2000000 in
set_option maxRecDepth 100000 in
theorem spoilRegion {id : Nat} {l : List Oper} {A : Act} {w : World} {Q : Exit → Act → World → Prop} (sb L D i k b eo m cap : Nat) (V X : BitVec 8)
    (hsb : sb < w.heap.size) (hc : w.cell? ⟨sb, k, none⟩ = some (.int .u8 (V.toNat : Nat))) (hk : k < L) (hL : L ≤ 2000) (hb : b < w.heap.size) (he : w.cell? ⟨b, eo + i * 3 + 1, none⟩ = some (.int .u8 (X.toNat : Nat))) (hi : i < m) (hm3 : m ≤ 60)
    (hB : tableH l.toArray 13 (fun i => match i with | 0 => [] | 1 => [] | 2 => [] | 3 => [] | 4 => [2, 3] | 5 => [4] | 6 => [] | 7 => [] | 8 => [6, 7] | 9 => [8] | 10 => [9] | 11 => [5, 10] | 12 => [0, 1] | _ => []) (fun _ => []) = true)
    (h0 : pick l 0 = some (.move (.tmp 6), some 26))
    (h1 : pick l 1 = some (.move (.tmp 9), some 27))
    (h2 : pick l 2 = some (.move (.tmp 6), some 28))
    (h3 : pick l 3 = some (.move (.tmp 9), some 29))
    (h4 : pick l 4 = some (.indexAddr 41 (.tmp 28) (.tmp 29), some 30))
    (h5 : pick l 5 = some (.load 5 (.tmp 30), some 31))
    (h6 : pick l 6 = some (.move (.tmp 1), some 32))
    (h7 : pick l 7 = some (.move (.tmp 8), some 33))
    (h8 : pick l 8 = some (.indexAddr 34 (.tmp 32) (.tmp 33), some 34))
    (h9 : pick l 9 = some (.fieldAddr 64 (.tmp 34) 1, some 35))
    (h10 : pick l 10 = some (.load 5 (.tmp 35), some 36))
    (h11 : pick l 11 = some (.binOp .xor 5 (.tmp 31) (.tmp 36) 5, some 37))
    (h12 : pick l 12 = some (.indexAddr 41 (.tmp 26) (.tmp 27), some 38))
    (hs : A.tmps.size = 51)
    (x6 : A.eval (.tmp 6) = .slice (some ⟨sb, 0, none⟩) L D)
    (x9 : A.eval (.tmp 9) = .int .i64 (k : Nat))
    (x1 : A.eval (.tmp 1) = .slice (some ⟨b, eo, none⟩) m cap)
    (x8 : A.eval (.tmp 8) = .int .i64 (i : Nat))
    (h : ∀ w1, Below w.heap.size w w1 → wpList Tryz.prog l.toArray Q (l.drop 13) (((((((((((((A.put (some 26) (.slice (some ⟨sb, 0, none⟩) L D)).put (some 27) (.int .i64 (k : Nat))).put (some 28) (.slice (some ⟨sb, 0, none⟩) L D)).put (some 29) (.int .i64 (k : Nat))).put (some 30) (.pointer (some ⟨sb, k, none⟩))).put (some 31) (.int .u8 (V.toNat : Nat))).put (some 32) (.slice (some ⟨b, eo, none⟩) m cap)).put (some 33) (.int .i64 (i : Nat))).put (some 34) (.pointer (some ⟨b, eo + i * 3, none⟩))).put (some 35) (.pointer (some ⟨b, eo + i * 3 + 1, none⟩))).put (some 36) (.int .u8 (X.toNat : Nat))).put (some 37) (.int .u8 ((V ^^^ X).toNat : Nat))).put (some 38) (.pointer (some ⟨sb, k, none⟩))) w1) :
    (Code.region id l.toArray true).wp Tryz.prog Q A w := by
  refine wp_region_head (by kernel_rfl) _ _ _ hB (SpoilRegion sb L D i k b eo m cap V X A w) ⟨Off.refl _ _, (Below.refl _ _).drew, by simp, by simp, by simp, by simp, by simp, by simp, by simp, by simp, by simp, by simp, by simp, by simp, by simp⟩ ?_ ?_
  · intro s a w' S i' o il ho hsi hT K hK
    have sz : a.tmps.size = 51 := by rw [S.off.2.1]; exact hs
    have y6 : a.eval (.tmp 6) = .slice (some ⟨sb, 0, none⟩) L D := by rw [S.off.eval (by decide)]; exact x6
    have y9 : a.eval (.tmp 9) = .int .i64 (k : Nat) := by rw [S.off.eval (by decide)]; exact x9
    have y1 : a.eval (.tmp 1) = .slice (some ⟨b, eo, none⟩) m cap := by rw [S.off.eval (by decide)]; exact x1
    have y8 : a.eval (.tmp 8) = .int .i64 (i : Nat) := by rw [S.off.eval (by decide)]; exact x8
    match i', il, ho, hsi, hT with
    | 0, _, ho, hsi, hT =>
      obtain ⟨e1, e2⟩ := pick_of h0 ho
      have BW := S.before
      refine step_val (v := .slice (some ⟨sb, 0, none⟩) L D) (by simp only [execOp, e1, y6]; go_simp) (hK _ _ ?_)
      rw [e2]
      exact ⟨S.off.put (by decide) _, S.before, fun _ => (eval_put _ _ _ (by omega)).trans rfl, kp S.t1, kp S.t2, kp S.t3, kp S.t4, kp S.t5, kp S.t6, kp S.t7, kp S.t8, kp S.t9, kp S.t10, kp S.t11, kp S.t12⟩
    | 1, _, ho, hsi, hT =>
      obtain ⟨e1, e2⟩ := pick_of h1 ho
      have BW := S.before
      refine step_val (v := .int .i64 (k : Nat)) (by simp only [execOp, e1, y9]; go_simp) (hK _ _ ?_)
      rw [e2]
      exact ⟨S.off.put (by decide) _, S.before, kp S.t0, fun _ => (eval_put _ _ _ (by omega)).trans rfl, kp S.t2, kp S.t3, kp S.t4, kp S.t5, kp S.t6, kp S.t7, kp S.t8, kp S.t9, kp S.t10, kp S.t11, kp S.t12⟩
    | 2, _, ho, hsi, hT =>
      obtain ⟨e1, e2⟩ := pick_of h2 ho
      have BW := S.before
      refine step_val (v := .slice (some ⟨sb, 0, none⟩) L D) (by simp only [execOp, e1, y6]; go_simp) (hK _ _ ?_)
      rw [e2]
      exact ⟨S.off.put (by decide) _, S.before, kp S.t0, kp S.t1, fun _ => (eval_put _ _ _ (by omega)).trans rfl, kp S.t3, kp S.t4, kp S.t5, kp S.t6, kp S.t7, kp S.t8, kp S.t9, kp S.t10, kp S.t11, kp S.t12⟩
    | 3, _, ho, hsi, hT =>
      obtain ⟨e1, e2⟩ := pick_of h3 ho
      have BW := S.before
      refine step_val (v := .int .i64 (k : Nat)) (by simp only [execOp, e1, y9]; go_simp) (hK _ _ ?_)
      rw [e2]
      exact ⟨S.off.put (by decide) _, S.before, kp S.t0, kp S.t1, kp S.t2, fun _ => (eval_put _ _ _ (by omega)).trans rfl, kp S.t4, kp S.t5, kp S.t6, kp S.t7, kp S.t8, kp S.t9, kp S.t10, kp S.t11, kp S.t12⟩
    | 4, _, ho, hsi, hT =>
      obtain ⟨e1, e2⟩ := pick_of h4 ho
      have D2 : s 2 = true := list_pos hT (d := 2) (by decide)
      have D3 : s 3 = true := list_pos hT (d := 3) (by decide)
      have BW := S.before
      refine step_val (v := .pointer (some ⟨sb, k, none⟩)) (by simp only [execOp, e1, S.t2 D2, S.t3 D3]; go_simp) (hK _ _ ?_)
      rw [e2]
      exact ⟨S.off.put (by decide) _, S.before, kp S.t0, kp S.t1, kp S.t2, kp S.t3, fun _ => (eval_put _ _ _ (by omega)).trans rfl, kp S.t5, kp S.t6, kp S.t7, kp S.t8, kp S.t9, kp S.t10, kp S.t11, kp S.t12⟩
    | 5, _, ho, hsi, hT =>
      obtain ⟨e1, e2⟩ := pick_of h5 ho
      have D4 : s 4 = true := list_pos hT (d := 4) (by decide)
      have BW := S.before
      have cl := (BW.cell (p := ⟨sb, k, none⟩) hsb).trans hc
      refine step_val (v := .int .u8 (V.toNat : Nat)) (by simp only [execOp, e1, S.t4 D4]; go_simp) (hK _ _ ?_)
      rw [e2]
      exact ⟨S.off.put (by decide) _, S.before, kp S.t0, kp S.t1, kp S.t2, kp S.t3, kp S.t4, fun _ => (eval_put _ _ _ (by omega)).trans rfl, kp S.t6, kp S.t7, kp S.t8, kp S.t9, kp S.t10, kp S.t11, kp S.t12⟩
    | 6, _, ho, hsi, hT =>
      obtain ⟨e1, e2⟩ := pick_of h6 ho
      have BW := S.before
      refine step_val (v := .slice (some ⟨b, eo, none⟩) m cap) (by simp only [execOp, e1, y1]; go_simp) (hK _ _ ?_)
      rw [e2]
      exact ⟨S.off.put (by decide) _, S.before, kp S.t0, kp S.t1, kp S.t2, kp S.t3, kp S.t4, kp S.t5, fun _ => (eval_put _ _ _ (by omega)).trans rfl, kp S.t7, kp S.t8, kp S.t9, kp S.t10, kp S.t11, kp S.t12⟩
    | 7, _, ho, hsi, hT =>
      obtain ⟨e1, e2⟩ := pick_of h7 ho
      have BW := S.before
      refine step_val (v := .int .i64 (i : Nat)) (by simp only [execOp, e1, y8]; go_simp) (hK _ _ ?_)
      rw [e2]
      exact ⟨S.off.put (by decide) _, S.before, kp S.t0, kp S.t1, kp S.t2, kp S.t3, kp S.t4, kp S.t5, kp S.t6, fun _ => (eval_put _ _ _ (by omega)).trans rfl, kp S.t8, kp S.t9, kp S.t10, kp S.t11, kp S.t12⟩
    | 8, _, ho, hsi, hT =>
      obtain ⟨e1, e2⟩ := pick_of h8 ho
      have D6 : s 6 = true := list_pos hT (d := 6) (by decide)
      have D7 : s 7 = true := list_pos hT (d := 7) (by decide)
      have BW := S.before
      refine step_val (v := .pointer (some ⟨b, eo + i * 3, none⟩)) (by simp only [execOp, e1, S.t6 D6, S.t7 D7]; go_simp) (hK _ _ ?_)
      rw [e2]
      exact ⟨S.off.put (by decide) _, S.before, kp S.t0, kp S.t1, kp S.t2, kp S.t3, kp S.t4, kp S.t5, kp S.t6, kp S.t7, fun _ => (eval_put _ _ _ (by omega)).trans rfl, kp S.t9, kp S.t10, kp S.t11, kp S.t12⟩
    | 9, _, ho, hsi, hT =>
      obtain ⟨e1, e2⟩ := pick_of h9 ho
      have D8 : s 8 = true := list_pos hT (d := 8) (by decide)
      have BW := S.before
      refine step_val (v := .pointer (some ⟨b, eo + i * 3 + 1, none⟩)) (by simp only [execOp, e1, S.t8 D8]; go_simp) (hK _ _ ?_)
      rw [e2]
      exact ⟨S.off.put (by decide) _, S.before, kp S.t0, kp S.t1, kp S.t2, kp S.t3, kp S.t4, kp S.t5, kp S.t6, kp S.t7, kp S.t8, fun _ => (eval_put _ _ _ (by omega)).trans rfl, kp S.t10, kp S.t11, kp S.t12⟩
    | 10, _, ho, hsi, hT =>
      obtain ⟨e1, e2⟩ := pick_of h10 ho
      have D9 : s 9 = true := list_pos hT (d := 9) (by decide)
      have BW := S.before
      have cl := (BW.cell (p := ⟨b, eo + i * 3 + 1, none⟩) hb).trans he
      refine step_val (v := .int .u8 (X.toNat : Nat)) (by simp only [execOp, e1, S.t9 D9]; go_simp) (hK _ _ ?_)
      rw [e2]
      exact ⟨S.off.put (by decide) _, S.before, kp S.t0, kp S.t1, kp S.t2, kp S.t3, kp S.t4, kp S.t5, kp S.t6, kp S.t7, kp S.t8, kp S.t9, fun _ => (eval_put _ _ _ (by omega)).trans rfl, kp S.t11, kp S.t12⟩
    | 11, _, ho, hsi, hT =>
      obtain ⟨e1, e2⟩ := pick_of h11 ho
      have D5 : s 5 = true := list_pos hT (d := 5) (by decide)
      have D10 : s 10 = true := list_pos hT (d := 10) (by decide)
      have BW := S.before
      have xr := xor8 V X
      refine step_val (v := .int .u8 ((V ^^^ X).toNat : Nat)) (by simp only [execOp, e1, S.t5 D5, S.t10 D10]; go_simp) (hK _ _ ?_)
      rw [e2]
      exact ⟨S.off.put (by decide) _, S.before, kp S.t0, kp S.t1, kp S.t2, kp S.t3, kp S.t4, kp S.t5, kp S.t6, kp S.t7, kp S.t8, kp S.t9, kp S.t10, fun _ => (eval_put _ _ _ (by omega)).trans rfl, kp S.t12⟩
    | 12, _, ho, hsi, hT =>
      obtain ⟨e1, e2⟩ := pick_of h12 ho
      have D0 : s 0 = true := list_pos hT (d := 0) (by decide)
      have D1 : s 1 = true := list_pos hT (d := 1) (by decide)
      have BW := S.before
      refine step_val (v := .pointer (some ⟨sb, k, none⟩)) (by simp only [execOp, e1, S.t0 D0, S.t1 D1]; go_simp) (hK _ _ ?_)
      rw [e2]
      exact ⟨S.off.put (by decide) _, S.before, kp S.t0, kp S.t1, kp S.t2, kp S.t3, kp S.t4, kp S.t5, kp S.t6, kp S.t7, kp S.t8, kp S.t9, kp S.t10, kp S.t11, fun _ => (eval_put _ _ _ (by omega)).trans rfl⟩
    | _ + 13, il, _, _, _ => exact absurd il (by omega)
  · intro s a w' S hall
    have a0 := hall 0 (by omega)
    have a1 := hall 1 (by omega)
    have a2 := hall 2 (by omega)
    have a3 := hall 3 (by omega)
    have a4 := hall 4 (by omega)
    have a5 := hall 5 (by omega)
    have a6 := hall 6 (by omega)
    have a7 := hall 7 (by omega)
    have a8 := hall 8 (by omega)
    have a9 := hall 9 (by omega)
    have a10 := hall 10 (by omega)
    have a11 := hall 11 (by omega)
    have a12 := hall 12 (by omega)
    have e := off_norm _ (by intro d hd; simp at hd; omega) S.off
    simp only [List.foldl, S.t0 a0, S.t1 a1, S.t2 a2, S.t3 a3, S.t4 a4, S.t5 a5, S.t6 a6, S.t7 a7, S.t8 a8, S.t9 a9, S.t10 a10, S.t11 a11, S.t12 a12] at e
    rw [e]
    exact h _ S.before
set_option maxRecDepth 100000 in
set_option maxHeartbeats 2000000 in
theorem spoil_any (s : ByteArray) (L m : Nat) (hs : s.size = L) (L1 : 1 ≤ L) (L2 : L ≤ 2000) (a : Option Addr) (cap : Nat) (m2 : m ≤ 60) (At : Nat → Int) (Ch : Nat → BitVec 8) (Er : Nat → Bool) (hA : ∀ j, j < m → (Lit.int .i64 (At j)).wf = true) (w : World) (R : Errs w a m At Ch Er) :
    Calls Tryz.prog 15 #[.string s, .slice a m cap] w (SpP L m w) := by
  have HA := Lib.hid hA
  have c1 := run_bytes_of_string (P := Tryz.prog) w 9 41 5 s Tryz.underlying9 Tryz.underlying41 Tryz.underlying5
  have dg := grownCap_ge w s.size 0 5
  obtain ⟨D, hcap⟩ : ∃ D, grownCap w s.size 0 5 = D := ⟨_, rfl⟩
  rw [hcap, hs] at c1
  rw [hcap, hs] at dg
  have n1 := nums_new s D 5 w.drew
  rw [hs, show w.drew.heap.size = w.heap.size from rfl] at n1
  have b1 := ba (Below.refl w.heap.size w).drew (.cells (bytesRow s D) 5 ((bytesRow s D).size, (bytesRow s D).size + 1))
  have lz : (w.drew.alloc (.cells (bytesRow s D) 5 ((bytesRow s D).size, (bytesRow s D).size + 1))).heap.size = w.heap.size + 1 := by rw [World.size_alloc]; rfl
  obtain ⟨w1, hw1⟩ : ∃ w1, w.drew.alloc (.cells (bytesRow s D) 5 ((bytesRow s D).size, (bytesRow s D).size + 1)) = w1 := ⟨_, rfl⟩
  rw [hw1] at c1 n1 b1 lz
  have C1 := Lib.hid c1
  have N1 := Lib.hid n1
  have B1 := Lib.hid b1
  have HR := Lib.hid R
  obtain ⟨sb, hsb⟩ : ∃ d, w.heap.size = d := ⟨_, rfl⟩
  rw [hsb] at N1 C1 lz
  have LZ := Lib.hid lz
  have HSB := Lib.hid hsb
  clear hw1 hcap hA c1 n1 b1 R lz hsb
  go_enter Tryz.func15, Tryz.ntmps15
  go_wp2_with (simp only [C1.out])
  go_loopw [7, 8] (fun o i wr => ∃ (k : Nat) (f : Nat → BitVec 8) (zs : List Int), k ≤ m ∧ i = .int .i64 (k : Nat) ∧ zs.length ≤ k ∧ Within zs L ∧ wr.ownsRow (sb + 1) 3 1 o zs.length (ivl zs) ∧ NumsK .u8 wr sb L (fun p => (f p).toNat) ∧ Below w.heap.size w wr ∧ sb + 1 ≤ wr.heap.size) (fun _ i _ => m - (intOf i).toNat)
  case atStart => exact ⟨0, _, [], Nat.zero_le _, rfl, Nat.le_refl _, (fun p hp => by simp at hp), World.ownsRow_nil _ _ _ _, N1.out, B1.out, by rw [LZ.out]; exact Nat.le_refl _⟩
  case round =>
    obtain ⟨i, f, zs, hi, rfl, hzl, hzw, hown, hN, hB, hsz⟩ := hrel
    have HO := Lib.hid hown
    have HN := Lib.hid hN
    have HB := Lib.hid hB
    have HZ := Lib.hid hsz
    have HW := Lib.hid hzw
    clear hown hN hB hsz hzw
    by_cases hlt : i < m
    · obtain ⟨b, eo, rfl, hbl0, hcell0⟩ := HR.out.resolve_left (by omega)
      have hcell : ∀ j, j < m → wr.cell? ⟨b, eo + j * 3, none⟩ = some (.int .i64 (At j)) ∧ wr.cell? ⟨b, eo + j * 3 + 1, none⟩ = some (.int .u8 ((Ch j).toNat : Nat)) ∧ wr.cell? ⟨b, eo + j * 3 + 2, none⟩ = some (.bool (Er j)) := fun j hj => ⟨(HB.out.cell (p := ⟨b, _, none⟩) hbl0).trans (hcell0 j hj).1, (HB.out.cell (p := ⟨b, _, none⟩) hbl0).trans (hcell0 j hj).2.1, (HB.out.cell (p := ⟨b, _, none⟩) hbl0).trans (hcell0 j hj).2.2⟩
      have BL := Lib.hid (Nat.lt_of_lt_of_le hbl0 HB.out.size)
      have BS := Lib.hid (show b ≠ sb by have := HSB.out; omega)
      obtain ⟨c0, c1, c2⟩ := hcell i hlt
      have EC1 := Lib.hid c1
      have EC2 := Lib.hid c2
      have PK := Lib.hid (fun w => pick_any (At i) (HA.out i hlt) L (by omega) (by omega) w)
      have kL : ((At i) % (L : Int)).toNat < L := by
        have := Int.emod_nonneg (At i) (show (L : Int) ≠ 0 by omega)
        have := Int.emod_lt_of_pos (At i) (show 0 < (L : Int) by omega)
        omega
      obtain ⟨k, hk⟩ : ∃ k, ((At i) % (L : Int)).toNat = k := ⟨_, rfl⟩
      rw [hk] at PK kL
      obtain ⟨x, hx⟩ : ∃ x, At i = x := ⟨_, rfl⟩
      rw [hx] at c0 PK
      clear hk hcell hcell0 hbl0 c1 c2 hx
      go_wp2_with fail
      (with_reducible refine (PK.out _).mono ?_)
      rintro e w4 ⟨rfl, rfl⟩
      clear PK c0
      have cp := HN.out.cell kL
      have SBW := Lib.hid HN.out.1
      obtain ⟨V, hV⟩ : ∃ V, f k = V := ⟨_, rfl⟩
      obtain ⟨X, hX⟩ : ∃ X, Ch i = X := ⟨_, rfl⟩
      rw [hV] at cp
      rw [hX] at EC1
      have CP := Lib.hid cp
      have CPX := Lib.hid (fun w' (hb : Below wr.heap.size wr w') => And.intro ((hb.cell (p := ⟨sb, k, none⟩) HN.out.1).trans cp) ((hb.frozen (p := ⟨sb, k, none⟩) HN.out.1).trans (HN.out.frozen kL)))
      have NX := Lib.hid (fun w' (hb : Below wr.heap.size wr w') => (HN.out.below hb).set (g := fun p => ((fun p => if p = k then V ^^^ X else f p) p).toNat) k (V ^^^ X).toNat kL (by show (if k = k then _ else _ : BitVec 8).toNat = _; rw [if_pos rfl]) (fun p _ hp => by show (if p = k then _ else _ : BitVec 8).toNat = _; rw [if_neg hp]))
      clear cp hV hX
      go_upto_region 13 with fail
      refine spoilRegion sb L D i k b eo m cap V X SBW.out CP.out kL (by omega) BL.out EC1.out hlt m2 (by kernel_rfl) rfl rfl rfl rfl rfl rfl rfl rfl rfl rfl rfl rfl rfl rfl rfl rfl rfl rfl ?_
      intro w5 k5
      simp only [Act.put, List.setIfInBounds_toArray, List.set_cons_succ, List.set_cons_zero, List.drop_succ_cons, List.drop_zero]
      obtain ⟨c5, f5⟩ := CPX.out w5 k5
      have N9 := Lib.hid (NX.out w5 k5)
      have e2 := ((World.cell?_setCell_other w5 ⟨sb, k, none⟩ ⟨b, eo + i * 3 + 2, none⟩ (.int .u8 ((V ^^^ X).toNat : Nat)) (fun e => BS.out (congrArg Addr.block e).symm)).trans (k5.cell (p := ⟨b, eo + i * 3 + 2, none⟩) BL.out)).trans EC2.out
      have H5 := Lib.hid (own_set (own_below HO.out k5) (c := sb) (i := k) (u := (.int .u8 ((V ^^^ X).toNat : Nat))) (Nat.lt_succ_self sb))
      have HB5 := Lib.hid (below_set (bt HB.out k5) (p := ⟨sb, k, none⟩) (by rw [← HSB.out]; exact Nat.le_refl _) (.int .u8 ((V ^^^ X).toNat : Nat)))
      have S5 := Lib.hid (show sb + 1 ≤ (w5.setCell ⟨sb, k, none⟩ (.int .u8 ((V ^^^ X).toNat : Nat))).heap.size by rw [World.size_setCell]; exact Nat.le_trans HZ.out k5.size)
      obtain ⟨i0, hi0, hz0, hz1, hz2⟩ := info_parts info_i64
      obtain ⟨er, her⟩ : ∃ e, Er i = e := ⟨_, rfl⟩
      rw [her] at e2
      obtain ⟨y, hy⟩ : ∃ y, (V ^^^ X).toNat = y := ⟨_, rfl⟩
      rw [hy] at e2 H5 HB5 S5 N9 ⊢
      clear hy k5 CPX NX EC1 EC2 her CP BS SBW HO HB HZ
      cases er with
      | true =>
        have CN := Lib.hid (show ∀ j u, [Value.int .i64 (k : Nat)][j]? = some u → ((w5.setCell ⟨sb, k, none⟩ (.int .u8 (y : Nat))).alloc (.cells #[.int .i64 (k : Nat)] 3)).cell? ((⟨w5.heap.size, 0, none⟩ : Addr).add j) = some u by have := cell_one (w := w5.setCell ⟨sb, k, none⟩ (.int .u8 (y : Nat))) (v := .int .i64 (k : Nat)) (t := 3); rwa [World.size_setCell] at this)
        have S6 := Lib.hid (show sb + 1 ≤ ((w5.setCell ⟨sb, k, none⟩ (.int .u8 (y : Nat))).alloc (.cells #[.int .i64 (k : Nat)] 3)).heap.size by rw [World.size_alloc]; have := S5.out; omega)
        have HB6 := Lib.hid (HB5.out.alloc HB5.out.size (.cells #[.int .i64 (k : Nat)] 3))
        have N10 := Lib.hid (N9.out.alloc (.cells #[.int .i64 (k : Nat)] 3))
        have H6 := Lib.hid (H5.out.alloc (.cells #[.int .i64 (k : Nat)] 3))
        clear N9 HB5 S5
        go_wp2_with (at_builtin; refine wpList_append_own _ rfl _ _ 28 rfl (sb + 1) 3 i0 (.int .i64 0) 1 8 Tryz.underlying28 hi0 hz0 hz1 hz2 rfl (by decide) _ _ _ rfl H6.out ⟨w5.heap.size, 0, none⟩ 1 1 [.int .i64 (k : Nat)] rfl rfl CN.out (by simp [Value.oneCell']) (by unfold maxLen; omega) (by omega) S6.out ?_; intro v' w7 hown2 hgrow _; obtain ⟨g', cap', rfl⟩ := ownsRow_succ hown2; have HO7 := Lib.hid hown2; have HB7 := Lib.hid (HB6.out.grown hgrow HB6.out.size (fun g e => by have := own_block_ge H5.out e; have := HSB.out; omega)); have N11 := Lib.hid (N10.out.of_block (hgrow.block sb N10.out.1 (fun e => by have := own_block_ge H5.out e.symm; omega))); have S7 := Lib.hid (Nat.le_trans S6.out hgrow.size); clear hown2 hgrow)
        go_roundw
        case rel => exact ⟨i + 1, _, zs ++ [(k : Int)], by omega, by go_num, by rw [List.length_append]; simp; omega, within_add HW.out kL, by rw [List.length_append, ivl_add]; exact HO7.out, N11.out, HB7.out, S7.out⟩
        case measure => simp [intOf]; omega
      | false =>
        go_wp2_with fail
        go_roundw
        case rel => exact ⟨i + 1, _, zs, by omega, by go_num, by omega, HW.out, H5.out, N9.out, HB5.out, S5.out⟩
        case measure => simp [intOf]; omega
    · obtain rfl : i = m := by omega
      have CV := Lib.hid (nums_back D HN.out)
      obtain ⟨s2, hs2⟩ : ∃ s2 : ByteArray, (⟨(Gal.coefs f L).toArray⟩ : ByteArray) = s2 := ⟨_, rfl⟩
      have z2 : s2.size = L := by rw [← hs2, sz, Gal.coefs_length]
      obtain ⟨az, cz, rfl, hiz⟩ := ints_own HO.out rfl
      have FIN := Lib.hid (show SpP L i w (.returned (.tuple #[.string s2, .slice az zs.length cz])) wr from ⟨s2, zs, az, cz, rfl, z2, hzl, HW.out, hiz, HB.out⟩)
      rw [hs2] at CV
      clear hs2 HO HN HB HZ HW hiz
      go_wp2_with (simp only [CV.out])
      go_ret2
      exact FIN.out
end Go.Proofs.YtlpjhmafplljaaaGreatDoor
/- An argument that is a list of errors: opened, and shut again in a world in which nothing old has changed. -/
namespace Go.Proofs.YtlpjhmafplljaaaGreatDoor
open Go.ChangeShapes Go.WideShapes Go.ChangeAt Go.RowKit Go.Deep
set_option linter.unusedVariables false

theorem cells_err : Tryz.prog.cellsOf 64 = 3 := by kernel_rfl
theorem under_err : ∃ f0 f1 f2 : Field, Tryz.prog.underlying 64 = some (.struct #[f0, f1, f2]) ∧ oneCellFields Tryz.prog #[f0, f1, f2] = true ∧ f0.type = 3 ∧ f1.type = 5 ∧ f2.type = 4 :=
  ⟨_, _, _, Tryz.underlying64, by kernel_rfl, rfl, rfl, rfl⟩
theorem cells_below {w W' : World} (hB : Below w.heap.size w W') {a : Addr} (h : a.block < w.heap.size) (base n : Nat) : W'.cells? base a n = w.cells? base a n := by
  unfold World.cells?
  have : (fun i => W'.cell? (a.add i)) = fun i => w.cell? (a.add i) := funext fun i => hB.cell (by rw [ChangeShapes.block_add]; exact h)
  rw [this]
theorem addr_eta (a : Addr) (h : a.spot = none) : a = ⟨a.block, a.off, none⟩ := by
  cases a
  cases h
  rfl
theorem u8_bits {c : Int} (h : (Lit.int .u8 c).wf = true) : c = ((BitVec.ofInt 8 c).toNat : Int) := by
  have h2 : 0 ≤ c ∧ c ≤ 255 := by simpa [Lit.wf, IntKind.min, IntKind.max, IntKind.signed, IntKind.bits] using h
  rw [BitVec.toNat_ofInt]
  omega
section
variable {H : Type} {enc : TypeId × Value → H}
/-- One error as a datum. -/
def errD (H : Type) (x : Int) (c : BitVec 8) (b : Bool) : DataW H := .agg [.lit (.int .i64 x), .lit (.int .u8 (c.toNat : Nat)), .lit (.bool b)]
theorem err_mk (w : World) (base : Nat) (sp : Nat → Bool) (held : Bool) (n : Nat) {x : Int} {c : BitVec 8} {b : Bool} (hx : (Lit.int .i64 x).wf = true) :
    DataW.trod enc Tryz.prog w base sp held (n + 2) 64 [.int .i64 x, .int .u8 (c.toNat : Nat), .bool b] = some (errD H x c b, []) := by
  obtain ⟨f0, f1, f2, uS, uO, e0, e1, e2⟩ := under_err
  obtain ⟨o0, k0⟩ := hone_of uO 0 f0 rfl
  obtain ⟨o1, k1⟩ := hone_of uO 1 f1 rfl
  obtain ⟨o2, k2⟩ := hone_of uO 2 f2 rfl
  have hc : (Lit.int .u8 (c.toNat : Int)).wf = true := by
    have := c.isLt
    simp [Lit.wf, IntKind.min, IntKind.max, IntKind.signed, IntKind.bits]
    omega
  have := trod_struct3_mk (enc := enc) (w := w) (base := base) (spare := sp) (held := held) (n := n + 1) (cs := [.int .i64 x, .int .u8 (c.toNat : Nat), .bool b]) (y0 := (.lit (.int .i64 x), [])) (y1 := (.lit (.int .u8 (c.toNat : Nat)), [])) (y2 := (.lit (.bool b), [])) uS (by rw [cells_err]; rfl)
    (by rw [o0, k0, e0]; exact trod_int_mk n Tryz.underlying3 hx) (by rw [o1, k1, e1]; exact trod_int_mk n Tryz.underlying5 hc) (by rw [o2, k2, e2]; simp [DataW.trod, Tryz.underlying4])
  exact this
set_option maxRecDepth 100000 in
theorem err_cells {w : World} {base : Nat} {sp : Nat → Bool} {held : Bool} {fuel : Nat} {cs : List Value} {y : DataW H × List MemPlace} (h : DataW.trod enc Tryz.prog w base sp held fuel 64 cs = some y) :
    ∃ (x : Int) (c : BitVec 8) (b : Bool), cs = [.int .i64 x, .int .u8 (c.toNat : Nat), .bool b] ∧ y = (errD H x c b, []) ∧ (Lit.int .i64 x).wf = true := by
  obtain ⟨f0, f1, f2, uS, uO, e0, e1, e2⟩ := under_err
  obtain ⟨o0, k0⟩ := hone_of uO 0 f0 rfl
  obtain ⟨o1, k1⟩ := hone_of uO 1 f1 rfl
  obtain ⟨o2, k2⟩ := hone_of uO 2 f2 rfl
  obtain ⟨y0, y1, y2, n, rfl, hl, h0, h1, h2⟩ := trod_struct3 uS h
  rw [cells_err] at hl
  match cs, hl with
  | [v0, v1, v2], _ =>
    rw [o0, k0, e0] at h0
    rw [o1, k1, e1] at h1
    rw [o2, k2, e2] at h2
    obtain ⟨x, c0, rfl, g0⟩ := DataW.trod_int Tryz.underlying3 h0
    obtain ⟨c, c1, rfl, g1⟩ := DataW.trod_int Tryz.underlying5 h1
    obtain ⟨b, c2, rfl⟩ := DataW.trod_bool Tryz.underlying4 h2
    simp only [List.drop_zero, List.drop_succ_cons, List.take_succ_cons, List.take_zero, List.cons.injEq, and_true] at c0 c1 c2
    subst c0 c1 c2
    have hb := u8_bits g1
    refine ⟨x, BitVec.ofInt 8 c, b, ?_, ?_, g0⟩
    · rw [← hb]
    · unfold errD
      rw [← hb]
      rfl
set_option maxRecDepth 100000 in
theorem err_arg {w : World} {v : Value} {d : DataW H} {p : List MemPlace} (hv : v.cells.toList = [v]) (hd : DataW.Trod enc Tryz.prog w 0 (fun _ => true) true 34 v d p) :
    ∃ (m : Nat) (A : Option Addr) (cap : Nat) (At : Nat → Int) (Ch : Nat → BitVec 8) (Er : Nat → Bool), v = .slice A m cap ∧ m ≤ maxLen ∧ Errs w A m At Ch Er ∧ (∀ j, j < m → (Lit.int .i64 (At j)).wf = true) ∧
      ∀ W', Below w.heap.size w W' → ∀ sp : Nat → Bool, (∀ q ∈ p, sp q.block = true) → DataW.Trod enc Tryz.prog W' 0 sp true 34 v d p := by
  obtain ⟨fuel, hf⟩ := hd
  rw [hv] at hf
  rcases open_slice Tryz.underlying34 hf with ⟨h1, h2⟩ | ⟨a, len, cap, m, n, D, Pl, h1, hb, hl, hm, hmm, hx, hel⟩
  · simp only [List.cons.injEq, and_true] at h1
    subst h1
    simp only [Prod.mk.injEq] at h2
    obtain ⟨rfl, rfl⟩ := h2
    refine ⟨0, none, 0, fun _ => 0, fun _ => 0#8, fun _ => false, rfl, by unfold maxLen; omega, .inl rfl, fun j hj => absurd hj (Nat.not_lt_zero _), fun W' _ sp _ => ⟨1, ?_⟩⟩
    simp [DataW.trod, Value.cells, Tryz.underlying34]
  · simp only [List.cons.injEq, and_true] at h1
    subst h1
    simp only [Prod.mk.injEq] at hx
    obtain ⟨rfl, rfl⟩ := hx
    obtain rfl : m = cap := by simpa using hmm
    rw [cells_err] at hel
    obtain ⟨q, hq⟩ := choose_lt (α := Int × BitVec 8 × Bool) (p := fun i q => w.cells? 0 (a.add (i * 3)) 3 = some [.int .i64 q.1, .int .u8 (q.2.1.toNat : Nat), .bool q.2.2] ∧ D i = errD H q.1 q.2.1 q.2.2 ∧ Pl i = [] ∧ (Lit.int .i64 q.1).wf = true) (fun i hi => by
      obtain ⟨cs', g1, g2⟩ := hel i hi
      obtain ⟨x, c, b, rfl, e, hw⟩ := err_cells g2
      simp only [Prod.mk.injEq] at e
      exact ⟨(x, c, b), g1, e.1, e.2, hw⟩)
    have hpl : ∀ i j, i < m → j < 3 → a.block < w.heap.size ∧ a.spot = none ∧ ∀ u, [Value.int .i64 (q i).1, .int .u8 ((q i).2.1.toNat : Nat), .bool (q i).2.2][j]? = some u → w.cell? ⟨a.block, a.off + i * 3 + j, none⟩ = some u := fun i j hi hj => by
      obtain ⟨_, _, hat⟩ := World.cells?_some (hq i hi).1
      have h0 := hat 0 (by omega)
      rw [Go.Deep.add_add] at h0
      replace h0 : w.cell? (a.add (i * 3 + 0)) = some (.int .i64 (q i).1) := h0
      have h5 := World.block_lt_of_cell? w _ h0
      rw [ChangeShapes.block_add] at h5
      have h7 : a.spot = none := by
        obtain ⟨_, _, hz⟩ := World.cells?_some (hq 0 (by omega)).1
        have hz0 := hz 0 (by omega)
        rw [Go.Deep.add_add] at hz0
        replace hz0 : w.cell? (a.add 0) = some (.int .i64 (q 0).1) := hz0
        exact World.cell?_spot (a := a) hz0
      refine ⟨h5, h7, fun u hu => ?_⟩
      have hj' := hat j hj
      rw [Go.Deep.add_add] at hj'
      rw [hu] at hj'
      rw [← hj']
      have e := addr_eta a h7
      rw [show a.add (i * 3 + j) = (⟨a.block, a.off, none⟩ : Addr).add (i * 3 + j) by rw [← e], add_pl, Nat.add_assoc]
    refine ⟨len, some a, m, fun i => (q i).1, fun i => (q i).2.1, fun i => (q i).2.2, rfl, by omega, ?_, fun j hj => (hq j (by omega)).2.2.2, fun W' hB sp hsp => ?_⟩
    · rcases Nat.eq_zero_or_pos len with h0 | h0
      · exact .inl h0
      · obtain ⟨h5, h7, _⟩ := hpl 0 0 (by omega) (by omega)
        refine .inr ⟨a.block, a.off, congrArg some (addr_eta a h7), h5, fun j hj => ⟨?_, ?_, ?_⟩⟩
        · exact (hpl j 0 (by omega) (by omega)).2.2 _ rfl
        · exact (hpl j 1 (by omega) (by omega)).2.2 _ rfl
        · exact (hpl j 2 (by omega) (by omega)).2.2 _ rfl
    · have each : ∀ i, i < m → ∃ cs n, W'.cells? 0 (a.add (i * Tryz.prog.cellsOf 64)) (Tryz.prog.cellsOf 64) = some cs ∧ DataW.trod enc Tryz.prog W' 0 sp true n 64 cs = some (D i, Pl i) := fun i hi => by
        obtain ⟨g1, g2, g3, g4⟩ := hq i hi
        rw [cells_err, cells_below hB (by rw [ChangeShapes.block_add]; exact (hpl i 0 hi (by omega)).1), g2, g3]
        exact ⟨_, 2, g1, err_mk W' 0 sp true 0 g4⟩
      rcases Nat.eq_zero_or_pos m with h0 | h0
      · by_cases hs : sp a.block = true
        · exact shut_slice_whole Tryz.underlying34 hb hl hm hs D Pl each
        · have := shut_slice (enc := enc) (P := Tryz.prog) (w := W') (held := true) Tryz.underlying34 hb hl hm (by simpa using hs) D Pl (fun i hi => each i (by omega))
          obtain rfl : len = 0 := by omega
          subst h0
          exact this
      · have hin : MemPlace.cell a.block a.off ∈ MemPlace.row a (m * Tryz.prog.cellsOf 64) := by
          unfold MemPlace.row
          exact List.mem_map.2 ⟨0, by rw [cells_err]; simp; omega, by simp⟩
        have hs : sp a.block = true := hsp _ (List.mem_append_left _ hin)
        exact shut_slice_whole Tryz.underlying34 hb hl hm hs D Pl each
end
end Go.Proofs.YtlpjhmafplljaaaGreatDoor
