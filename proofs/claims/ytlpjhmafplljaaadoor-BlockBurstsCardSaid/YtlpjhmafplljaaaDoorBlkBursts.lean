/- BlockBursts: of all strings of at most 900 bytes, all depths and bursts, a burst of at most four times the depth, in the data or in the parity bytes, is corrected by Unwrap. No condition. -/
import Derived.Test.YtlpjhmafplljaaaDoorBlkBu
import Derived.Lib.SmallJoins
namespace Go.Proofs.YtlpjhmafplljaaaDoor
open Go.ChangeShapes Go.WideShapes Go.ChangeAt Go.RowKit
set_option linter.unusedVariables false

namespace blockBursts
/-- The interleaved blocks after i bytes of the burst. -/
def brs (W S : Nat → BitVec 8) (k i p : Nat) : BitVec 8 := if k ≤ p ∧ p < k + i then W p ^^^ S (p - k) else W p
theorem brs_zero (W S : Nat → BitVec 8) (k p : Nat) : brs W S k 0 p = W p := if_neg (by omega)
theorem brs_here (W S : Nat → BitVec 8) (k i : Nat) : brs W S k (i + 1) (k + i) = W (k + i) ^^^ S i := by unfold brs; rw [if_pos (by omega), Nat.add_sub_cancel_left]
theorem brs_old (W S : Nat → BitVec 8) (k i : Nat) : brs W S k i (k + i) = W (k + i) := if_neg (by omega)
theorem brs_there (W S : Nat → BitVec 8) {k i p : Nat} (h : p ≠ k + i) : brs W S k (i + 1) p = brs W S k i p := by
  unfold brs
  by_cases g : k ≤ p ∧ p < k + i
  · rw [if_pos g, if_pos (by omega)]
  · rw [if_neg g, if_neg (by omega)]
theorem brs_ne {W S : Nat → BitVec 8} {k i p : Nat} (h : brs W S k i p ≠ W p) : k ≤ p ∧ p < k + i := by
  unfold brs at h
  by_cases g : k ≤ p ∧ p < k + i
  · exact g
  · rw [if_neg g] at h
    exact absurd rfl h
theorem unw (a : ByteArray) (S : Nat → BitVec 8) (n z k i L : Nat) (ha : a.size = n) (z1 : 1 ≤ z) (z4 : z ≤ 4) (hz : z ≤ n) (h2 : n ≤ 223 * z) (hL : n + 8 * z = L) (hi : i ≤ 4 * z) (hk : k < n → k + i ≤ n) (w : World) :
    Calls Tryd.prog 12 #[.string ⟨(Gal.coefs (brs (Gal.co (Blk.wrap a.data.toList z)) S k i) L).toArray⟩, .int .i64 (z : Nat), .slice none 0 0] w fun e w' => (∃ cc, e = .returned (.tuple #[.string a, .slice (some ⟨cc, 0, none⟩) z z, .int .i64 0])) ∧ Below w.heap.size w w' := by
  have ln : a.data.toList.length = n := by rw [ls, ha]
  refine (unwrap_any ⟨(Gal.coefs (brs (Gal.co (Blk.wrap a.data.toList z)) S k i) L).toArray⟩ none 0 0 L z n [] (by rw [sz, Gal.coefs_length]) z1 z4 hL (by omega) (by omega) rfl (by decide) (fun p hp => by simp at hp) w (.inl rfl)).mono fun e w' h => ?_
  obtain ⟨er, o, kk, x, cc, t, her, hU, hT, rfl, _, _, hB⟩ := h
  have gq : ∀ p, p < L → Gal.co (⟨(Gal.coefs (brs (Gal.co (Blk.wrap a.data.toList z)) S k i) L).toArray⟩ : ByteArray).data.toList p = brs (Gal.co (Blk.wrap a.data.toList z)) S k i p := fun p hp => by
    show Gal.co (Gal.coefs _ L) p = _
    rw [Gal.co_coefs, if_pos hp]
  have hx : ∀ j, j < z → o j = Blk.part a.data.toList j z ∧ x j = 0 := fun j hj => by
    refine burst_udp a.data.toList n z j k _ er (o j) (kk j) (x j) ln hj hz h2 (fun q hq => no_er her q (by omega)) (fun p hp hne => ?_) ?_ (hU j hj)
    · rw [gq p (by omega)] at hne
      have := brs_ne hne
      omega
    · by_cases g : k < n
      · left
        intro p h3 h4
        rw [gq p (by omega)]
        exact if_neg (by have := hk g; omega)
      · right
        intro p h3
        rw [gq p (by omega)]
        exact if_neg (by omega)
  have ht : t = false := by
    rw [Bool.eq_false_iff]
    intro q
    obtain ⟨j, hj, h⟩ := hT.1 q
    exact h (hx j hj).2
  subst ht
  refine ⟨⟨cc, ?_⟩, hB⟩
  rw [Blk.udt_parts a.data.toList n z o ln (by omega) (fun j hj => (hx j hj).1)]
  rfl
structure BurstRegion (sb L D i k q : Nat) (V : BitVec 8) (x : ByteArray) (A : Act) (w0 : World) (s : Nat → Bool) (a : Act) (w : World) : Prop where
  off : Off [107, 108, 109, 110, 111, 112, 113, 114, 115, 116, 117, 118, 119, 120, 121] a A
  before : Below w0.heap.size w0 w
  t0 : s 0 = true → a.eval (.tmp 107) = .slice (some ⟨sb, 0, none⟩) L D
  t1 : s 1 = true → a.eval (.tmp 108) = .int .i64 (k : Nat)
  t2 : s 2 = true → a.eval (.tmp 109) = .int .i64 (i : Nat)
  t3 : s 3 = true → a.eval (.tmp 110) = .int .i64 (q : Nat)
  t4 : s 4 = true → a.eval (.tmp 111) = .slice (some ⟨sb, 0, none⟩) L D
  t5 : s 5 = true → a.eval (.tmp 112) = .int .i64 (k : Nat)
  t6 : s 6 = true → a.eval (.tmp 113) = .int .i64 (i : Nat)
  t7 : s 7 = true → a.eval (.tmp 114) = .int .i64 (q : Nat)
  t8 : s 8 = true → a.eval (.tmp 115) = .pointer (some ⟨sb, q, none⟩)
  t9 : s 9 = true → a.eval (.tmp 116) = .int .u8 (V.toNat : Nat)
  t10 : s 10 = true → a.eval (.tmp 117) = .string x
  t11 : s 11 = true → a.eval (.tmp 118) = .int .i64 (i : Nat)
  t12 : s 12 = true → a.eval (.tmp 119) = .int .u8 ((Gal.co x.data.toList i).toNat : Nat)
  t13 : s 13 = true → a.eval (.tmp 120) = .int .u8 ((V ^^^ Gal.co x.data.toList i).toNat : Nat)
  t14 : s 14 = true → a.eval (.tmp 121) = .pointer (some ⟨sb, q, none⟩)
set_option maxHeartbeats 2000000 in
set_option maxRecDepth 100000 in
theorem burstRegion {id : Nat} {l : List Oper} {A : Act} {w : World} {Q : Exit → Act → World → Prop} (sb L D i k q : Nat) (V : BitVec 8) (x : ByteArray)
    (hx : i < x.size) (hsb : sb < w.heap.size) (hc : w.cell? ⟨sb, q, none⟩ = some (.int .u8 (V.toNat : Nat))) (hqc : (k : Int) + (i : Int) = (q : Int)) (hq : q < L) (hL : L ≤ 1000)
    (hB : tableH l.toArray 15 (fun i => match i with | 0 => [] | 1 => [] | 2 => [] | 3 => [1, 2] | 4 => [] | 5 => [] | 6 => [] | 7 => [5, 6] | 8 => [4, 7] | 9 => [8] | 10 => [] | 11 => [] | 12 => [10, 11] | 13 => [9, 12] | 14 => [0, 3] | _ => []) (fun _ => []) = true)
    (h0 : pick l 0 = some (.move (.tmp 10), some 107))
    (h1 : pick l 1 = some (.move (.tmp 11), some 108))
    (h2 : pick l 2 = some (.move (.tmp 12), some 109))
    (h3 : pick l 3 = some (.binOp .add 3 (.tmp 108) (.tmp 109) 3, some 110))
    (h4 : pick l 4 = some (.move (.tmp 10), some 111))
    (h5 : pick l 5 = some (.move (.tmp 11), some 112))
    (h6 : pick l 6 = some (.move (.tmp 12), some 113))
    (h7 : pick l 7 = some (.binOp .add 3 (.tmp 112) (.tmp 113) 3, some 114))
    (h8 : pick l 8 = some (.indexAddr 33 (.tmp 111) (.tmp 114), some 115))
    (h9 : pick l 9 = some (.load 5 (.tmp 115), some 116))
    (h10 : pick l 10 = some (.move (.tmp 7), some 117))
    (h11 : pick l 11 = some (.move (.tmp 12), some 118))
    (h12 : pick l 12 = some (.index 9 (.tmp 117) (.tmp 118), some 119))
    (h13 : pick l 13 = some (.binOp .xor 5 (.tmp 116) (.tmp 119) 5, some 120))
    (h14 : pick l 14 = some (.indexAddr 33 (.tmp 107) (.tmp 110), some 121))
    (hs : A.tmps.size = 146)
    (x10 : A.eval (.tmp 10) = .slice (some ⟨sb, 0, none⟩) L D)
    (x11 : A.eval (.tmp 11) = .int .i64 (k : Nat))
    (x12 : A.eval (.tmp 12) = .int .i64 (i : Nat))
    (x7 : A.eval (.tmp 7) = .string x)
    (h : ∀ w1, Below w.heap.size w w1 → wpList Tryd.prog l.toArray Q (l.drop 15) (((((((((((((((A.put (some 107) (.slice (some ⟨sb, 0, none⟩) L D)).put (some 108) (.int .i64 (k : Nat))).put (some 109) (.int .i64 (i : Nat))).put (some 110) (.int .i64 (q : Nat))).put (some 111) (.slice (some ⟨sb, 0, none⟩) L D)).put (some 112) (.int .i64 (k : Nat))).put (some 113) (.int .i64 (i : Nat))).put (some 114) (.int .i64 (q : Nat))).put (some 115) (.pointer (some ⟨sb, q, none⟩))).put (some 116) (.int .u8 (V.toNat : Nat))).put (some 117) (.string x)).put (some 118) (.int .i64 (i : Nat))).put (some 119) (.int .u8 ((Gal.co x.data.toList i).toNat : Nat))).put (some 120) (.int .u8 ((V ^^^ Gal.co x.data.toList i).toNat : Nat))).put (some 121) (.pointer (some ⟨sb, q, none⟩))) w1) :
    (Code.region id l.toArray true).wp Tryd.prog Q A w := by
  refine wp_region_head (by kernel_rfl) _ _ _ hB (BurstRegion sb L D i k q V x A w) ⟨Off.refl _ _, (Below.refl _ _).drew, by simp, by simp, by simp, by simp, by simp, by simp, by simp, by simp, by simp, by simp, by simp, by simp, by simp, by simp, by simp⟩ ?_ ?_
  · intro s a w' S i' o il ho hsi hT K hK
    have sz : a.tmps.size = 146 := by rw [S.off.2.1]; exact hs
    have y10 : a.eval (.tmp 10) = .slice (some ⟨sb, 0, none⟩) L D := by rw [S.off.eval (by decide)]; exact x10
    have y11 : a.eval (.tmp 11) = .int .i64 (k : Nat) := by rw [S.off.eval (by decide)]; exact x11
    have y12 : a.eval (.tmp 12) = .int .i64 (i : Nat) := by rw [S.off.eval (by decide)]; exact x12
    have y7 : a.eval (.tmp 7) = .string x := by rw [S.off.eval (by decide)]; exact x7
    match i', il, ho, hsi, hT with
    | 0, _, ho, hsi, hT =>
      obtain ⟨e1, e2⟩ := pick_of h0 ho
      have BW := S.before
      refine step_val (v := .slice (some ⟨sb, 0, none⟩) L D) (by simp only [execOp, e1, y10]; go_simp) (hK _ _ ?_)
      rw [e2]
      exact ⟨S.off.put (by decide) _, S.before, fun _ => (eval_put _ _ _ (by omega)).trans rfl, fun g => by rw [eval_put_ne _ _ _ _ (by decide)]; exact S.t1 (by simpa using g), fun g => by rw [eval_put_ne _ _ _ _ (by decide)]; exact S.t2 (by simpa using g), fun g => by rw [eval_put_ne _ _ _ _ (by decide)]; exact S.t3 (by simpa using g), fun g => by rw [eval_put_ne _ _ _ _ (by decide)]; exact S.t4 (by simpa using g), fun g => by rw [eval_put_ne _ _ _ _ (by decide)]; exact S.t5 (by simpa using g), fun g => by rw [eval_put_ne _ _ _ _ (by decide)]; exact S.t6 (by simpa using g), fun g => by rw [eval_put_ne _ _ _ _ (by decide)]; exact S.t7 (by simpa using g), fun g => by rw [eval_put_ne _ _ _ _ (by decide)]; exact S.t8 (by simpa using g), fun g => by rw [eval_put_ne _ _ _ _ (by decide)]; exact S.t9 (by simpa using g), fun g => by rw [eval_put_ne _ _ _ _ (by decide)]; exact S.t10 (by simpa using g), fun g => by rw [eval_put_ne _ _ _ _ (by decide)]; exact S.t11 (by simpa using g), fun g => by rw [eval_put_ne _ _ _ _ (by decide)]; exact S.t12 (by simpa using g), fun g => by rw [eval_put_ne _ _ _ _ (by decide)]; exact S.t13 (by simpa using g), fun g => by rw [eval_put_ne _ _ _ _ (by decide)]; exact S.t14 (by simpa using g)⟩
    | 1, _, ho, hsi, hT =>
      obtain ⟨e1, e2⟩ := pick_of h1 ho
      have BW := S.before
      refine step_val (v := .int .i64 (k : Nat)) (by simp only [execOp, e1, y11]; go_simp) (hK _ _ ?_)
      rw [e2]
      exact ⟨S.off.put (by decide) _, S.before, fun g => by rw [eval_put_ne _ _ _ _ (by decide)]; exact S.t0 (by simpa using g), fun _ => (eval_put _ _ _ (by omega)).trans rfl, fun g => by rw [eval_put_ne _ _ _ _ (by decide)]; exact S.t2 (by simpa using g), fun g => by rw [eval_put_ne _ _ _ _ (by decide)]; exact S.t3 (by simpa using g), fun g => by rw [eval_put_ne _ _ _ _ (by decide)]; exact S.t4 (by simpa using g), fun g => by rw [eval_put_ne _ _ _ _ (by decide)]; exact S.t5 (by simpa using g), fun g => by rw [eval_put_ne _ _ _ _ (by decide)]; exact S.t6 (by simpa using g), fun g => by rw [eval_put_ne _ _ _ _ (by decide)]; exact S.t7 (by simpa using g), fun g => by rw [eval_put_ne _ _ _ _ (by decide)]; exact S.t8 (by simpa using g), fun g => by rw [eval_put_ne _ _ _ _ (by decide)]; exact S.t9 (by simpa using g), fun g => by rw [eval_put_ne _ _ _ _ (by decide)]; exact S.t10 (by simpa using g), fun g => by rw [eval_put_ne _ _ _ _ (by decide)]; exact S.t11 (by simpa using g), fun g => by rw [eval_put_ne _ _ _ _ (by decide)]; exact S.t12 (by simpa using g), fun g => by rw [eval_put_ne _ _ _ _ (by decide)]; exact S.t13 (by simpa using g), fun g => by rw [eval_put_ne _ _ _ _ (by decide)]; exact S.t14 (by simpa using g)⟩
    | 2, _, ho, hsi, hT =>
      obtain ⟨e1, e2⟩ := pick_of h2 ho
      have BW := S.before
      refine step_val (v := .int .i64 (i : Nat)) (by simp only [execOp, e1, y12]; go_simp) (hK _ _ ?_)
      rw [e2]
      exact ⟨S.off.put (by decide) _, S.before, fun g => by rw [eval_put_ne _ _ _ _ (by decide)]; exact S.t0 (by simpa using g), fun g => by rw [eval_put_ne _ _ _ _ (by decide)]; exact S.t1 (by simpa using g), fun _ => (eval_put _ _ _ (by omega)).trans rfl, fun g => by rw [eval_put_ne _ _ _ _ (by decide)]; exact S.t3 (by simpa using g), fun g => by rw [eval_put_ne _ _ _ _ (by decide)]; exact S.t4 (by simpa using g), fun g => by rw [eval_put_ne _ _ _ _ (by decide)]; exact S.t5 (by simpa using g), fun g => by rw [eval_put_ne _ _ _ _ (by decide)]; exact S.t6 (by simpa using g), fun g => by rw [eval_put_ne _ _ _ _ (by decide)]; exact S.t7 (by simpa using g), fun g => by rw [eval_put_ne _ _ _ _ (by decide)]; exact S.t8 (by simpa using g), fun g => by rw [eval_put_ne _ _ _ _ (by decide)]; exact S.t9 (by simpa using g), fun g => by rw [eval_put_ne _ _ _ _ (by decide)]; exact S.t10 (by simpa using g), fun g => by rw [eval_put_ne _ _ _ _ (by decide)]; exact S.t11 (by simpa using g), fun g => by rw [eval_put_ne _ _ _ _ (by decide)]; exact S.t12 (by simpa using g), fun g => by rw [eval_put_ne _ _ _ _ (by decide)]; exact S.t13 (by simpa using g), fun g => by rw [eval_put_ne _ _ _ _ (by decide)]; exact S.t14 (by simpa using g)⟩
    | 3, _, ho, hsi, hT =>
      obtain ⟨e1, e2⟩ := pick_of h3 ho
      have D1 : s 1 = true := list_pos hT (d := 1) (by decide)
      have D2 : s 2 = true := list_pos hT (d := 2) (by decide)
      have BW := S.before
      refine step_val (v := .int .i64 (q : Nat)) (by simp only [execOp, e1, S.t1 D1, S.t2 D2]; go_simp; rw [IntKind.wrap_i64]; omega) (hK _ _ ?_)
      rw [e2]
      exact ⟨S.off.put (by decide) _, S.before, fun g => by rw [eval_put_ne _ _ _ _ (by decide)]; exact S.t0 (by simpa using g), fun g => by rw [eval_put_ne _ _ _ _ (by decide)]; exact S.t1 (by simpa using g), fun g => by rw [eval_put_ne _ _ _ _ (by decide)]; exact S.t2 (by simpa using g), fun _ => (eval_put _ _ _ (by omega)).trans rfl, fun g => by rw [eval_put_ne _ _ _ _ (by decide)]; exact S.t4 (by simpa using g), fun g => by rw [eval_put_ne _ _ _ _ (by decide)]; exact S.t5 (by simpa using g), fun g => by rw [eval_put_ne _ _ _ _ (by decide)]; exact S.t6 (by simpa using g), fun g => by rw [eval_put_ne _ _ _ _ (by decide)]; exact S.t7 (by simpa using g), fun g => by rw [eval_put_ne _ _ _ _ (by decide)]; exact S.t8 (by simpa using g), fun g => by rw [eval_put_ne _ _ _ _ (by decide)]; exact S.t9 (by simpa using g), fun g => by rw [eval_put_ne _ _ _ _ (by decide)]; exact S.t10 (by simpa using g), fun g => by rw [eval_put_ne _ _ _ _ (by decide)]; exact S.t11 (by simpa using g), fun g => by rw [eval_put_ne _ _ _ _ (by decide)]; exact S.t12 (by simpa using g), fun g => by rw [eval_put_ne _ _ _ _ (by decide)]; exact S.t13 (by simpa using g), fun g => by rw [eval_put_ne _ _ _ _ (by decide)]; exact S.t14 (by simpa using g)⟩
    | 4, _, ho, hsi, hT =>
      obtain ⟨e1, e2⟩ := pick_of h4 ho
      have BW := S.before
      refine step_val (v := .slice (some ⟨sb, 0, none⟩) L D) (by simp only [execOp, e1, y10]; go_simp) (hK _ _ ?_)
      rw [e2]
      exact ⟨S.off.put (by decide) _, S.before, fun g => by rw [eval_put_ne _ _ _ _ (by decide)]; exact S.t0 (by simpa using g), fun g => by rw [eval_put_ne _ _ _ _ (by decide)]; exact S.t1 (by simpa using g), fun g => by rw [eval_put_ne _ _ _ _ (by decide)]; exact S.t2 (by simpa using g), fun g => by rw [eval_put_ne _ _ _ _ (by decide)]; exact S.t3 (by simpa using g), fun _ => (eval_put _ _ _ (by omega)).trans rfl, fun g => by rw [eval_put_ne _ _ _ _ (by decide)]; exact S.t5 (by simpa using g), fun g => by rw [eval_put_ne _ _ _ _ (by decide)]; exact S.t6 (by simpa using g), fun g => by rw [eval_put_ne _ _ _ _ (by decide)]; exact S.t7 (by simpa using g), fun g => by rw [eval_put_ne _ _ _ _ (by decide)]; exact S.t8 (by simpa using g), fun g => by rw [eval_put_ne _ _ _ _ (by decide)]; exact S.t9 (by simpa using g), fun g => by rw [eval_put_ne _ _ _ _ (by decide)]; exact S.t10 (by simpa using g), fun g => by rw [eval_put_ne _ _ _ _ (by decide)]; exact S.t11 (by simpa using g), fun g => by rw [eval_put_ne _ _ _ _ (by decide)]; exact S.t12 (by simpa using g), fun g => by rw [eval_put_ne _ _ _ _ (by decide)]; exact S.t13 (by simpa using g), fun g => by rw [eval_put_ne _ _ _ _ (by decide)]; exact S.t14 (by simpa using g)⟩
    | 5, _, ho, hsi, hT =>
      obtain ⟨e1, e2⟩ := pick_of h5 ho
      have BW := S.before
      refine step_val (v := .int .i64 (k : Nat)) (by simp only [execOp, e1, y11]; go_simp) (hK _ _ ?_)
      rw [e2]
      exact ⟨S.off.put (by decide) _, S.before, fun g => by rw [eval_put_ne _ _ _ _ (by decide)]; exact S.t0 (by simpa using g), fun g => by rw [eval_put_ne _ _ _ _ (by decide)]; exact S.t1 (by simpa using g), fun g => by rw [eval_put_ne _ _ _ _ (by decide)]; exact S.t2 (by simpa using g), fun g => by rw [eval_put_ne _ _ _ _ (by decide)]; exact S.t3 (by simpa using g), fun g => by rw [eval_put_ne _ _ _ _ (by decide)]; exact S.t4 (by simpa using g), fun _ => (eval_put _ _ _ (by omega)).trans rfl, fun g => by rw [eval_put_ne _ _ _ _ (by decide)]; exact S.t6 (by simpa using g), fun g => by rw [eval_put_ne _ _ _ _ (by decide)]; exact S.t7 (by simpa using g), fun g => by rw [eval_put_ne _ _ _ _ (by decide)]; exact S.t8 (by simpa using g), fun g => by rw [eval_put_ne _ _ _ _ (by decide)]; exact S.t9 (by simpa using g), fun g => by rw [eval_put_ne _ _ _ _ (by decide)]; exact S.t10 (by simpa using g), fun g => by rw [eval_put_ne _ _ _ _ (by decide)]; exact S.t11 (by simpa using g), fun g => by rw [eval_put_ne _ _ _ _ (by decide)]; exact S.t12 (by simpa using g), fun g => by rw [eval_put_ne _ _ _ _ (by decide)]; exact S.t13 (by simpa using g), fun g => by rw [eval_put_ne _ _ _ _ (by decide)]; exact S.t14 (by simpa using g)⟩
    | 6, _, ho, hsi, hT =>
      obtain ⟨e1, e2⟩ := pick_of h6 ho
      have BW := S.before
      refine step_val (v := .int .i64 (i : Nat)) (by simp only [execOp, e1, y12]; go_simp) (hK _ _ ?_)
      rw [e2]
      exact ⟨S.off.put (by decide) _, S.before, fun g => by rw [eval_put_ne _ _ _ _ (by decide)]; exact S.t0 (by simpa using g), fun g => by rw [eval_put_ne _ _ _ _ (by decide)]; exact S.t1 (by simpa using g), fun g => by rw [eval_put_ne _ _ _ _ (by decide)]; exact S.t2 (by simpa using g), fun g => by rw [eval_put_ne _ _ _ _ (by decide)]; exact S.t3 (by simpa using g), fun g => by rw [eval_put_ne _ _ _ _ (by decide)]; exact S.t4 (by simpa using g), fun g => by rw [eval_put_ne _ _ _ _ (by decide)]; exact S.t5 (by simpa using g), fun _ => (eval_put _ _ _ (by omega)).trans rfl, fun g => by rw [eval_put_ne _ _ _ _ (by decide)]; exact S.t7 (by simpa using g), fun g => by rw [eval_put_ne _ _ _ _ (by decide)]; exact S.t8 (by simpa using g), fun g => by rw [eval_put_ne _ _ _ _ (by decide)]; exact S.t9 (by simpa using g), fun g => by rw [eval_put_ne _ _ _ _ (by decide)]; exact S.t10 (by simpa using g), fun g => by rw [eval_put_ne _ _ _ _ (by decide)]; exact S.t11 (by simpa using g), fun g => by rw [eval_put_ne _ _ _ _ (by decide)]; exact S.t12 (by simpa using g), fun g => by rw [eval_put_ne _ _ _ _ (by decide)]; exact S.t13 (by simpa using g), fun g => by rw [eval_put_ne _ _ _ _ (by decide)]; exact S.t14 (by simpa using g)⟩
    | 7, _, ho, hsi, hT =>
      obtain ⟨e1, e2⟩ := pick_of h7 ho
      have D5 : s 5 = true := list_pos hT (d := 5) (by decide)
      have D6 : s 6 = true := list_pos hT (d := 6) (by decide)
      have BW := S.before
      refine step_val (v := .int .i64 (q : Nat)) (by simp only [execOp, e1, S.t5 D5, S.t6 D6]; go_simp; rw [IntKind.wrap_i64]; omega) (hK _ _ ?_)
      rw [e2]
      exact ⟨S.off.put (by decide) _, S.before, fun g => by rw [eval_put_ne _ _ _ _ (by decide)]; exact S.t0 (by simpa using g), fun g => by rw [eval_put_ne _ _ _ _ (by decide)]; exact S.t1 (by simpa using g), fun g => by rw [eval_put_ne _ _ _ _ (by decide)]; exact S.t2 (by simpa using g), fun g => by rw [eval_put_ne _ _ _ _ (by decide)]; exact S.t3 (by simpa using g), fun g => by rw [eval_put_ne _ _ _ _ (by decide)]; exact S.t4 (by simpa using g), fun g => by rw [eval_put_ne _ _ _ _ (by decide)]; exact S.t5 (by simpa using g), fun g => by rw [eval_put_ne _ _ _ _ (by decide)]; exact S.t6 (by simpa using g), fun _ => (eval_put _ _ _ (by omega)).trans rfl, fun g => by rw [eval_put_ne _ _ _ _ (by decide)]; exact S.t8 (by simpa using g), fun g => by rw [eval_put_ne _ _ _ _ (by decide)]; exact S.t9 (by simpa using g), fun g => by rw [eval_put_ne _ _ _ _ (by decide)]; exact S.t10 (by simpa using g), fun g => by rw [eval_put_ne _ _ _ _ (by decide)]; exact S.t11 (by simpa using g), fun g => by rw [eval_put_ne _ _ _ _ (by decide)]; exact S.t12 (by simpa using g), fun g => by rw [eval_put_ne _ _ _ _ (by decide)]; exact S.t13 (by simpa using g), fun g => by rw [eval_put_ne _ _ _ _ (by decide)]; exact S.t14 (by simpa using g)⟩
    | 8, _, ho, hsi, hT =>
      obtain ⟨e1, e2⟩ := pick_of h8 ho
      have D4 : s 4 = true := list_pos hT (d := 4) (by decide)
      have D7 : s 7 = true := list_pos hT (d := 7) (by decide)
      have BW := S.before
      refine step_val (v := .pointer (some ⟨sb, q, none⟩)) (by simp only [execOp, e1, S.t4 D4, S.t7 D7]; go_simp) (hK _ _ ?_)
      rw [e2]
      exact ⟨S.off.put (by decide) _, S.before, fun g => by rw [eval_put_ne _ _ _ _ (by decide)]; exact S.t0 (by simpa using g), fun g => by rw [eval_put_ne _ _ _ _ (by decide)]; exact S.t1 (by simpa using g), fun g => by rw [eval_put_ne _ _ _ _ (by decide)]; exact S.t2 (by simpa using g), fun g => by rw [eval_put_ne _ _ _ _ (by decide)]; exact S.t3 (by simpa using g), fun g => by rw [eval_put_ne _ _ _ _ (by decide)]; exact S.t4 (by simpa using g), fun g => by rw [eval_put_ne _ _ _ _ (by decide)]; exact S.t5 (by simpa using g), fun g => by rw [eval_put_ne _ _ _ _ (by decide)]; exact S.t6 (by simpa using g), fun g => by rw [eval_put_ne _ _ _ _ (by decide)]; exact S.t7 (by simpa using g), fun _ => (eval_put _ _ _ (by omega)).trans rfl, fun g => by rw [eval_put_ne _ _ _ _ (by decide)]; exact S.t9 (by simpa using g), fun g => by rw [eval_put_ne _ _ _ _ (by decide)]; exact S.t10 (by simpa using g), fun g => by rw [eval_put_ne _ _ _ _ (by decide)]; exact S.t11 (by simpa using g), fun g => by rw [eval_put_ne _ _ _ _ (by decide)]; exact S.t12 (by simpa using g), fun g => by rw [eval_put_ne _ _ _ _ (by decide)]; exact S.t13 (by simpa using g), fun g => by rw [eval_put_ne _ _ _ _ (by decide)]; exact S.t14 (by simpa using g)⟩
    | 9, _, ho, hsi, hT =>
      obtain ⟨e1, e2⟩ := pick_of h9 ho
      have D8 : s 8 = true := list_pos hT (d := 8) (by decide)
      have BW := S.before
      have cl := (BW.cell (p := ⟨sb, q, none⟩) hsb).trans hc
      refine step_val (v := .int .u8 (V.toNat : Nat)) (by simp only [execOp, e1, S.t8 D8]; go_simp) (hK _ _ ?_)
      rw [e2]
      exact ⟨S.off.put (by decide) _, S.before, fun g => by rw [eval_put_ne _ _ _ _ (by decide)]; exact S.t0 (by simpa using g), fun g => by rw [eval_put_ne _ _ _ _ (by decide)]; exact S.t1 (by simpa using g), fun g => by rw [eval_put_ne _ _ _ _ (by decide)]; exact S.t2 (by simpa using g), fun g => by rw [eval_put_ne _ _ _ _ (by decide)]; exact S.t3 (by simpa using g), fun g => by rw [eval_put_ne _ _ _ _ (by decide)]; exact S.t4 (by simpa using g), fun g => by rw [eval_put_ne _ _ _ _ (by decide)]; exact S.t5 (by simpa using g), fun g => by rw [eval_put_ne _ _ _ _ (by decide)]; exact S.t6 (by simpa using g), fun g => by rw [eval_put_ne _ _ _ _ (by decide)]; exact S.t7 (by simpa using g), fun g => by rw [eval_put_ne _ _ _ _ (by decide)]; exact S.t8 (by simpa using g), fun _ => (eval_put _ _ _ (by omega)).trans rfl, fun g => by rw [eval_put_ne _ _ _ _ (by decide)]; exact S.t10 (by simpa using g), fun g => by rw [eval_put_ne _ _ _ _ (by decide)]; exact S.t11 (by simpa using g), fun g => by rw [eval_put_ne _ _ _ _ (by decide)]; exact S.t12 (by simpa using g), fun g => by rw [eval_put_ne _ _ _ _ (by decide)]; exact S.t13 (by simpa using g), fun g => by rw [eval_put_ne _ _ _ _ (by decide)]; exact S.t14 (by simpa using g)⟩
    | 10, _, ho, hsi, hT =>
      obtain ⟨e1, e2⟩ := pick_of h10 ho
      have BW := S.before
      refine step_val (v := .string x) (by simp only [execOp, e1, y7]; go_simp) (hK _ _ ?_)
      rw [e2]
      exact ⟨S.off.put (by decide) _, S.before, fun g => by rw [eval_put_ne _ _ _ _ (by decide)]; exact S.t0 (by simpa using g), fun g => by rw [eval_put_ne _ _ _ _ (by decide)]; exact S.t1 (by simpa using g), fun g => by rw [eval_put_ne _ _ _ _ (by decide)]; exact S.t2 (by simpa using g), fun g => by rw [eval_put_ne _ _ _ _ (by decide)]; exact S.t3 (by simpa using g), fun g => by rw [eval_put_ne _ _ _ _ (by decide)]; exact S.t4 (by simpa using g), fun g => by rw [eval_put_ne _ _ _ _ (by decide)]; exact S.t5 (by simpa using g), fun g => by rw [eval_put_ne _ _ _ _ (by decide)]; exact S.t6 (by simpa using g), fun g => by rw [eval_put_ne _ _ _ _ (by decide)]; exact S.t7 (by simpa using g), fun g => by rw [eval_put_ne _ _ _ _ (by decide)]; exact S.t8 (by simpa using g), fun g => by rw [eval_put_ne _ _ _ _ (by decide)]; exact S.t9 (by simpa using g), fun _ => (eval_put _ _ _ (by omega)).trans rfl, fun g => by rw [eval_put_ne _ _ _ _ (by decide)]; exact S.t11 (by simpa using g), fun g => by rw [eval_put_ne _ _ _ _ (by decide)]; exact S.t12 (by simpa using g), fun g => by rw [eval_put_ne _ _ _ _ (by decide)]; exact S.t13 (by simpa using g), fun g => by rw [eval_put_ne _ _ _ _ (by decide)]; exact S.t14 (by simpa using g)⟩
    | 11, _, ho, hsi, hT =>
      obtain ⟨e1, e2⟩ := pick_of h11 ho
      have BW := S.before
      refine step_val (v := .int .i64 (i : Nat)) (by simp only [execOp, e1, y12]; go_simp) (hK _ _ ?_)
      rw [e2]
      exact ⟨S.off.put (by decide) _, S.before, fun g => by rw [eval_put_ne _ _ _ _ (by decide)]; exact S.t0 (by simpa using g), fun g => by rw [eval_put_ne _ _ _ _ (by decide)]; exact S.t1 (by simpa using g), fun g => by rw [eval_put_ne _ _ _ _ (by decide)]; exact S.t2 (by simpa using g), fun g => by rw [eval_put_ne _ _ _ _ (by decide)]; exact S.t3 (by simpa using g), fun g => by rw [eval_put_ne _ _ _ _ (by decide)]; exact S.t4 (by simpa using g), fun g => by rw [eval_put_ne _ _ _ _ (by decide)]; exact S.t5 (by simpa using g), fun g => by rw [eval_put_ne _ _ _ _ (by decide)]; exact S.t6 (by simpa using g), fun g => by rw [eval_put_ne _ _ _ _ (by decide)]; exact S.t7 (by simpa using g), fun g => by rw [eval_put_ne _ _ _ _ (by decide)]; exact S.t8 (by simpa using g), fun g => by rw [eval_put_ne _ _ _ _ (by decide)]; exact S.t9 (by simpa using g), fun g => by rw [eval_put_ne _ _ _ _ (by decide)]; exact S.t10 (by simpa using g), fun _ => (eval_put _ _ _ (by omega)).trans rfl, fun g => by rw [eval_put_ne _ _ _ _ (by decide)]; exact S.t12 (by simpa using g), fun g => by rw [eval_put_ne _ _ _ _ (by decide)]; exact S.t13 (by simpa using g), fun g => by rw [eval_put_ne _ _ _ _ (by decide)]; exact S.t14 (by simpa using g)⟩
    | 12, _, ho, hsi, hT =>
      obtain ⟨e1, e2⟩ := pick_of h12 ho
      have D10 : s 10 = true := list_pos hT (d := 10) (by decide)
      have D11 : s 11 = true := list_pos hT (d := 11) (by decide)
      have BW := S.before
      have bc := byte_co x i hx
      refine step_val (v := .int .u8 ((Gal.co x.data.toList i).toNat : Nat)) (by simp only [execOp, e1, S.t10 D10, S.t11 D11]; go_simp) (hK _ _ ?_)
      rw [e2]
      exact ⟨S.off.put (by decide) _, S.before, fun g => by rw [eval_put_ne _ _ _ _ (by decide)]; exact S.t0 (by simpa using g), fun g => by rw [eval_put_ne _ _ _ _ (by decide)]; exact S.t1 (by simpa using g), fun g => by rw [eval_put_ne _ _ _ _ (by decide)]; exact S.t2 (by simpa using g), fun g => by rw [eval_put_ne _ _ _ _ (by decide)]; exact S.t3 (by simpa using g), fun g => by rw [eval_put_ne _ _ _ _ (by decide)]; exact S.t4 (by simpa using g), fun g => by rw [eval_put_ne _ _ _ _ (by decide)]; exact S.t5 (by simpa using g), fun g => by rw [eval_put_ne _ _ _ _ (by decide)]; exact S.t6 (by simpa using g), fun g => by rw [eval_put_ne _ _ _ _ (by decide)]; exact S.t7 (by simpa using g), fun g => by rw [eval_put_ne _ _ _ _ (by decide)]; exact S.t8 (by simpa using g), fun g => by rw [eval_put_ne _ _ _ _ (by decide)]; exact S.t9 (by simpa using g), fun g => by rw [eval_put_ne _ _ _ _ (by decide)]; exact S.t10 (by simpa using g), fun g => by rw [eval_put_ne _ _ _ _ (by decide)]; exact S.t11 (by simpa using g), fun _ => (eval_put _ _ _ (by omega)).trans rfl, fun g => by rw [eval_put_ne _ _ _ _ (by decide)]; exact S.t13 (by simpa using g), fun g => by rw [eval_put_ne _ _ _ _ (by decide)]; exact S.t14 (by simpa using g)⟩
    | 13, _, ho, hsi, hT =>
      obtain ⟨e1, e2⟩ := pick_of h13 ho
      have D9 : s 9 = true := list_pos hT (d := 9) (by decide)
      have D12 : s 12 = true := list_pos hT (d := 12) (by decide)
      have BW := S.before
      have xr := xor8 V (Gal.co x.data.toList i)
      refine step_val (v := .int .u8 ((V ^^^ Gal.co x.data.toList i).toNat : Nat)) (by simp only [execOp, e1, S.t9 D9, S.t12 D12]; go_simp) (hK _ _ ?_)
      rw [e2]
      exact ⟨S.off.put (by decide) _, S.before, fun g => by rw [eval_put_ne _ _ _ _ (by decide)]; exact S.t0 (by simpa using g), fun g => by rw [eval_put_ne _ _ _ _ (by decide)]; exact S.t1 (by simpa using g), fun g => by rw [eval_put_ne _ _ _ _ (by decide)]; exact S.t2 (by simpa using g), fun g => by rw [eval_put_ne _ _ _ _ (by decide)]; exact S.t3 (by simpa using g), fun g => by rw [eval_put_ne _ _ _ _ (by decide)]; exact S.t4 (by simpa using g), fun g => by rw [eval_put_ne _ _ _ _ (by decide)]; exact S.t5 (by simpa using g), fun g => by rw [eval_put_ne _ _ _ _ (by decide)]; exact S.t6 (by simpa using g), fun g => by rw [eval_put_ne _ _ _ _ (by decide)]; exact S.t7 (by simpa using g), fun g => by rw [eval_put_ne _ _ _ _ (by decide)]; exact S.t8 (by simpa using g), fun g => by rw [eval_put_ne _ _ _ _ (by decide)]; exact S.t9 (by simpa using g), fun g => by rw [eval_put_ne _ _ _ _ (by decide)]; exact S.t10 (by simpa using g), fun g => by rw [eval_put_ne _ _ _ _ (by decide)]; exact S.t11 (by simpa using g), fun g => by rw [eval_put_ne _ _ _ _ (by decide)]; exact S.t12 (by simpa using g), fun _ => (eval_put _ _ _ (by omega)).trans rfl, fun g => by rw [eval_put_ne _ _ _ _ (by decide)]; exact S.t14 (by simpa using g)⟩
    | 14, _, ho, hsi, hT =>
      obtain ⟨e1, e2⟩ := pick_of h14 ho
      have D0 : s 0 = true := list_pos hT (d := 0) (by decide)
      have D3 : s 3 = true := list_pos hT (d := 3) (by decide)
      have BW := S.before
      refine step_val (v := .pointer (some ⟨sb, q, none⟩)) (by simp only [execOp, e1, S.t0 D0, S.t3 D3]; go_simp) (hK _ _ ?_)
      rw [e2]
      exact ⟨S.off.put (by decide) _, S.before, fun g => by rw [eval_put_ne _ _ _ _ (by decide)]; exact S.t0 (by simpa using g), fun g => by rw [eval_put_ne _ _ _ _ (by decide)]; exact S.t1 (by simpa using g), fun g => by rw [eval_put_ne _ _ _ _ (by decide)]; exact S.t2 (by simpa using g), fun g => by rw [eval_put_ne _ _ _ _ (by decide)]; exact S.t3 (by simpa using g), fun g => by rw [eval_put_ne _ _ _ _ (by decide)]; exact S.t4 (by simpa using g), fun g => by rw [eval_put_ne _ _ _ _ (by decide)]; exact S.t5 (by simpa using g), fun g => by rw [eval_put_ne _ _ _ _ (by decide)]; exact S.t6 (by simpa using g), fun g => by rw [eval_put_ne _ _ _ _ (by decide)]; exact S.t7 (by simpa using g), fun g => by rw [eval_put_ne _ _ _ _ (by decide)]; exact S.t8 (by simpa using g), fun g => by rw [eval_put_ne _ _ _ _ (by decide)]; exact S.t9 (by simpa using g), fun g => by rw [eval_put_ne _ _ _ _ (by decide)]; exact S.t10 (by simpa using g), fun g => by rw [eval_put_ne _ _ _ _ (by decide)]; exact S.t11 (by simpa using g), fun g => by rw [eval_put_ne _ _ _ _ (by decide)]; exact S.t12 (by simpa using g), fun g => by rw [eval_put_ne _ _ _ _ (by decide)]; exact S.t13 (by simpa using g), fun _ => (eval_put _ _ _ (by omega)).trans rfl⟩
    | _ + 15, il, _, _, _ => exact absurd il (by omega)
  · intro s a w' S hall
    have a0 := hall 0 (by omega)
    have a1 := hall 1 (by omega)
    have a2 := hall 2 (by omega)
    have a3 := hall 3 (by omega)
    have a4 := hall 4 (by omega)
    have a5 := hall 5 (by omega)
    have a6 := hall 6 (by omega)
    have a7 := hall 7 (by omega)
    have a8 := hall 8 (by omega)
    have a9 := hall 9 (by omega)
    have a10 := hall 10 (by omega)
    have a11 := hall 11 (by omega)
    have a12 := hall 12 (by omega)
    have a13 := hall 13 (by omega)
    have a14 := hall 14 (by omega)
    have e := off_norm _ (by intro d hd; simp at hd; omega) S.off
    simp only [List.foldl, S.t0 a0, S.t1 a1, S.t2 a2, S.t3 a3, S.t4 a4, S.t5 a5, S.t6 a6, S.t7 a7, S.t8 a8, S.t9 a9, S.t10 a10, S.t11 a11, S.t12 a12, S.t13 a13, S.t14 a14] at e
    rw [e]
    exact h _ S.before
set_option maxRecDepth 100000 in
set_option maxHeartbeats 2000000 in
theorem good (a bs : ByteArray) (x : Int) (hx : (Lit.int .i64 x).wf = true) (n z m : Nat) (ha : a.size = n) (hm : bs.size = m) (hm2 : m ≤ maxLen) (h9 : n ≤ 900) (z1 : 1 ≤ z) (z4 : z ≤ 4) (hz : z ≤ n) (h2 : n ≤ 223 * z) (w : World) :
    Calls Tryd.prog 5 #[.string a, .int .i64 (z : Nat), .agg #[.int .i64 x, .string bs]] w fun e w' => e = .returned (.bool true) ∧ Below w.heap.size w w' := by
  unfold maxLen at hm2
  have AW := Lib.hid (fun w => bawake_any w)
  have WR := Lib.hid (fun w => wrap_any a n z ha z1 z4 hz h2 w)
  have xs : (⟨(Blk.wrap a.data.toList z).toArray⟩ : ByteArray).size = n + 8 * z := by rw [sz, Blk.wrap_length, ls, ha]
  have xc : (⟨(Blk.wrap a.data.toList z).toArray⟩ : ByteArray).extract 0 n = a := by
    apply ByteArray.ext
    rw [ByteArray.data_extract]
    apply Array.toList_inj.1
    rw [Array.toList_extract]
    show List.extract (Blk.wrap a.data.toList z) 0 n = _
    rw [List.extract_eq_take_drop, List.drop_zero, Nat.sub_zero, ← ha, ← ls]
    unfold Blk.wrap
    simp
  obtain ⟨L, hL⟩ : ∃ L, n + 8 * z = L := ⟨_, rfl⟩
  rw [hL] at xs
  have xl : (⟨(Blk.wrap a.data.toList z).toArray⟩ : ByteArray).data.toList = Blk.wrap a.data.toList z := rfl
  obtain ⟨ws, hws⟩ : ∃ s : ByteArray, (⟨(Blk.wrap a.data.toList z).toArray⟩ : ByteArray) = s := ⟨_, rfl⟩
  rw [hws] at WR xs xc xl
  have PK := Lib.hid (fun w => pick_any x hx L (by omega) (by omega) w)
  have kL : (x % (L : Int)).toNat < L := by
    have := Int.emod_nonneg x (show (L : Int) ≠ 0 by omega)
    have := Int.emod_lt_of_pos x (show 0 < (L : Int) by omega)
    omega
  obtain ⟨k, hk⟩ : ∃ k, (x % (L : Int)).toNat = k := ⟨_, rfl⟩
  rw [hk] at PK kL
  have b0 := ba (Below.refl w.heap.size w) (.cells #[.int .i64 x, .string bs] 36)
  have x0 : (w.alloc (.cells #[.int .i64 x, .string bs] 36)).cell? ⟨w.heap.size, 0, none⟩ = some (.int .i64 x) := World.cell?_alloc_new w _ _ 0
  have x1 : (w.alloc (.cells #[.int .i64 x, .string bs] 36)).cell? ⟨w.heap.size, 1, none⟩ = some (.string bs) := World.cell?_alloc_new w _ _ 1
  have l0 : w.heap.size < (w.alloc (.cells #[.int .i64 x, .string bs] 36)).heap.size := by rw [World.size_alloc]; omega
  obtain ⟨w0, hw0⟩ : ∃ w0, w.alloc (.cells #[.int .i64 x, .string bs] 36) = w0 := ⟨_, rfl⟩
  rw [hw0] at b0 x0 x1 l0
  have HW0 := Lib.hid hw0
  have B0 := Lib.hid b0
  have X0 := Lib.hid x0
  have L0 := Lib.hid l0
  have HA := Lib.hid ha
  have HL := Lib.hid hL
  have XL := Lib.hid xl
  have XS := Lib.hid xs
  have HM := Lib.hid hm
  have sa := ha
  have sm := hm
  have e8 : (8 : Int) * (z : Int) = ((8 * z : Nat) : Int) := by omega
  have eL : (n : Int) + ((8 * z : Nat) : Int) = (L : Int) := by omega
  have z8 : 8 * z ≤ 32 := by omega
  have L9 : L ≤ 932 := by omega
  have nL : n ≤ L := by omega
  have na := bne_same a
  have e4 : (4 : Int) * (z : Int) = ((4 * z : Nat) : Int) := by omega
  obtain ⟨t8, ht8⟩ : ∃ t, 8 * z = t := ⟨_, rfl⟩
  rw [ht8] at e8 eL z8
  obtain ⟨t4, ht4⟩ : ∃ t, 4 * z = t := ⟨_, rfl⟩
  rw [ht4] at e4
  have T4 := Lib.hid ht4
  have t16 : t4 ≤ 16 := by omega
  clear hws hk b0 x0 l0 hw0 ha hL xl hm ht8 ht4
  go_enter Tryd.func5, Tryd.ntmps5
  go_wp2_with (simp only [HW0.out])
  (with_reducible refine (WR.out _).mono ?_)
  rintro e w1 ⟨rfl, h1⟩
  have y0 := (h1.cell (p := ⟨w.heap.size, 0, none⟩) L0.out).trans X0.out
  have B1 := Lib.hid (bt B0.out h1)
  have l1 := Nat.lt_of_lt_of_le L0.out h1.size
  have c1 := run_bytes_of_string (P := Tryd.prog) w1 9 33 5 ws Tryd.underlying9 Tryd.underlying33 Tryd.underlying5
  have dg := grownCap_ge w1 ws.size 0 5
  obtain ⟨D, hcap⟩ : ∃ D, grownCap w1 ws.size 0 5 = D := ⟨_, rfl⟩
  rw [hcap, XS.out] at c1
  rw [hcap, XS.out] at dg
  have n1 := nums_new ws D 5 w1.drew
  rw [XS.out, show w1.drew.heap.size = w1.heap.size from rfl, XL.out] at n1
  have b4 := ba (Below.refl w1.heap.size w1).drew (.cells (bytesRow ws D) 5 ((bytesRow ws D).size, (bytesRow ws D).size + 1))
  obtain ⟨w3, hw3⟩ : ∃ w3, w1.drew.alloc (.cells (bytesRow ws D) 5 ((bytesRow ws D).size, (bytesRow ws D).size + 1)) = w3 := ⟨_, rfl⟩
  rw [hw3] at c1 n1 b4
  have y3 := (b4.cell (p := ⟨w.heap.size, 0, none⟩) l1).trans y0
  have C1 := Lib.hid c1
  have B3 := Lib.hid (bt B1.out b4)
  obtain ⟨sb, hsb⟩ : ∃ d, w1.heap.size = d := ⟨_, rfl⟩
  rw [hsb] at n1 C1
  have HSB := Lib.hid (show w.heap.size ≤ sb by rw [← hsb]; exact Nat.le_of_lt l1)
  have N0 := Lib.hid (show NumsK .u8 w3 sb L (fun p => (brs (Gal.co (Blk.wrap a.data.toList z)) (Gal.co bs.data.toList) k 0 p).toNat) from n1.congr (fun p _ => by rw [brs_zero]))
  clear h1 c1 n1 b4 hw3 hcap dg hsb B1 B0 X0 L0 HW0 x1 l1 y0 WR
  go_wp2_with (simp only [C1.out])
  (with_reducible refine (PK.out _).mono ?_)
  rintro e w4 ⟨rfl, rfl⟩
  clear PK C1 y3 xc na
  go_wp2_with fail
  go_loopw [12] (fun u wr => ∃ i : Nat, i ≤ 4 * z ∧ k + i ≤ L ∧ i ≤ m ∧ (k < n → k + i ≤ n) ∧ u = .int .i64 (i : Nat) ∧ NumsK .u8 wr sb L (fun p => (brs (Gal.co (Blk.wrap a.data.toList z)) (Gal.co bs.data.toList) k i p).toNat) ∧ But sb w3 wr) (fun u _ => m - (intOf u).toNat)
  case atStart => exact ⟨0, Nat.zero_le _, by omega, Nat.zero_le _, fun h => Nat.le_of_lt h, rfl, N0.out, But.refl _ _⟩
  case round =>
    obtain ⟨i, hi4, hkL, him, hkn, rfl, hN, hB⟩ := hrel
    have HN := Lib.hid hN
    have HB := Lib.hid hB
    have HI := Lib.hid hi4
    rw [T4.out] at hi4
    obtain ⟨q, hq⟩ : ∃ q, k + i = q := ⟨_, rfl⟩
    have eq : (k : Int) + (i : Int) = (q : Int) := by omega
    have q9 : q ≤ 932 := by omega
    clear hN hB
    by_cases g1 : i < m
    · by_cases g2 : i < t4
      · by_cases g3 : q < L
        · by_cases g4 : k < n ∧ n ≤ q
          · obtain ⟨g5, g6⟩ := g4
            have HK := Lib.hid hkn
            have i4b := HI.out
            have UW := Lib.hid (unw a (Gal.co bs.data.toList) n z k i L HA.out z1 z4 hz h2 HL.out i4b HK.out wr)
            have CV := Lib.hid (nums_back D HN.out)
            have BF := Lib.hid (B3.out.trans (HB.out.below.mono HSB.out))
            obtain ⟨us, hus⟩ : ∃ s : ByteArray, (⟨(Gal.coefs (brs (Gal.co (Blk.wrap a.data.toList z)) (Gal.co bs.data.toList) k i) L).toArray⟩ : ByteArray) = s := ⟨_, rfl⟩
            rw [hus] at UW CV
            clear hus HN HB HI i4b hkn HK N0
            go_wp2_with (simp only [CV.out])
            (with_reducible refine UW.out.mono ?_)
            rintro e w5 ⟨⟨cc, rfl⟩, h5⟩
            have B5 := Lib.hid (bt BF.out h5)
            clear h5 UW CV
            go_wp2_with fail
            (with_reducible refine (AW.out _).mono ?_)
            rintro e w6 ⟨rfl, h6⟩
            have B6 := Lib.hid (bt B5.out h6)
            clear h6
            go_wp2_with fail
            go_ret
            exact ⟨rfl, B6.out⟩
          · have kq : k + i < L := by omega
            have cp := HN.out.cell kq
            rw [brs_old] at cp
            have hx' : i < bs.size := by rw [HM.out]; exact g1
            have R := Lib.hid (fun w' (hb : Below wr.heap.size wr w') => And.intro ((hb.cell (p := ⟨sb, k + i, none⟩) HN.out.1).trans cp) ((hb.frozen (p := ⟨sb, k + i, none⟩) HN.out.1).trans (HN.out.frozen kq)))
            have N8 := Lib.hid (fun w' (hb : Below wr.heap.size wr w') => (HN.out.below hb).set (g := fun p => (brs (Gal.co (Blk.wrap a.data.toList z)) (Gal.co bs.data.toList) k (i + 1) p).toNat) (k + i) (Gal.co (Blk.wrap a.data.toList z) (k + i) ^^^ Gal.co bs.data.toList i).toNat kq (by rw [brs_here]) (fun p _ hp => by rw [brs_there _ _ hp]))
            have B8 := Lib.hid (fun w' (hb : Below wr.heap.size wr w') => (HB.out.trans (But.of_below hb (Nat.le_of_lt HN.out.1))).setCell (k + i) (.int .u8 ((Gal.co (Blk.wrap a.data.toList z) (k + i) ^^^ Gal.co bs.data.toList i).toNat : Nat)))
            have SBW := Lib.hid HN.out.1
            have ND := Lib.hid (show i + 1 ≤ 4 * z ∧ k + (i + 1) ≤ L ∧ i + 1 ≤ m ∧ (k < n → k + (i + 1) ≤ n) by rw [T4.out]; refine ⟨by omega, by omega, by omega, fun h => ?_⟩; have : ¬ n ≤ q := fun h2 => g4 ⟨h, h2⟩; omega)
            obtain ⟨V, hV⟩ : ∃ V, Gal.co (Blk.wrap a.data.toList z) (k + i) = V := ⟨_, rfl⟩
            rw [hV] at N8 B8 cp R
            rw [hq] at N8 B8 cp R
            have CP := Lib.hid cp
            clear HN HB HI cp hV kq hq hkn hkL him N0
            by_cases g7 : k < n
            · have g8 : q < n := by omega
              go_upto_region 15 with fail
              refine burstRegion sb L D i k q V bs hx' SBW.out CP.out eq g3 (by omega) (by kernel_rfl) rfl rfl rfl rfl rfl rfl rfl rfl rfl rfl rfl rfl rfl rfl rfl rfl rfl rfl rfl rfl ?_
              intro w4 k4
              simp only [Act.put, List.setIfInBounds_toArray, List.set_cons_succ, List.set_cons_zero, List.drop_succ_cons, List.drop_zero]
              obtain ⟨c4, f4⟩ := R.out w4 k4
              have N9 := Lib.hid (N8.out w4 k4)
              have B9 := Lib.hid (B8.out w4 k4)
              clear R N8 B8 k4 CP hx'
              go_wp2_with fail
              go_roundw
              case rel => exact ⟨i + 1, ND.out.1, ND.out.2.1, ND.out.2.2.1, ND.out.2.2.2, by go_num, N9.out, B9.out⟩
              case measure => simp [intOf]; omega
            · go_upto_region 15 with fail
              refine burstRegion sb L D i k q V bs hx' SBW.out CP.out eq g3 (by omega) (by kernel_rfl) rfl rfl rfl rfl rfl rfl rfl rfl rfl rfl rfl rfl rfl rfl rfl rfl rfl rfl rfl rfl ?_
              intro w4 k4
              simp only [Act.put, List.setIfInBounds_toArray, List.set_cons_succ, List.set_cons_zero, List.drop_succ_cons, List.drop_zero]
              obtain ⟨c4, f4⟩ := R.out w4 k4
              have N9 := Lib.hid (N8.out w4 k4)
              have B9 := Lib.hid (B8.out w4 k4)
              clear R N8 B8 k4 CP hx'
              go_wp2_with fail
              go_roundw
              case rel => exact ⟨i + 1, ND.out.1, ND.out.2.1, ND.out.2.2.1, ND.out.2.2.2, by go_num, N9.out, B9.out⟩
              case measure => simp [intOf]; omega
        · have HK := Lib.hid hkn
          have i4b := HI.out
          have UW := Lib.hid (unw a (Gal.co bs.data.toList) n z k i L HA.out z1 z4 hz h2 HL.out i4b HK.out wr)
          have CV := Lib.hid (nums_back D HN.out)
          have BF := Lib.hid (B3.out.trans (HB.out.below.mono HSB.out))
          obtain ⟨us, hus⟩ : ∃ s : ByteArray, (⟨(Gal.coefs (brs (Gal.co (Blk.wrap a.data.toList z)) (Gal.co bs.data.toList) k i) L).toArray⟩ : ByteArray) = s := ⟨_, rfl⟩
          rw [hus] at UW CV
          clear hus HN HB HI i4b hkn HK N0
          go_wp2_with (simp only [CV.out])
          (with_reducible refine UW.out.mono ?_)
          rintro e w5 ⟨⟨cc, rfl⟩, h5⟩
          have B5 := Lib.hid (bt BF.out h5)
          clear h5 UW CV
          go_wp2_with fail
          (with_reducible refine (AW.out _).mono ?_)
          rintro e w6 ⟨rfl, h6⟩
          have B6 := Lib.hid (bt B5.out h6)
          clear h6
          go_wp2_with fail
          go_ret
          exact ⟨rfl, B6.out⟩
      · have HK := Lib.hid hkn
        have i4b := HI.out
        have UW := Lib.hid (unw a (Gal.co bs.data.toList) n z k i L HA.out z1 z4 hz h2 HL.out i4b HK.out wr)
        have CV := Lib.hid (nums_back D HN.out)
        have BF := Lib.hid (B3.out.trans (HB.out.below.mono HSB.out))
        obtain ⟨us, hus⟩ : ∃ s : ByteArray, (⟨(Gal.coefs (brs (Gal.co (Blk.wrap a.data.toList z)) (Gal.co bs.data.toList) k i) L).toArray⟩ : ByteArray) = s := ⟨_, rfl⟩
        rw [hus] at UW CV
        clear hus HN HB HI i4b hkn HK N0
        go_wp2_with (simp only [CV.out])
        (with_reducible refine UW.out.mono ?_)
        rintro e w5 ⟨⟨cc, rfl⟩, h5⟩
        have B5 := Lib.hid (bt BF.out h5)
        clear h5 UW CV
        go_wp2_with fail
        (with_reducible refine (AW.out _).mono ?_)
        rintro e w6 ⟨rfl, h6⟩
        have B6 := Lib.hid (bt B5.out h6)
        clear h6
        go_wp2_with fail
        go_ret
        exact ⟨rfl, B6.out⟩
    · have HK := Lib.hid hkn
      have i4b := HI.out
      have UW := Lib.hid (unw a (Gal.co bs.data.toList) n z k i L HA.out z1 z4 hz h2 HL.out i4b HK.out wr)
      have CV := Lib.hid (nums_back D HN.out)
      have BF := Lib.hid (B3.out.trans (HB.out.below.mono HSB.out))
      obtain ⟨us, hus⟩ : ∃ s : ByteArray, (⟨(Gal.coefs (brs (Gal.co (Blk.wrap a.data.toList z)) (Gal.co bs.data.toList) k i) L).toArray⟩ : ByteArray) = s := ⟨_, rfl⟩
      rw [hus] at UW CV
      clear hus HN HB HI i4b hkn HK N0
      go_wp2_with (simp only [CV.out])
      (with_reducible refine UW.out.mono ?_)
      rintro e w5 ⟨⟨cc, rfl⟩, h5⟩
      have B5 := Lib.hid (bt BF.out h5)
      clear h5 UW CV
      go_wp2_with fail
      (with_reducible refine (AW.out _).mono ?_)
      rintro e w6 ⟨rfl, h6⟩
      have B6 := Lib.hid (bt B5.out h6)
      clear h6
      go_wp2_with fail
      go_ret
      exact ⟨rfl, B6.out⟩


set_option maxRecDepth 100000 in
theorem walk (a : ByteArray) (ha : a.size ≤ maxLen) (z : Int) (hz : (Lit.int .i64 z).wf = true) (x : Int) (hx : (Lit.int .i64 x).wf = true) (bs : ByteArray) (hb : bs.size ≤ maxLen) (w : World) :
    Calls Tryd.prog 5 #[.string a, .int .i64 z, .agg #[.int .i64 x, .string bs]] w fun e w' => e = .returned (.bool true) ∧ Below w.heap.size w w' := by
  have AW := Lib.hid (fun w => bawake_any w)
  have B0 := Lib.hid (ba (Below.refl w.heap.size w) (.cells #[.int .i64 x, .string bs] 36))
  obtain ⟨w0, hw0⟩ : ∃ w0, w.alloc (.cells #[.int .i64 x, .string bs] 36) = w0 := ⟨_, rfl⟩
  have x1 : (w.alloc (.cells #[.int .i64 x, .string bs] 36)).cell? ⟨w.heap.size, 1, none⟩ = some (.string bs) := World.cell?_alloc_new w _ _ 1
  rw [hw0] at B0 x1
  have HW0 := Lib.hid hw0
  clear hw0
  have ha2 := ha
  have hb2 := hb
  unfold maxLen at ha2 hb2
  obtain ⟨n, hn⟩ : ∃ n, a.size = n := ⟨_, rfl⟩
  rw [hn] at ha2
  have sn := hn
  have HN := Lib.hid hn
  have HB2 := Lib.hid hb
  clear hn ha hb
  by_cases h1 : 900 < n
  · clear x1
    go_enter Tryd.func5, Tryd.ntmps5
    go_wp2_with (simp only [HW0.out])
    (with_reducible refine (AW.out _).mono ?_)
    rintro e w1 ⟨rfl, h1⟩
    have B1 := Lib.hid (bt B0.out h1)
    clear h1
    go_wp2_with fail
    go_ret
    exact ⟨rfl, B1.out⟩
  by_cases h2 : z < 1
  · clear x1
    have h1' : decide ((900 : Int) < (n : Int)) = false := by simp; omega
    go_enter Tryd.func5, Tryd.ntmps5
    go_wp2_with (simp only [HW0.out])
    (with_reducible refine (AW.out _).mono ?_)
    rintro e w1 ⟨rfl, h1⟩
    have B1 := Lib.hid (bt B0.out h1)
    clear h1
    go_wp2_with fail
    go_ret
    exact ⟨rfl, B1.out⟩
  by_cases h3 : 4 < z
  · clear x1
    have h1' : decide ((900 : Int) < (n : Int)) = false := by simp; omega
    have h2' : decide (z < 1) = false := by simp; omega
    go_enter Tryd.func5, Tryd.ntmps5
    go_wp2_with (simp only [HW0.out])
    (with_reducible refine (AW.out _).mono ?_)
    rintro e w1 ⟨rfl, h1⟩
    have B1 := Lib.hid (bt B0.out h1)
    clear h1
    go_wp2_with fail
    go_ret
    exact ⟨rfl, B1.out⟩
  by_cases h4 : z ≤ (n : Int) ∧ (n : Int) ≤ 223 * z
  · obtain ⟨m, rfl⟩ : ∃ m : Nat, z = (m : Int) := ⟨z.toNat, by omega⟩
    exact good a bs x hx n m bs.size HN.out rfl HB2.out (by omega) (by omega) (by omega) (by omega) (by omega) w
  · have WB := Lib.hid (wrap_bad a z (by omega) (fun q => h4 ⟨by have := HN.out; omega, by have := HN.out; omega⟩) w0)
    have m1 : IntKind.i64.wrap (223 * z) = 223 * z := by rw [IntKind.wrap_i64]; omega
    have z1 : ¬ z < 1 := h2
    have n9 : ¬ (900 : Int) < (n : Int) := by omega
    obtain hq | hq : ((n : Int) < z) ∨ (223 * z < (n : Int)) := by omega
    · clear h4
      go_enter Tryd.func5, Tryd.ntmps5
      go_wp2_with (simp only [HW0.out])
      (with_reducible refine WB.out.mono ?_)
      rintro e w' ⟨rfl, rfl⟩
      go_wp2_with fail
      (with_reducible refine (AW.out _).mono ?_)
      rintro e w1 ⟨rfl, h1⟩
      have B1 := Lib.hid (bt B0.out h1)
      clear h1
      go_wp2_with fail
      go_ret
      exact ⟨rfl, B1.out⟩
    · clear h4
      go_enter Tryd.func5, Tryd.ntmps5
      go_wp2_with (simp only [HW0.out])
      (with_reducible refine WB.out.mono ?_)
      rintro e w' ⟨rfl, rfl⟩
      go_wp2_with fail
      (with_reducible refine (AW.out _).mono ?_)
      rintro e w1 ⟨rfl, h1⟩
      have B1 := Lib.hid (bt B0.out h1)
      clear h1
      go_wp2_with fail
      go_ret
      exact ⟨rfl, B1.out⟩
theorem cells_bst : Tryd.prog.cellsOf 36 = 2 := by kernel_rfl
theorem under_bst : ∃ f0 f1 : Field, Tryd.prog.underlying 36 = some (.struct #[f0, f1]) ∧ Go.Deep.oneCellFields Tryd.prog #[f0, f1] = true ∧ f0.type = 3 ∧ f1.type = 9 :=
  ⟨_, _, Tryd.underlying36, by kernel_rfl, rfl, rfl⟩
section
variable {H : Type} {enc : TypeId × Value → H}
def bstD (H : Type) (x : Int) (s : ByteArray) : DataW H := .agg [.lit (.int .i64 x), .lit (.string s.data.toList)]
theorem shut_bst {w : World} {base : Nat} {sp : Nat → Bool} {held : Bool} {x : Int} {s : ByteArray} (hx : (Lit.int .i64 x).wf = true) (hs : s.size ≤ maxLen) :
    DataW.Trod enc Tryd.prog w base sp held 36 (.agg #[.int .i64 x, .string s]) (bstD H x s) [] := by
  obtain ⟨f0, f1, uS, uO, e0, e1⟩ := under_bst
  exact Joins.shut_agg2 (y0 := (.lit (.int .i64 x), [])) (y1 := (.lit (.string s.data.toList), [])) uS uO cells_bst
    (by rw [e0]; exact Joins.field_of_Trod (shut_int Tryd.underlying3 hx) rfl) (by rw [e1]; exact Joins.field_of_Trod (ChangeMaps.shut_string Tryd.underlying9 hs) rfl)
set_option maxRecDepth 100000 in
theorem open_bst {w : World} {r : Reach} {b0 base : Nat} {sp : Nat → Bool} {held : Bool} {v : Value} {d : DataW H} {ps : List MemPlace} (hval : Value.okWide Tryd.prog w r b0 36 v) (hd : DataW.Trod enc Tryd.prog w base sp held 36 v d ps) :
    ∃ (x : Int) (s : ByteArray), v = .agg #[.int .i64 x, .string s] ∧ d = bstD H x s ∧ ps = [] ∧ (Lit.int .i64 x).wf = true ∧ s.size ≤ maxLen := by
  obtain ⟨f0, f1, uS, uO, e0, e1⟩ := under_bst
  obtain ⟨g0, g1, y0, y1, n, rfl, rfl, rfl, t0, t1⟩ := Joins.open_agg2 uS uO cells_bst hval hd
  rw [e0] at t0
  rw [e1] at t1
  obtain ⟨x, c0, rfl, k0⟩ := DataW.trod_int Tryd.underlying3 t0
  obtain ⟨s, c1, rfl, k1⟩ := DataW.trod_string Tryd.underlying9 t1
  simp only [List.cons.injEq, and_true] at c0 c1
  subst c0 c1
  exact ⟨x, s, rfl, rfl, rfl, k0, k1⟩
end

set_option maxRecDepth 100000 in
theorem lifted (os : Os) (started : os.Started) (H : Type) (enc : TypeId × Value → H) :
    ReturnsInHanded {} Tryd.checked os 5 .any (fun w args => (Rows.blockBurstsSpec.pre enc Tryd.prog Tryd.f5 [] false w args ∧ laidMetH Tryd.prog laidL w) ∧ sizedMet enc Tryd.prog Tryd.f5 (OpenSpec.ofChange Rows.blockBurstsSpec) false w args)
      (Rows.blockBurstsSpec.post enc Tryd.prog Tryd.f5 false true false false) := by
  refine returnsInHanded_of_change_and (C := Tryd.checked) (X := fun w _ => laidMetH Tryd.prog laidL w) (fun _ _ _ hh h => h.of_heap hh) own started (by kernel_rfl) Tryd.func5
    (ChangeSpec.witness_shaped (enc := enc) (C := Tryd.checked) (os := os) (X := fun w _ => laidMetH Tryd.prog laidL w) false (World.laidAll Tryd.prog os laidL) #[.string { data := #[] }, .int .i64 0, .agg #[.int .i64 0, .string { data := #[] }]] 8 (World.laidAll_os _ _ _)
      (World.shaped_of_ZipB (by kernel_rfl) (by kernel_rfl)) (by kernel_rfl) (by kernel_rfl) (by kernel_rfl) (laid_met os _)) ?_
  intro W base args ds gs before hval0 hW _ _ _ _
  have hval : ∀ (j : Nat) t v, Tryd.f5.params[j]? = some t → args[j]? = some v → Value.okWide Tryd.prog W .any base t v := hval0
  have hW' := hW
  obtain ⟨p, q, hA0, hV, rfl, hfz, hnd⟩ := hW
  have hA : DataW.TrodAll enc Tryd.prog W 0 (fun _ => true) true Tryd.f5.params.toList args.toList ds p := hA0
  rw [Tryd.params5] at hA hval
  obtain ⟨v0, vs0, d0, ds0, p0, q0, hargs, rfl, rfl, h0, r0⟩ := trodAll_cons hA
  obtain ⟨v1, vs1, d1, ds1, p1, q1, rfl, rfl, rfl, h1, r1⟩ := trodAll_cons r0
  obtain ⟨v2, vs2, d2, ds2, p2, q2, rfl, rfl, rfl, h2, r2⟩ := trodAll_cons r1
  obtain ⟨rfl, rfl, rfl⟩ := trodAll_nil r2
  obtain rfl : args = #[v0, v1, v2] := by cases args; simp_all
  obtain ⟨rfl, rfl⟩ := trodVars_none hV
  obtain ⟨a0, rfl, rfl, rfl, w0⟩ := ChangeMaps.open_string Tryd.underlying9 (hval 0 9 v0 rfl rfl) h0
  obtain ⟨a1, rfl, rfl, rfl, w1⟩ := open_int Tryd.underlying3 (hval 1 3 v1 rfl rfl) h1
  obtain ⟨x2, s2, rfl, rfl, rfl, w2, w3⟩ := open_bst (hval 2 36 v2 rfl rfl) h2
  clear hA0 hval0
  simp only [List.append_nil] at hW'
  refine (walk a0 w0 a1 w1 x2 w2 s2 w3 W).mono fun e W' ⟨he, hg⟩ => ?_
  subst he
  exact ⟨_, rfl, post_of_below (pa := []) (pv := []) hW' (fun _ _ _ => trodAll_cons_mk (shut_bool Tryd.underlying4 _) trodAll_mk0) (fun sp _ => (trodAll_cons_mk (ChangeMaps.shut_string Tryd.underlying9 w0) (trodAll_cons_mk (shut_int Tryd.underlying3 w1) (trodAll_cons_mk (shut_bst w2 w3) trodAll_mk0)))) (fun _ _ => rfl) rfl
    hg (ok_one (by kernel_rfl) rfl (okWide_bool_mk Tryd.underlying4 _))⟩

theorem over : Rows.BlockBurstsSaid :=
  OpenClaim.holds_of_wide 5 Tryd.f5 rfl rfl rfl rfl rfl rfl rfl ⟨rfl, rfl, rfl, rfl, rfl⟩ rfl rfl rfl rfl rfl (by kernel_rfl) Tryd.func5 (by kernel_rfl)
    (of_decide_eq_true (by kernel_rfl)) (by unfold Func.isWrapper; first | (rw [if_pos (by decide +kernel)]; kernel_rfl) | (rw [if_neg (by decide +kernel)]; exact ⟨rfl, rfl⟩))
    (fun os started H enc _ => lifted os started H enc)

theorem proved : Rows.BlockBurstsCardSaid :=
  Claim7.holds_tied_plain_at .later [] [.data, .pinned] true Rows.blockBurstsCard.stood.harness false
    over (fun _ h => by cases h) (by kernel_rfl) (fun _ h => by cases h) blockBursts_row_tie rfl ⟨rfl, rfl⟩ (by kernel_rfl) rfl
    (fun f fn hf hfn => by
      obtain rfl : f = 5 := Option.some.inj ((show Tryd.prog.funcNamed "perigee/perigeelaw05.BlockBursts" = some 5 by kernel_rfl).symm.trans hf) |>.symm
      obtain rfl : fn = Tryd.f5 := (Option.some.inj (Tryd.func5.symm.trans hfn)).symm
      exact ⟨by kernel_rfl, fun j t ht => by
        have hall : (Tryd.f5.params.toList.all fun u => !Tryd.prog.wantsStandIn u) = true := by kernel_rfl
        have hm : t ∈ Tryd.f5.params.toList := by simpa using Array.mem_of_getElem? ht
        exact (show Tryd.prog.wantsStandIn t = false by simpa using List.all_eq_true.1 hall t hm)⟩)
    (by kernel_rfl)
#print axioms proved
end blockBursts
end Go.Proofs.YtlpjhmafplljaaaDoor
