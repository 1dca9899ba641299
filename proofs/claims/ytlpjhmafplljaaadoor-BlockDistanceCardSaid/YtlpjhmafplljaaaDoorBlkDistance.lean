/- BlockDistance: of all two strings of the same length of 1 to 223 bytes what is encoded differs in no place or in at least nine, and the exclusive or is a code block. No condition. -/
import Derived.Test.YtlpjhmafplljaaaDoorBlkTop
namespace Go.Proofs.YtlpjhmafplljaaaDoor
open Go.ChangeShapes Go.WideShapes Go.ChangeAt Go.RowKit
set_option linter.unusedVariables false

namespace blockDistance
theorem enc_size (d : ByteArray) : (⟨(Blk.enc d.data.toList).toArray⟩ : ByteArray).size = d.size + 8 := by rw [sz, Blk.enc_length, ls]
theorem enc_cut (d : ByteArray) : (⟨(Blk.enc d.data.toList).toArray⟩ : ByteArray).extract 0 d.size = d := by
  apply ByteArray.ext
  rw [ByteArray.data_extract]
  apply Array.toList_inj.1
  rw [Array.toList_extract]
  show List.extract (Blk.enc d.data.toList) 0 d.size = _
  rw [List.extract_eq_take_drop, List.drop_zero, Nat.sub_zero, ← ls]
  exact Blk.enc_take _
theorem dif_range (a b : List UInt8) : (Blk.dif a b).length = Blk.cnt (fun i => decide (Gal.co a i ≠ Gal.co b i)) a.length := rfl
theorem dist (a b : ByteArray) (n : Nat) (ha : a.size = n) (hb : b.size = n) (h1 : 1 ≤ n) (h2 : n ≤ 223) :
    (a = b → Blk.cnt (fun i => decide (Gal.co (Blk.enc a.data.toList) i ≠ Gal.co (Blk.enc b.data.toList) i)) (n + 8) = 0) ∧
    (a ≠ b → 9 ≤ Blk.cnt (fun i => decide (Gal.co (Blk.enc a.data.toList) i ≠ Gal.co (Blk.enc b.data.toList) i)) (n + 8)) := by
  have hl : (Blk.enc a.data.toList).length = n + 8 := by rw [Blk.enc_length, ls, ha]
  have hl2 : (Blk.enc b.data.toList).length = n + 8 := by rw [Blk.enc_length, ls, hb]
  rw [← hl, ← dif_range]
  constructor
  · rintro rfl
    exact dif_self _
  · intro hne
    refine Blk.code_least (Blk.code_enc _ (by rw [ls, ha]; exact h1) (by rw [ls, ha]; exact h2)) (Blk.code_enc _ (by rw [ls, hb]; exact h1) (by rw [ls, hb]; exact h2)) (by rw [hl, hl2]) (fun e => hne ?_)
    have := congrArg (fun l => l.take n) e
    replace this : List.take n (Blk.enc a.data.toList) = List.take n (Blk.enc b.data.toList) := this
    rw [show n = a.data.toList.length by rw [ls, ha], Blk.enc_take, show a.data.toList.length = b.data.toList.length by rw [ls, ls, ha, hb], Blk.enc_take] at this
    exact ByteArray.ext (Array.toList_inj.1 this)
theorem whole (a b : ByteArray) (n : Nat) (ha : a.size = n) (hb : b.size = n) (h1 : 1 ≤ n) (h2 : n ≤ 223) :
    Blk.enc (Gal.coefs (fun i => Gal.co (Blk.enc a.data.toList) i ^^^ Gal.co (Blk.enc b.data.toList) i) n) = Gal.coefs (fun i => Gal.co (Blk.enc a.data.toList) i ^^^ Gal.co (Blk.enc b.data.toList) i) (n + 8) := by
  have hl : (Blk.enc a.data.toList).length = n + 8 := by rw [Blk.enc_length, ls, ha]
  have hl2 : (Blk.enc b.data.toList).length = n + 8 := by rw [Blk.enc_length, ls, hb]
  have hc := Blk.code_xors (Blk.code_enc a.data.toList (by rw [ls, ha]; exact h1) (by rw [ls, ha]; exact h2)) (Blk.code_enc b.data.toList (by rw [ls, hb]; exact h1) (by rw [ls, hb]; exact h2)) (by rw [hl, hl2])
  have e : Blk.xors (Blk.enc a.data.toList) (Blk.enc b.data.toList) = Gal.coefs (fun i => Gal.co (Blk.enc a.data.toList) i ^^^ Gal.co (Blk.enc b.data.toList) i) (n + 8) := by unfold Blk.xors; rw [hl]
  rw [e] at hc
  have h := (Blk.code_iff _ hc.1 hc.2.1).1 hc
  rw [Gal.coefs_length] at h
  have t : (Gal.coefs (fun i => Gal.co (Blk.enc a.data.toList) i ^^^ Gal.co (Blk.enc b.data.toList) i) (n + 8)).take (n + 8 - 8) = Gal.coefs (fun i => Gal.co (Blk.enc a.data.toList) i ^^^ Gal.co (Blk.enc b.data.toList) i) n := by
    unfold Gal.coefs
    rw [← List.map_take, List.take_range, show min (n + 8 - 8) (n + 8) = n by omega]
  rw [t] at h
  exact h
structure DistRegion (sb L i : Nat) (x y : ByteArray) (A : Act) (w0 : World) (s : Nat → Bool) (a : Act) (w : World) : Prop where
  off : Off [86, 87, 88, 89, 90, 91, 92, 93, 94, 95] a A
  before : Below w0.heap.size w0 w
  t0 : s 0 = true → a.eval (.tmp 86) = .slice (some ⟨sb, 0, none⟩) L L
  t1 : s 1 = true → a.eval (.tmp 87) = .int .i64 (i : Nat)
  t2 : s 2 = true → a.eval (.tmp 88) = .string x
  t3 : s 3 = true → a.eval (.tmp 89) = .int .i64 (i : Nat)
  t4 : s 4 = true → a.eval (.tmp 90) = .int .u8 ((Gal.co x.data.toList i).toNat : Nat)
  t5 : s 5 = true → a.eval (.tmp 91) = .string y
  t6 : s 6 = true → a.eval (.tmp 92) = .int .i64 (i : Nat)
  t7 : s 7 = true → a.eval (.tmp 93) = .int .u8 ((Gal.co y.data.toList i).toNat : Nat)
  t8 : s 8 = true → a.eval (.tmp 94) = .int .u8 ((Gal.co x.data.toList i ^^^ Gal.co y.data.toList i).toNat : Nat)
  t9 : s 9 = true → a.eval (.tmp 95) = .pointer (some ⟨sb, i, none⟩)
set_option maxHeartbeats 2000000 in
set_option maxRecDepth 100000 in
theorem distRegion {id : Nat} {l : List Oper} {A : Act} {w : World} {Q : Exit → Act → World → Prop} (sb L i : Nat) (x y : ByteArray)
    (hx : i < x.size) (hy : i < y.size) (hi : i < L) (hL : L ≤ 400)
    (hB : tableH l.toArray 10 (fun i => match i with | 0 => [] | 1 => [] | 2 => [] | 3 => [] | 4 => [2, 3] | 5 => [] | 6 => [] | 7 => [5, 6] | 8 => [4, 7] | 9 => [0, 1] | _ => []) (fun _ => []) = true)
    (h0 : pick l 0 = some (.move (.tmp 9), some 86))
    (h1 : pick l 1 = some (.move (.tmp 11), some 87))
    (h2 : pick l 2 = some (.move (.tmp 5), some 88))
    (h3 : pick l 3 = some (.move (.tmp 11), some 89))
    (h4 : pick l 4 = some (.index 9 (.tmp 88) (.tmp 89), some 90))
    (h5 : pick l 5 = some (.move (.tmp 7), some 91))
    (h6 : pick l 6 = some (.move (.tmp 11), some 92))
    (h7 : pick l 7 = some (.index 9 (.tmp 91) (.tmp 92), some 93))
    (h8 : pick l 8 = some (.binOp .xor 5 (.tmp 90) (.tmp 93) 5, some 94))
    (h9 : pick l 9 = some (.indexAddr 33 (.tmp 86) (.tmp 87), some 95))
    (hs : A.tmps.size = 139)
    (x9 : A.eval (.tmp 9) = .slice (some ⟨sb, 0, none⟩) L L)
    (x11 : A.eval (.tmp 11) = .int .i64 (i : Nat))
    (x5 : A.eval (.tmp 5) = .string x)
    (x7 : A.eval (.tmp 7) = .string y)
    (h : ∀ w1, Below w.heap.size w w1 → wpList Tryd.prog l.toArray Q (l.drop 10) ((((((((((A.put (some 86) (.slice (some ⟨sb, 0, none⟩) L L)).put (some 87) (.int .i64 (i : Nat))).put (some 88) (.string x)).put (some 89) (.int .i64 (i : Nat))).put (some 90) (.int .u8 ((Gal.co x.data.toList i).toNat : Nat))).put (some 91) (.string y)).put (some 92) (.int .i64 (i : Nat))).put (some 93) (.int .u8 ((Gal.co y.data.toList i).toNat : Nat))).put (some 94) (.int .u8 ((Gal.co x.data.toList i ^^^ Gal.co y.data.toList i).toNat : Nat))).put (some 95) (.pointer (some ⟨sb, i, none⟩))) w1) :
    (Code.region id l.toArray true).wp Tryd.prog Q A w := by
  refine wp_region_head (by kernel_rfl) _ _ _ hB (DistRegion sb L i x y A w) ⟨Off.refl _ _, (Below.refl _ _).drew, by simp, by simp, by simp, by simp, by simp, by simp, by simp, by simp, by simp, by simp⟩ ?_ ?_
  · intro s a w' S i' o il ho hsi hT K hK
    have sz : a.tmps.size = 139 := by rw [S.off.2.1]; exact hs
    have y9 : a.eval (.tmp 9) = .slice (some ⟨sb, 0, none⟩) L L := by rw [S.off.eval (by decide)]; exact x9
    have y11 : a.eval (.tmp 11) = .int .i64 (i : Nat) := by rw [S.off.eval (by decide)]; exact x11
    have y5 : a.eval (.tmp 5) = .string x := by rw [S.off.eval (by decide)]; exact x5
    have y7 : a.eval (.tmp 7) = .string y := by rw [S.off.eval (by decide)]; exact x7
    match i', il, ho, hsi, hT with
    | 0, _, ho, hsi, hT =>
      obtain ⟨e1, e2⟩ := pick_of h0 ho
      have BW := S.before
      refine step_val (v := .slice (some ⟨sb, 0, none⟩) L L) (by simp only [execOp, e1, y9]; go_simp) (hK _ _ ?_)
      rw [e2]
      exact ⟨S.off.put (by decide) _, S.before, fun _ => (eval_put _ _ _ (by omega)).trans rfl, fun g => by rw [eval_put_ne _ _ _ _ (by decide)]; exact S.t1 (by simpa using g), fun g => by rw [eval_put_ne _ _ _ _ (by decide)]; exact S.t2 (by simpa using g), fun g => by rw [eval_put_ne _ _ _ _ (by decide)]; exact S.t3 (by simpa using g), fun g => by rw [eval_put_ne _ _ _ _ (by decide)]; exact S.t4 (by simpa using g), fun g => by rw [eval_put_ne _ _ _ _ (by decide)]; exact S.t5 (by simpa using g), fun g => by rw [eval_put_ne _ _ _ _ (by decide)]; exact S.t6 (by simpa using g), fun g => by rw [eval_put_ne _ _ _ _ (by decide)]; exact S.t7 (by simpa using g), fun g => by rw [eval_put_ne _ _ _ _ (by decide)]; exact S.t8 (by simpa using g), fun g => by rw [eval_put_ne _ _ _ _ (by decide)]; exact S.t9 (by simpa using g)⟩
    | 1, _, ho, hsi, hT =>
      obtain ⟨e1, e2⟩ := pick_of h1 ho
      have BW := S.before
      refine step_val (v := .int .i64 (i : Nat)) (by simp only [execOp, e1, y11]; go_simp) (hK _ _ ?_)
      rw [e2]
      exact ⟨S.off.put (by decide) _, S.before, fun g => by rw [eval_put_ne _ _ _ _ (by decide)]; exact S.t0 (by simpa using g), fun _ => (eval_put _ _ _ (by omega)).trans rfl, fun g => by rw [eval_put_ne _ _ _ _ (by decide)]; exact S.t2 (by simpa using g), fun g => by rw [eval_put_ne _ _ _ _ (by decide)]; exact S.t3 (by simpa using g), fun g => by rw [eval_put_ne _ _ _ _ (by decide)]; exact S.t4 (by simpa using g), fun g => by rw [eval_put_ne _ _ _ _ (by decide)]; exact S.t5 (by simpa using g), fun g => by rw [eval_put_ne _ _ _ _ (by decide)]; exact S.t6 (by simpa using g), fun g => by rw [eval_put_ne _ _ _ _ (by decide)]; exact S.t7 (by simpa using g), fun g => by rw [eval_put_ne _ _ _ _ (by decide)]; exact S.t8 (by simpa using g), fun g => by rw [eval_put_ne _ _ _ _ (by decide)]; exact S.t9 (by simpa using g)⟩
    | 2, _, ho, hsi, hT =>
      obtain ⟨e1, e2⟩ := pick_of h2 ho
      have BW := S.before
      refine step_val (v := .string x) (by simp only [execOp, e1, y5]; go_simp) (hK _ _ ?_)
      rw [e2]
      exact ⟨S.off.put (by decide) _, S.before, fun g => by rw [eval_put_ne _ _ _ _ (by decide)]; exact S.t0 (by simpa using g), fun g => by rw [eval_put_ne _ _ _ _ (by decide)]; exact S.t1 (by simpa using g), fun _ => (eval_put _ _ _ (by omega)).trans rfl, fun g => by rw [eval_put_ne _ _ _ _ (by decide)]; exact S.t3 (by simpa using g), fun g => by rw [eval_put_ne _ _ _ _ (by decide)]; exact S.t4 (by simpa using g), fun g => by rw [eval_put_ne _ _ _ _ (by decide)]; exact S.t5 (by simpa using g), fun g => by rw [eval_put_ne _ _ _ _ (by decide)]; exact S.t6 (by simpa using g), fun g => by rw [eval_put_ne _ _ _ _ (by decide)]; exact S.t7 (by simpa using g), fun g => by rw [eval_put_ne _ _ _ _ (by decide)]; exact S.t8 (by simpa using g), fun g => by rw [eval_put_ne _ _ _ _ (by decide)]; exact S.t9 (by simpa using g)⟩
    | 3, _, ho, hsi, hT =>
      obtain ⟨e1, e2⟩ := pick_of h3 ho
      have BW := S.before
      refine step_val (v := .int .i64 (i : Nat)) (by simp only [execOp, e1, y11]; go_simp) (hK _ _ ?_)
      rw [e2]
      exact ⟨S.off.put (by decide) _, S.before, fun g => by rw [eval_put_ne _ _ _ _ (by decide)]; exact S.t0 (by simpa using g), fun g => by rw [eval_put_ne _ _ _ _ (by decide)]; exact S.t1 (by simpa using g), fun g => by rw [eval_put_ne _ _ _ _ (by decide)]; exact S.t2 (by simpa using g), fun _ => (eval_put _ _ _ (by omega)).trans rfl, fun g => by rw [eval_put_ne _ _ _ _ (by decide)]; exact S.t4 (by simpa using g), fun g => by rw [eval_put_ne _ _ _ _ (by decide)]; exact S.t5 (by simpa using g), fun g => by rw [eval_put_ne _ _ _ _ (by decide)]; exact S.t6 (by simpa using g), fun g => by rw [eval_put_ne _ _ _ _ (by decide)]; exact S.t7 (by simpa using g), fun g => by rw [eval_put_ne _ _ _ _ (by decide)]; exact S.t8 (by simpa using g), fun g => by rw [eval_put_ne _ _ _ _ (by decide)]; exact S.t9 (by simpa using g)⟩
    | 4, _, ho, hsi, hT =>
      obtain ⟨e1, e2⟩ := pick_of h4 ho
      have D2 : s 2 = true := list_pos hT (d := 2) (by decide)
      have D3 : s 3 = true := list_pos hT (d := 3) (by decide)
      have BW := S.before
      have bc := byte_co x i hx
      refine step_val (v := .int .u8 ((Gal.co x.data.toList i).toNat : Nat)) (by simp only [execOp, e1, S.t2 D2, S.t3 D3]; go_simp) (hK _ _ ?_)
      rw [e2]
      exact ⟨S.off.put (by decide) _, S.before, fun g => by rw [eval_put_ne _ _ _ _ (by decide)]; exact S.t0 (by simpa using g), fun g => by rw [eval_put_ne _ _ _ _ (by decide)]; exact S.t1 (by simpa using g), fun g => by rw [eval_put_ne _ _ _ _ (by decide)]; exact S.t2 (by simpa using g), fun g => by rw [eval_put_ne _ _ _ _ (by decide)]; exact S.t3 (by simpa using g), fun _ => (eval_put _ _ _ (by omega)).trans rfl, fun g => by rw [eval_put_ne _ _ _ _ (by decide)]; exact S.t5 (by simpa using g), fun g => by rw [eval_put_ne _ _ _ _ (by decide)]; exact S.t6 (by simpa using g), fun g => by rw [eval_put_ne _ _ _ _ (by decide)]; exact S.t7 (by simpa using g), fun g => by rw [eval_put_ne _ _ _ _ (by decide)]; exact S.t8 (by simpa using g), fun g => by rw [eval_put_ne _ _ _ _ (by decide)]; exact S.t9 (by simpa using g)⟩
    | 5, _, ho, hsi, hT =>
      obtain ⟨e1, e2⟩ := pick_of h5 ho
      have BW := S.before
      refine step_val (v := .string y) (by simp only [execOp, e1, y7]; go_simp) (hK _ _ ?_)
      rw [e2]
      exact ⟨S.off.put (by decide) _, S.before, fun g => by rw [eval_put_ne _ _ _ _ (by decide)]; exact S.t0 (by simpa using g), fun g => by rw [eval_put_ne _ _ _ _ (by decide)]; exact S.t1 (by simpa using g), fun g => by rw [eval_put_ne _ _ _ _ (by decide)]; exact S.t2 (by simpa using g), fun g => by rw [eval_put_ne _ _ _ _ (by decide)]; exact S.t3 (by simpa using g), fun g => by rw [eval_put_ne _ _ _ _ (by decide)]; exact S.t4 (by simpa using g), fun _ => (eval_put _ _ _ (by omega)).trans rfl, fun g => by rw [eval_put_ne _ _ _ _ (by decide)]; exact S.t6 (by simpa using g), fun g => by rw [eval_put_ne _ _ _ _ (by decide)]; exact S.t7 (by simpa using g), fun g => by rw [eval_put_ne _ _ _ _ (by decide)]; exact S.t8 (by simpa using g), fun g => by rw [eval_put_ne _ _ _ _ (by decide)]; exact S.t9 (by simpa using g)⟩
    | 6, _, ho, hsi, hT =>
      obtain ⟨e1, e2⟩ := pick_of h6 ho
      have BW := S.before
      refine step_val (v := .int .i64 (i : Nat)) (by simp only [execOp, e1, y11]; go_simp) (hK _ _ ?_)
      rw [e2]
      exact ⟨S.off.put (by decide) _, S.before, fun g => by rw [eval_put_ne _ _ _ _ (by decide)]; exact S.t0 (by simpa using g), fun g => by rw [eval_put_ne _ _ _ _ (by decide)]; exact S.t1 (by simpa using g), fun g => by rw [eval_put_ne _ _ _ _ (by decide)]; exact S.t2 (by simpa using g), fun g => by rw [eval_put_ne _ _ _ _ (by decide)]; exact S.t3 (by simpa using g), fun g => by rw [eval_put_ne _ _ _ _ (by decide)]; exact S.t4 (by simpa using g), fun g => by rw [eval_put_ne _ _ _ _ (by decide)]; exact S.t5 (by simpa using g), fun _ => (eval_put _ _ _ (by omega)).trans rfl, fun g => by rw [eval_put_ne _ _ _ _ (by decide)]; exact S.t7 (by simpa using g), fun g => by rw [eval_put_ne _ _ _ _ (by decide)]; exact S.t8 (by simpa using g), fun g => by rw [eval_put_ne _ _ _ _ (by decide)]; exact S.t9 (by simpa using g)⟩
    | 7, _, ho, hsi, hT =>
      obtain ⟨e1, e2⟩ := pick_of h7 ho
      have D5 : s 5 = true := list_pos hT (d := 5) (by decide)
      have D6 : s 6 = true := list_pos hT (d := 6) (by decide)
      have BW := S.before
      have bc := byte_co y i hy
      refine step_val (v := .int .u8 ((Gal.co y.data.toList i).toNat : Nat)) (by simp only [execOp, e1, S.t5 D5, S.t6 D6]; go_simp) (hK _ _ ?_)
      rw [e2]
      exact ⟨S.off.put (by decide) _, S.before, fun g => by rw [eval_put_ne _ _ _ _ (by decide)]; exact S.t0 (by simpa using g), fun g => by rw [eval_put_ne _ _ _ _ (by decide)]; exact S.t1 (by simpa using g), fun g => by rw [eval_put_ne _ _ _ _ (by decide)]; exact S.t2 (by simpa using g), fun g => by rw [eval_put_ne _ _ _ _ (by decide)]; exact S.t3 (by simpa using g), fun g => by rw [eval_put_ne _ _ _ _ (by decide)]; exact S.t4 (by simpa using g), fun g => by rw [eval_put_ne _ _ _ _ (by decide)]; exact S.t5 (by simpa using g), fun g => by rw [eval_put_ne _ _ _ _ (by decide)]; exact S.t6 (by simpa using g), fun _ => (eval_put _ _ _ (by omega)).trans rfl, fun g => by rw [eval_put_ne _ _ _ _ (by decide)]; exact S.t8 (by simpa using g), fun g => by rw [eval_put_ne _ _ _ _ (by decide)]; exact S.t9 (by simpa using g)⟩
    | 8, _, ho, hsi, hT =>
      obtain ⟨e1, e2⟩ := pick_of h8 ho
      have D4 : s 4 = true := list_pos hT (d := 4) (by decide)
      have D7 : s 7 = true := list_pos hT (d := 7) (by decide)
      have BW := S.before
      have xr := xor8 (Gal.co x.data.toList i) (Gal.co y.data.toList i)
      refine step_val (v := .int .u8 ((Gal.co x.data.toList i ^^^ Gal.co y.data.toList i).toNat : Nat)) (by simp only [execOp, e1, S.t4 D4, S.t7 D7]; go_simp) (hK _ _ ?_)
      rw [e2]
      exact ⟨S.off.put (by decide) _, S.before, fun g => by rw [eval_put_ne _ _ _ _ (by decide)]; exact S.t0 (by simpa using g), fun g => by rw [eval_put_ne _ _ _ _ (by decide)]; exact S.t1 (by simpa using g), fun g => by rw [eval_put_ne _ _ _ _ (by decide)]; exact S.t2 (by simpa using g), fun g => by rw [eval_put_ne _ _ _ _ (by decide)]; exact S.t3 (by simpa using g), fun g => by rw [eval_put_ne _ _ _ _ (by decide)]; exact S.t4 (by simpa using g), fun g => by rw [eval_put_ne _ _ _ _ (by decide)]; exact S.t5 (by simpa using g), fun g => by rw [eval_put_ne _ _ _ _ (by decide)]; exact S.t6 (by simpa using g), fun g => by rw [eval_put_ne _ _ _ _ (by decide)]; exact S.t7 (by simpa using g), fun _ => (eval_put _ _ _ (by omega)).trans rfl, fun g => by rw [eval_put_ne _ _ _ _ (by decide)]; exact S.t9 (by simpa using g)⟩
    | 9, _, ho, hsi, hT =>
      obtain ⟨e1, e2⟩ := pick_of h9 ho
      have D0 : s 0 = true := list_pos hT (d := 0) (by decide)
      have D1 : s 1 = true := list_pos hT (d := 1) (by decide)
      have BW := S.before
      refine step_val (v := .pointer (some ⟨sb, i, none⟩)) (by simp only [execOp, e1, S.t0 D0, S.t1 D1]; go_simp) (hK _ _ ?_)
      rw [e2]
      exact ⟨S.off.put (by decide) _, S.before, fun g => by rw [eval_put_ne _ _ _ _ (by decide)]; exact S.t0 (by simpa using g), fun g => by rw [eval_put_ne _ _ _ _ (by decide)]; exact S.t1 (by simpa using g), fun g => by rw [eval_put_ne _ _ _ _ (by decide)]; exact S.t2 (by simpa using g), fun g => by rw [eval_put_ne _ _ _ _ (by decide)]; exact S.t3 (by simpa using g), fun g => by rw [eval_put_ne _ _ _ _ (by decide)]; exact S.t4 (by simpa using g), fun g => by rw [eval_put_ne _ _ _ _ (by decide)]; exact S.t5 (by simpa using g), fun g => by rw [eval_put_ne _ _ _ _ (by decide)]; exact S.t6 (by simpa using g), fun g => by rw [eval_put_ne _ _ _ _ (by decide)]; exact S.t7 (by simpa using g), fun g => by rw [eval_put_ne _ _ _ _ (by decide)]; exact S.t8 (by simpa using g), fun _ => (eval_put _ _ _ (by omega)).trans rfl⟩
    | _ + 10, il, _, _, _ => exact absurd il (by omega)
  · intro s a w' S hall
    have a0 := hall 0 (by omega)
    have a1 := hall 1 (by omega)
    have a2 := hall 2 (by omega)
    have a3 := hall 3 (by omega)
    have a4 := hall 4 (by omega)
    have a5 := hall 5 (by omega)
    have a6 := hall 6 (by omega)
    have a7 := hall 7 (by omega)
    have a8 := hall 8 (by omega)
    have a9 := hall 9 (by omega)
    have e := off_norm _ (by intro d hd; simp at hd; omega) S.off
    simp only [List.foldl, S.t0 a0, S.t1 a1, S.t2 a2, S.t3 a3, S.t4 a4, S.t5 a5, S.t6 a6, S.t7 a7, S.t8 a8, S.t9 a9] at e
    rw [e]
    exact h _ S.before
set_option maxRecDepth 100000 in
set_option maxHeartbeats 2000000 in
theorem main (a b : ByteArray) (n : Nat) (ha : a.size = n) (hb : b.size = n) (h1 : 1 ≤ n) (h2 : n ≤ 223) (w : World) :
    Calls Tryd.prog 4 #[.string a, .string b] w fun e w' => e = .returned (.bool true) ∧ Below w.heap.size w w' := by
  have AW := Lib.hid (fun w => bawake_any w)
  have EX := Lib.hid (fun w => encode_any a (by omega) (by omega) w)
  have EY := Lib.hid (fun w => encode_any b (by omega) (by omega) w)
  have xs := enc_size a
  have ys := enc_size b
  have xc := enc_cut a
  have yc := enc_cut b
  have DI := dist a b n ha hb h1 h2
  have WH := whole a b n ha hb h1 h2
  have xl : (⟨(Blk.enc a.data.toList).toArray⟩ : ByteArray).data.toList = Blk.enc a.data.toList := rfl
  have yl : (⟨(Blk.enc b.data.toList).toArray⟩ : ByteArray).data.toList = Blk.enc b.data.toList := rfl
  rw [← xl, ← yl] at DI WH
  obtain ⟨x, hx⟩ : ∃ s : ByteArray, (⟨(Blk.enc a.data.toList).toArray⟩ : ByteArray) = s := ⟨_, rfl⟩
  obtain ⟨y, hy⟩ : ∃ s : ByteArray, (⟨(Blk.enc b.data.toList).toArray⟩ : ByteArray) = s := ⟨_, rfl⟩
  rw [hx] at EX xs xc DI WH
  rw [hy] at EY ys yc DI WH
  rw [ha] at xs xc
  rw [hb] at ys yc
  have EZ := Lib.hid (fun w => encode_any ⟨(Gal.coefs (fun i => Gal.co x.data.toList i ^^^ Gal.co y.data.toList i) n).toArray⟩ (by rw [sz, Gal.coefs_length]; exact h1) (by rw [sz, Gal.coefs_length]; exact h2) w)
  rw [show (⟨(Gal.coefs (fun i => Gal.co x.data.toList i ^^^ Gal.co y.data.toList i) n).toArray⟩ : ByteArray).data.toList = Gal.coefs (fun i => Gal.co x.data.toList i ^^^ Gal.co y.data.toList i) n from rfl, WH] at EZ
  have sa := ha
  have sb' := hb
  have DD := Lib.hid DI
  obtain ⟨L, hL⟩ : ∃ L, n + 8 = L := ⟨_, rfl⟩
  rw [hL] at xs ys EZ DD
  have eL : (n : Int) + 8 = (L : Int) := by omega
  have L4 : L ≤ 231 := by omega
  have nL : n ≤ L := by omega
  have XS := Lib.hid xs
  have YS := Lib.hid ys
  have na := bne_same a
  have nb := bne_same b
  obtain ⟨i0, hi0, hz0, hz1, hz2⟩ := info_parts info_u8
  clear hx hy DI WH ha hb xl yl hL
  go_enter Tryd.func4, Tryd.ntmps4
  go_wp2_with fail
  (with_reducible refine (EX.out _).mono ?_)
  rintro e w1 ⟨rfl, k1⟩
  have B1 := Lib.hid k1
  clear k1
  go_wp2_with fail
  (with_reducible refine (EY.out _).mono ?_)
  rintro e w2 ⟨rfl, k2⟩
  have B2 := Lib.hid (bt B1.out k2)
  clear k2 B1 EX EY
  go_wp2_with (at_make; refine wpList_make_full _ rfl _ _ 33 rfl w2.heap.size 5 i0 (.int .u8 0) 1 Tryd.underlying33 hi0 hz0 hz1 .i64 .i64 _ _ L rfl rfl rfl rfl (by rw [hz2]; omega) (by unfold maxLen; omega) (Nat.le_refl _) ?_; intro w3 hown hgrow; have B3 := Lib.hid ((Below.refl w2.heap.size w2).grown hgrow (Nat.le_refl _) (fun k e => by cases e)); have N3 := Lib.hid (madeNums hown); clear hown hgrow)
  obtain ⟨sb, hsb⟩ : ∃ d, w2.heap.size = d := ⟨_, rfl⟩
  have B03 := Lib.hid (bt B2.out B3.out)
  have HSB := Lib.hid (show w.heap.size ≤ sb by rw [← hsb]; exact B2.out.size)
  rw [hsb] at N3 ⊢
  have N0 := Lib.hid (show NumsK .u8 w3 sb L (fun p => (if p < 0 then Gal.co x.data.toList p ^^^ Gal.co y.data.toList p else 0#8).toNat) from N3.out.congr (fun p _ => by rw [if_neg (Nat.not_lt_zero _)]; rfl))
  have C0 := Lib.hid (show (0 : Nat) = Blk.cnt (fun i => decide (Gal.co x.data.toList i ≠ Gal.co y.data.toList i)) 0 from rfl)
  have CS := Lib.hid (fun k => Blk.cnt_succ (fun i => decide (Gal.co x.data.toList i ≠ Gal.co y.data.toList i)) k)
  clear hsb N3 B3 B2 hi0 hz0 hz1 hz2 xc yc na nb
  go_loopw [10, 11] (fun c u wr => ∃ k m : Nat, k ≤ L ∧ m ≤ k ∧ m = Blk.cnt (fun i => decide (Gal.co x.data.toList i ≠ Gal.co y.data.toList i)) k ∧ c = .int .i64 (m : Nat) ∧ u = .int .i64 (k : Nat) ∧ NumsK .u8 wr sb L (fun p => (if p < k then Gal.co x.data.toList p ^^^ Gal.co y.data.toList p else 0#8).toNat) ∧ But sb w3 wr) (fun _ u _ => L - (intOf u).toNat)
  case atStart => exact ⟨0, 0, Nat.zero_le _, Nat.le_refl _, C0.out, rfl, rfl, N0.out, But.refl _ _⟩
  case round =>
    obtain ⟨k, m, hk, hmk, hm, rfl, rfl, hN, hB⟩ := hrel
    have HM := Lib.hid hm
    have HN := Lib.hid hN
    have HB := Lib.hid hB
    clear hm hN hB N0 C0
    by_cases hlt : k < L
    · have cp := HN.out.cell hlt
      have fp := HN.out.frozen hlt
      rw [if_neg (Nat.lt_irrefl k)] at cp
      have N7 := Lib.hid (HN.out.set (g := fun p => (if p < k + 1 then Gal.co x.data.toList p ^^^ Gal.co y.data.toList p else 0#8).toNat) k (Gal.co x.data.toList k ^^^ Gal.co y.data.toList k).toNat hlt (by rw [if_pos (by omega)]) (fun p _ hp => by
        by_cases g : p < k
        · rw [if_pos g, if_pos (by omega)]
        · rw [if_neg g, if_neg (by omega)]))
      have B7 := Lib.hid (HB.out.setCell k (.int .u8 ((Gal.co x.data.toList k ^^^ Gal.co y.data.toList k).toNat : Nat)))
      have cs := CS.out k
      rw [← HM.out] at cs
      have zx : (Gal.co x.data.toList k ^^^ Gal.co y.data.toList k).toNat = 0 ↔ Gal.co x.data.toList k = Gal.co y.data.toList k := by
        rw [show ((Gal.co x.data.toList k ^^^ Gal.co y.data.toList k).toNat = 0 ↔ Gal.co x.data.toList k ^^^ Gal.co y.data.toList k = 0#8) from ⟨fun h => BitVec.eq_of_toNat_eq (by rw [h]; rfl), fun h => by rw [h]; rfl⟩, BitVec.xor_eq_zero_iff]
      have kx : k < x.size := by rw [XS.out]; exact hlt
      have ky : k < y.size := by rw [YS.out]; exact hlt
      have z0 : (0#8 : BitVec 8).toNat = 0 := rfl
      rw [z0] at cp
      have R := Lib.hid (show ∀ w', Below wr.heap.size wr w' → w'.cell? ⟨sb, k, none⟩ = some (.int .u8 ((0 : Nat) : Int)) ∧ w'.frozen? ⟨sb, k, none⟩ = false from fun w' hb => ⟨(hb.cell (p := ⟨sb, k, none⟩) HN.out.1).trans cp, (hb.frozen (p := ⟨sb, k, none⟩) HN.out.1).trans fp⟩)
      have N8 := Lib.hid (fun w' (hb : Below wr.heap.size wr w') => (HN.out.below hb).set (g := fun p => (if p < k + 1 then Gal.co x.data.toList p ^^^ Gal.co y.data.toList p else 0#8).toNat) k (Gal.co x.data.toList k ^^^ Gal.co y.data.toList k).toNat hlt (by rw [if_pos (by omega)]) (fun p _ hp => by
        by_cases g : p < k
        · rw [if_pos g, if_pos (by omega)]
        · rw [if_neg g, if_neg (by omega)]))
      have B8 := Lib.hid (fun w' (hb : Below wr.heap.size wr w') => (HB.out.trans (But.of_below hb (Nat.le_of_lt HN.out.1))).setCell k (.int .u8 ((Gal.co x.data.toList k ^^^ Gal.co y.data.toList k).toNat : Nat)))
      clear HM HN HB CS N7 B7 cp fp
      go_upto_region 12 with fail
      refine distRegion sb L k x y kx ky hlt (by omega) (by kernel_rfl) rfl rfl rfl rfl rfl rfl rfl rfl rfl rfl rfl rfl rfl rfl rfl ?_
      intro w4 k4
      simp only [Act.put, List.setIfInBounds_toArray, List.set_cons_succ, List.set_cons_zero, List.drop_succ_cons, List.drop_zero]
      obtain ⟨c4, f4⟩ := R.out w4 k4
      have N9 := Lib.hid (N8.out w4 k4)
      have B9 := Lib.hid (B8.out w4 k4)
      have c5 := N9.out.cell hlt
      rw [if_pos (Nat.lt_succ_self k)] at c5
      obtain ⟨v, hv⟩ : ∃ v, (Gal.co x.data.toList k ^^^ Gal.co y.data.toList k).toNat = v := ⟨_, rfl⟩
      rw [hv] at zx c5 B9 N9 ⊢
      clear R N8 B8 k4 hv kx ky
      by_cases he : Gal.co x.data.toList k = Gal.co y.data.toList k
      · have v0 : v = 0 := zx.2 he
        subst v0
        rw [show decide (Gal.co x.data.toList k ≠ Gal.co y.data.toList k) = false by simp [he]] at cs
        have CQ := Lib.hid (show m = Blk.cnt (fun i => decide (Gal.co x.data.toList i ≠ Gal.co y.data.toList i)) (k + 1) by rw [cs]; rfl)
        clear zx cs he
        go_wp2_with fail
        go_roundw
        case rel => exact ⟨k + 1, m, by omega, by omega, CQ.out, rfl, by go_num, N9.out, B9.out⟩
        case measure => simp [intOf]; omega
      · have v0 : ¬ v = 0 := fun h => he (zx.1 h)
        have v1 : ¬ (v : Int) = 0 := by omega
        rw [show decide (Gal.co x.data.toList k ≠ Gal.co y.data.toList k) = true by simp [he]] at cs
        have CQ := Lib.hid (show m + 1 = Blk.cnt (fun i => decide (Gal.co x.data.toList i ≠ Gal.co y.data.toList i)) (k + 1) by rw [cs]; rfl)
        clear zx cs he
        go_wp2_with fail
        go_roundw
        case rel => exact ⟨k + 1, m + 1, by omega, by omega, CQ.out, by go_num, by go_num, N9.out, B9.out⟩
        case measure => simp [intOf]; omega
    · obtain rfl : k = L := by omega
      have NQ := Lib.hid (show NumsK .u8 wr sb k (fun p => (Gal.co x.data.toList p ^^^ Gal.co y.data.toList p).toNat) from HN.out.congr (fun p hp => by rw [if_pos hp]))
      have BF := Lib.hid (B03.out.trans (HB.out.below.mono HSB.out))
      have C1 := Lib.hid (nums_back k (nums_head NQ.out nL))
      have sz1 : (⟨(Gal.coefs (fun i => Gal.co x.data.toList i ^^^ Gal.co y.data.toList i) k).toArray⟩ : ByteArray).size = k := by rw [sz, Gal.coefs_length]
      have CW := Lib.hid (fun w' (hb : Below wr.heap.size wr w') => nums_back k (NQ.out.below hb))
      obtain ⟨d, hd⟩ : ∃ s : ByteArray, (⟨(Gal.coefs (fun i => Gal.co x.data.toList i ^^^ Gal.co y.data.toList i) n).toArray⟩ : ByteArray) = s := ⟨_, rfl⟩
      obtain ⟨u, hu⟩ : ∃ s : ByteArray, (⟨(Gal.coefs (fun i => Gal.co x.data.toList i ^^^ Gal.co y.data.toList i) k).toArray⟩ : ByteArray) = s := ⟨_, rfl⟩
      rw [hd] at C1 EZ
      rw [hu] at CW EZ sz1
      have uu := beq_same u
      clear hd hu HN CS
      go_wp2_with (simp only [C1.out])
      (with_reducible refine (EZ.out _).mono ?_)
      rintro e w4 ⟨rfl, k4⟩
      have CV := Lib.hid (CW.out w4 k4)
      have BG := Lib.hid (bt BF.out k4)
      clear k4 C1 CW EZ BF NQ HB
      by_cases hab : a = b
      · have m0 : m = 0 := by rw [HM.out]; exact DD.out.1 hab
        subst hab
        have aa := beq_same a
        clear HM DD
        subst m0
        go_wp2_with (simp only [CV.out])
        (with_reducible refine (AW.out _).mono ?_)
        rintro e w5 ⟨rfl, k5⟩
        have B5 := Lib.hid (bt BG.out k5)
        clear k5
        go_wp2_with fail
        go_ret
        exact ⟨rfl, B5.out⟩
      · have m9 : 9 ≤ m := by rw [HM.out]; exact DD.out.2 hab
        have aa := beq_no hab
        have m1 : ¬ (m : Int) = 0 := by omega
        have m9' : (9 : Int) ≤ (m : Int) := by omega
        clear HM DD
        go_wp2_with (simp only [CV.out])
        (with_reducible refine (AW.out _).mono ?_)
        rintro e w5 ⟨rfl, k5⟩
        have B5 := Lib.hid (bt BG.out k5)
        clear k5
        go_wp2_with fail
        go_ret
        exact ⟨rfl, B5.out⟩
        rename_i hq
        exact absurd (show (a.toList == b.toList) = ((m : Int) == 0) by rw [← beq_toListBytes, aa]; exact (beq_eq_false_iff_ne.2 m1).symm) hq
theorem walk (a : ByteArray) (ha : a.size ≤ maxLen) (b : ByteArray) (hb : b.size ≤ maxLen) (w : World) :
    Calls Tryd.prog 4 #[.string a, .string b] w fun e w' => e = .returned (.bool true) ∧ Below w.heap.size w w' := by
  unfold maxLen at ha hb
  have AW := Lib.hid (fun w => bawake_any w)
  by_cases h1 : a.size = b.size
  · by_cases h2 : a.size < 1
    · have h2' : decide ((a.size : Int) < 1) = true := by simp; omega
      go_enter Tryd.func4, Tryd.ntmps4
      go_wp2_with fail
      (with_reducible refine (AW.out _).mono ?_)
      rintro e w1 ⟨rfl, h1⟩
      go_wp2_with fail
      go_ret
      exact ⟨rfl, h1⟩
    · by_cases h3 : 223 < a.size
      · go_enter Tryd.func4, Tryd.ntmps4
        go_wp2_with fail
        (with_reducible refine (AW.out _).mono ?_)
        rintro e w1 ⟨rfl, h1⟩
        go_wp2_with fail
        go_ret
        exact ⟨rfl, h1⟩
      · exact main a b a.size rfl h1.symm (by omega) (by omega) w
  · go_enter Tryd.func4, Tryd.ntmps4
    go_wp2_with fail
    (with_reducible refine (AW.out _).mono ?_)
    rintro e w1 ⟨rfl, h1⟩
    go_wp2_with fail
    go_ret
    exact ⟨rfl, h1⟩

set_option maxRecDepth 100000 in
theorem lifted (os : Os) (started : os.Started) (H : Type) (enc : TypeId × Value → H) :
    ReturnsInHanded {} Tryd.checked os 4 .any (fun w args => (Rows.blockDistanceSpec.pre enc Tryd.prog Tryd.f4 [] false w args ∧ laidMetH Tryd.prog laidL w) ∧ sizedMet enc Tryd.prog Tryd.f4 (OpenSpec.ofChange Rows.blockDistanceSpec) false w args)
      (Rows.blockDistanceSpec.post enc Tryd.prog Tryd.f4 false true false false) := by
  refine returnsInHanded_of_change_and (C := Tryd.checked) (X := fun w _ => laidMetH Tryd.prog laidL w) (fun _ _ _ hh h => h.of_heap hh) own started (by kernel_rfl) Tryd.func4
    (ChangeSpec.witness_shaped (enc := enc) (C := Tryd.checked) (os := os) (X := fun w _ => laidMetH Tryd.prog laidL w) false (World.laidAll Tryd.prog os laidL) #[.string { data := #[] }, .string { data := #[] }] 8 (World.laidAll_os _ _ _)
      (World.shaped_of_ZipB (by kernel_rfl) (by kernel_rfl)) (by kernel_rfl) (by kernel_rfl) (by kernel_rfl) (laid_met os _)) ?_
  intro W base args ds gs before hval0 hW _ _ _ _
  have hval : ∀ (j : Nat) t v, Tryd.f4.params[j]? = some t → args[j]? = some v → Value.okWide Tryd.prog W .any base t v := hval0
  have hW' := hW
  obtain ⟨p, q, hA0, hV, rfl, hfz, hnd⟩ := hW
  have hA : DataW.TrodAll enc Tryd.prog W 0 (fun _ => true) true Tryd.f4.params.toList args.toList ds p := hA0
  rw [Tryd.params4] at hA hval
  obtain ⟨v0, vs0, d0, ds0, p0, q0, hargs, rfl, rfl, h0, r0⟩ := trodAll_cons hA
  obtain ⟨v1, vs1, d1, ds1, p1, q1, rfl, rfl, rfl, h1, r1⟩ := trodAll_cons r0
  obtain ⟨rfl, rfl, rfl⟩ := trodAll_nil r1
  obtain rfl : args = #[v0, v1] := by cases args; simp_all
  obtain ⟨rfl, rfl⟩ := trodVars_none hV
  obtain ⟨a0, rfl, rfl, rfl, w0⟩ := ChangeMaps.open_string Tryd.underlying9 (hval 0 9 v0 rfl rfl) h0
  obtain ⟨a1, rfl, rfl, rfl, w1⟩ := ChangeMaps.open_string Tryd.underlying9 (hval 1 9 v1 rfl rfl) h1
  clear hA0 hval0
  simp only [List.append_nil] at hW'
  refine (walk a0 w0 a1 w1 W).mono fun e W' ⟨he, hg⟩ => ?_
  subst he
  exact ⟨_, rfl, post_of_below (pa := []) (pv := []) hW' (fun _ _ _ => trodAll_cons_mk (shut_bool Tryd.underlying4 _) trodAll_mk0) (fun sp _ => (trodAll_cons_mk (ChangeMaps.shut_string Tryd.underlying9 w0) (trodAll_cons_mk (ChangeMaps.shut_string Tryd.underlying9 w1) trodAll_mk0))) (fun _ _ => rfl) rfl
    hg (ok_one (by kernel_rfl) rfl (okWide_bool_mk Tryd.underlying4 _))⟩

theorem over : Rows.BlockDistanceSaid :=
  OpenClaim.holds_of_wide 4 Tryd.f4 rfl rfl rfl rfl rfl rfl rfl ⟨rfl, rfl, rfl, rfl, rfl⟩ rfl rfl rfl rfl rfl (by kernel_rfl) Tryd.func4 (by kernel_rfl)
    (of_decide_eq_true (by kernel_rfl)) (by unfold Func.isWrapper; first | (rw [if_pos (by decide +kernel)]; kernel_rfl) | (rw [if_neg (by decide +kernel)]; exact ⟨rfl, rfl⟩))
    (fun os started H enc _ => lifted os started H enc)

theorem proved : Rows.BlockDistanceCardSaid :=
  Claim7.holds_tied_plain_at .later [] [.data, .pinned] true Rows.blockDistanceCard.stood.harness false
    over (fun _ h => by cases h) (by kernel_rfl) (fun _ h => by cases h) blockDistance_row_tie rfl ⟨rfl, rfl⟩ (by kernel_rfl) rfl
    (fun f fn hf hfn => by
      obtain rfl : f = 4 := Option.some.inj ((show Tryd.prog.funcNamed "perigee/perigeelaw05.BlockDistance" = some 4 by kernel_rfl).symm.trans hf) |>.symm
      obtain rfl : fn = Tryd.f4 := (Option.some.inj (Tryd.func4.symm.trans hfn)).symm
      exact ⟨by kernel_rfl, fun j t ht => by
        have hall : (Tryd.f4.params.toList.all fun u => !Tryd.prog.wantsStandIn u) = true := by kernel_rfl
        have hm : t ∈ Tryd.f4.params.toList := by simpa using Array.mem_of_getElem? ht
        exact (show Tryd.prog.wantsStandIn t = false by simpa using List.all_eq_true.1 hall t hm)⟩)
    (by kernel_rfl)
#print axioms proved
end blockDistance
end Go.Proofs.YtlpjhmafplljaaaDoor
