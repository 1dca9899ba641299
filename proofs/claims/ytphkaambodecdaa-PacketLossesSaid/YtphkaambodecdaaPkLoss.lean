/- PacketLosses: the walk of its loops. -/
import Derived.Test.YtphkaambodecdaaPkEq
import Derived.Test.YtphkaambodecdaaRowKit
import Derived.Test.YtphkaambodecdaaPickKit
import Derived.Test.YtphkaambodecdaaPkSame
import Derived.Test.YtphkaambodecdaaPkList
import Derived.Test.YtphkaambodecdaaPkLost
import Derived.Test.YtphkaambodecdaaRegH
import Derived.ProofKit
import Derived.BigQuiet
import Derived.Deep.CutRange
import Derived.Deep.CutBlock
namespace Go.Proofs.Ytphkaambodecdaa
open Go.ChangeShapes Go.WideShapes Go.ChangeAt Go.RowKit
set_option linter.unusedVariables false
namespace packetLosses
structure LsRegion (B of0 N cap i c q mo b0 KK : Nat) (av E : Int) (str : ByteArray) (f : Nat → Pkt) (A : Act) (w0 : World) (s : Nat → Bool) (a : Act) (w : World) : Prop where
  off : Off [39, 40, 41, 42, 43, 44, 45, 46, 47, 38, 48, 49, 16] a A
  before : Below w0.heap.size w0 w
  t0 : s 0 = true → a.eval (.tmp 39) = .int .i64 (c : Nat)
  t1 : s 1 = true → a.eval (.tmp 40) = .slice (some ⟨B, of0, none⟩) N cap
  t2 : s 2 = true → a.eval (.tmp 41) = .int .i64 (i : Nat)
  t3 : s 3 = true → a.eval (.tmp 42) = .pointer (some ⟨B, of0 + i, none⟩)
  t4 : s 4 = true → a.eval (.tmp 43) = .string str
  t5 : s 5 = true → a.eval (.tmp 44) = .int .i64 av
  t6 : s 6 = true → a.eval (.tmp 45) = .int .i64 (q : Nat)
  t7 : s 7 = true → a.eval (.tmp 46) = .int .i64 (mo : Nat)
  t8 : s 8 = true → ∃ v8, a.eval (.tmp 47) = v8 ∧ SpV b0 KK E f v8 w ∧ (s 9 = true → a.eval (.tmp 38) = v8) ∧ (s 10 = true → a.eval (.tmp 48) = tup0 v8) ∧ (s 11 = true → a.eval (.tmp 49) = tup1 v8) ∧ (s 12 = true → a.eval (.tmp 16) = tup0 v8)
set_option maxHeartbeats 2000000 in
set_option maxRecDepth 100000 in
theorem lsRegion {id : Nat} {l : List Oper} {A : Act} {w : World} {Q : Exit → Act → World → Prop} (B of0 N cap i c q mo b0 KK : Nat) (av E : Int) (str : ByteArray) (f : Nat → Pkt)
    (hi : i < N) (hi0 : (0 : Int) ≤ (i : Int)) (hi1 : (i : Int) < (N : Int)) (hmo : IntKind.i64.wrap (1 + (q : Int)) = (mo : Int)) (lB : B < w.heap.size) (cB : w.cell? ⟨B, of0 + i, none⟩ = some (.string str))
    (hP : ∀ w', Calls Try.prog 29 #[.int .i64 av, .int .i64 50] w' fun e w2 => e = .returned (.int .i64 (q : Nat)) ∧ Below w'.heap.size w' w2)
    (hS : ∀ w', Below w.heap.size w w' → Calls Try.prog 19 #[.bool true, .int .i64 9, .int .i64 (c : Nat), .string str, .int .i64 (mo : Nat)] w' fun e w2 => ∃ v, e = .returned v ∧ SpV b0 KK E f v w2 ∧ Below w'.heap.size w' w2)
    (hB : tableH l.toArray 13 (fun i => match i with | 0 => [] | 1 => [] | 2 => [] | 3 => [1, 2] | 4 => [3] | 5 => [] | 6 => [5] | 7 => [6] | 8 => [0, 4, 7] | 9 => [8] | 10 => [8, 9] | 11 => [8, 9] | 12 => [8, 9, 10] | _ => []) (fun i => match i with | 8 => [9, 10, 11, 12] | _ => []) = true)
    (h0 : pick l 0 = some (.move (.tmp 8), some 39))
    (h1 : pick l 1 = some (.move (.tmp 0), some 40))
    (h2 : pick l 2 = some (.move (.tmp 15), some 41))
    (h3 : pick l 3 = some (.indexAddr 60 (.tmp 40) (.tmp 41), some 42))
    (h4 : pick l 4 = some (.load 9 (.tmp 42), some 43))
    (h5 : pick l 5 = some (.move (.tmp 1), some 44))
    (h6 : pick l 6 = some (.call { callee := .value (.func 29), args := #[.tmp 44, .const (.int .i64 50)], argTypes := #[3, 3] }, some 45))
    (h7 : pick l 7 = some (.binOp .add 3 (.const (.int .i64 1)) (.tmp 45) 3, some 46))
    (h8 : pick l 8 = some (.call { callee := .value (.func 19), args := #[.const (.bool true), .const (.int .i64 9), .tmp 39, .tmp 43, .tmp 46], argTypes := #[4, 3, 3, 9, 3] }, some 47))
    (h9 : pick l 9 = some (.move (.tmp 47), some 38))
    (h10 : pick l 10 = some (.extract (.tmp 38) 0, some 48))
    (h11 : pick l 11 = some (.extract (.tmp 38) 1, some 49))
    (h12 : pick l 12 = some (.assign (.tmp 48), some 16))
    (hs : A.tmps.size = 139)
    (x8 : A.eval (.tmp 8) = .int .i64 (c : Nat))
    (x0 : A.eval (.tmp 0) = .slice (some ⟨B, of0, none⟩) N cap)
    (x15 : A.eval (.tmp 15) = .int .i64 (i : Nat))
    (x1 : A.eval (.tmp 1) = .int .i64 av)
    (h : ∀ v8 w1, Below w.heap.size w w1 → SpV b0 KK E f v8 w1 → wpList Try.prog l.toArray Q (l.drop 13) (((((((((((((A.put (some 39) (.int .i64 (c : Nat))).put (some 40) (.slice (some ⟨B, of0, none⟩) N cap)).put (some 41) (.int .i64 (i : Nat))).put (some 42) (.pointer (some ⟨B, of0 + i, none⟩))).put (some 43) (.string str)).put (some 44) (.int .i64 av)).put (some 45) (.int .i64 (q : Nat))).put (some 46) (.int .i64 (mo : Nat))).put (some 47) (v8)).put (some 38) (v8)).put (some 48) (tup0 v8)).put (some 49) (tup1 v8)).put (some 16) (tup0 v8)) w1) :
    (Code.region id l.toArray true).wp Try.prog Q A w := by
  refine wp_region_head (by kernel_rfl) _ _ _ hB (LsRegion B of0 N cap i c q mo b0 KK av E str f A w) ⟨Off.refl _ _, (Below.refl _ _).drew, by simp, by simp, by simp, by simp, by simp, by simp, by simp, by simp, by simp⟩ ?_ ?_
  · intro s a w' S i' o il ho hsi hT K hK
    have sz : a.tmps.size = 139 := by rw [S.off.2.1]; exact hs
    have y8 : a.eval (.tmp 8) = .int .i64 (c : Nat) := by rw [S.off.eval (by decide)]; exact x8
    have y0 : a.eval (.tmp 0) = .slice (some ⟨B, of0, none⟩) N cap := by rw [S.off.eval (by decide)]; exact x0
    have y15 : a.eval (.tmp 15) = .int .i64 (i : Nat) := by rw [S.off.eval (by decide)]; exact x15
    have y1 : a.eval (.tmp 1) = .int .i64 av := by rw [S.off.eval (by decide)]; exact x1
    match i', il, ho, hsi, hT with
    | 0, _, ho, hsi, hT =>
      obtain ⟨e1, e2⟩ := pick_of h0 ho
      have BW := S.before
      refine step_val (v := .int .i64 (c : Nat)) (by simp only [execOp, e1, y8]; go_simp) (hK _ _ ?_)
      rw [e2]
      exact ⟨S.off.put (by decide) _, S.before, fun _ => (eval_put _ _ _ (by omega)).trans rfl, fun g => by rw [eval_put_ne _ _ _ _ (by decide)]; exact S.t1 (by simpa using g), fun g => by rw [eval_put_ne _ _ _ _ (by decide)]; exact S.t2 (by simpa using g), fun g => by rw [eval_put_ne _ _ _ _ (by decide)]; exact S.t3 (by simpa using g), fun g => by rw [eval_put_ne _ _ _ _ (by decide)]; exact S.t4 (by simpa using g), fun g => by rw [eval_put_ne _ _ _ _ (by decide)]; exact S.t5 (by simpa using g), fun g => by rw [eval_put_ne _ _ _ _ (by decide)]; exact S.t6 (by simpa using g), fun g => by rw [eval_put_ne _ _ _ _ (by decide)]; exact S.t7 (by simpa using g), fun g => (S.t8 (by simpa using g)).imp fun b hb => ⟨by rw [eval_put_ne _ _ _ _ (by decide)]; exact hb.1, hb.2.1, fun g => by rw [eval_put_ne _ _ _ _ (by decide)]; exact hb.2.2.1 (by simpa using g), fun g => by rw [eval_put_ne _ _ _ _ (by decide)]; exact hb.2.2.2.1 (by simpa using g), fun g => by rw [eval_put_ne _ _ _ _ (by decide)]; exact hb.2.2.2.2.1 (by simpa using g), fun g => by rw [eval_put_ne _ _ _ _ (by decide)]; exact hb.2.2.2.2.2 (by simpa using g)⟩⟩
    | 1, _, ho, hsi, hT =>
      obtain ⟨e1, e2⟩ := pick_of h1 ho
      have BW := S.before
      refine step_val (v := .slice (some ⟨B, of0, none⟩) N cap) (by simp only [execOp, e1, y0]; go_simp) (hK _ _ ?_)
      rw [e2]
      exact ⟨S.off.put (by decide) _, S.before, fun g => by rw [eval_put_ne _ _ _ _ (by decide)]; exact S.t0 (by simpa using g), fun _ => (eval_put _ _ _ (by omega)).trans rfl, fun g => by rw [eval_put_ne _ _ _ _ (by decide)]; exact S.t2 (by simpa using g), fun g => by rw [eval_put_ne _ _ _ _ (by decide)]; exact S.t3 (by simpa using g), fun g => by rw [eval_put_ne _ _ _ _ (by decide)]; exact S.t4 (by simpa using g), fun g => by rw [eval_put_ne _ _ _ _ (by decide)]; exact S.t5 (by simpa using g), fun g => by rw [eval_put_ne _ _ _ _ (by decide)]; exact S.t6 (by simpa using g), fun g => by rw [eval_put_ne _ _ _ _ (by decide)]; exact S.t7 (by simpa using g), fun g => (S.t8 (by simpa using g)).imp fun b hb => ⟨by rw [eval_put_ne _ _ _ _ (by decide)]; exact hb.1, hb.2.1, fun g => by rw [eval_put_ne _ _ _ _ (by decide)]; exact hb.2.2.1 (by simpa using g), fun g => by rw [eval_put_ne _ _ _ _ (by decide)]; exact hb.2.2.2.1 (by simpa using g), fun g => by rw [eval_put_ne _ _ _ _ (by decide)]; exact hb.2.2.2.2.1 (by simpa using g), fun g => by rw [eval_put_ne _ _ _ _ (by decide)]; exact hb.2.2.2.2.2 (by simpa using g)⟩⟩
    | 2, _, ho, hsi, hT =>
      obtain ⟨e1, e2⟩ := pick_of h2 ho
      have BW := S.before
      refine step_val (v := .int .i64 (i : Nat)) (by simp only [execOp, e1, y15]; go_simp) (hK _ _ ?_)
      rw [e2]
      exact ⟨S.off.put (by decide) _, S.before, fun g => by rw [eval_put_ne _ _ _ _ (by decide)]; exact S.t0 (by simpa using g), fun g => by rw [eval_put_ne _ _ _ _ (by decide)]; exact S.t1 (by simpa using g), fun _ => (eval_put _ _ _ (by omega)).trans rfl, fun g => by rw [eval_put_ne _ _ _ _ (by decide)]; exact S.t3 (by simpa using g), fun g => by rw [eval_put_ne _ _ _ _ (by decide)]; exact S.t4 (by simpa using g), fun g => by rw [eval_put_ne _ _ _ _ (by decide)]; exact S.t5 (by simpa using g), fun g => by rw [eval_put_ne _ _ _ _ (by decide)]; exact S.t6 (by simpa using g), fun g => by rw [eval_put_ne _ _ _ _ (by decide)]; exact S.t7 (by simpa using g), fun g => (S.t8 (by simpa using g)).imp fun b hb => ⟨by rw [eval_put_ne _ _ _ _ (by decide)]; exact hb.1, hb.2.1, fun g => by rw [eval_put_ne _ _ _ _ (by decide)]; exact hb.2.2.1 (by simpa using g), fun g => by rw [eval_put_ne _ _ _ _ (by decide)]; exact hb.2.2.2.1 (by simpa using g), fun g => by rw [eval_put_ne _ _ _ _ (by decide)]; exact hb.2.2.2.2.1 (by simpa using g), fun g => by rw [eval_put_ne _ _ _ _ (by decide)]; exact hb.2.2.2.2.2 (by simpa using g)⟩⟩
    | 3, _, ho, hsi, hT =>
      obtain ⟨e1, e2⟩ := pick_of h3 ho
      have D1 : s 1 = true := list_pos hT (d := 1) (by decide)
      have D2 : s 2 = true := list_pos hT (d := 2) (by decide)
      have BW := S.before
      refine step_val (v := .pointer (some ⟨B, of0 + i, none⟩)) (by simp only [execOp, e1, S.t1 D1, S.t2 D2]; go_simp) (hK _ _ ?_)
      rw [e2]
      exact ⟨S.off.put (by decide) _, S.before, fun g => by rw [eval_put_ne _ _ _ _ (by decide)]; exact S.t0 (by simpa using g), fun g => by rw [eval_put_ne _ _ _ _ (by decide)]; exact S.t1 (by simpa using g), fun g => by rw [eval_put_ne _ _ _ _ (by decide)]; exact S.t2 (by simpa using g), fun _ => (eval_put _ _ _ (by omega)).trans rfl, fun g => by rw [eval_put_ne _ _ _ _ (by decide)]; exact S.t4 (by simpa using g), fun g => by rw [eval_put_ne _ _ _ _ (by decide)]; exact S.t5 (by simpa using g), fun g => by rw [eval_put_ne _ _ _ _ (by decide)]; exact S.t6 (by simpa using g), fun g => by rw [eval_put_ne _ _ _ _ (by decide)]; exact S.t7 (by simpa using g), fun g => (S.t8 (by simpa using g)).imp fun b hb => ⟨by rw [eval_put_ne _ _ _ _ (by decide)]; exact hb.1, hb.2.1, fun g => by rw [eval_put_ne _ _ _ _ (by decide)]; exact hb.2.2.1 (by simpa using g), fun g => by rw [eval_put_ne _ _ _ _ (by decide)]; exact hb.2.2.2.1 (by simpa using g), fun g => by rw [eval_put_ne _ _ _ _ (by decide)]; exact hb.2.2.2.2.1 (by simpa using g), fun g => by rw [eval_put_ne _ _ _ _ (by decide)]; exact hb.2.2.2.2.2 (by simpa using g)⟩⟩
    | 4, _, ho, hsi, hT =>
      obtain ⟨e1, e2⟩ := pick_of h4 ho
      have D3 : s 3 = true := list_pos hT (d := 3) (by decide)
      have BW := S.before
      have cl := (BW.cell (p := ⟨B, of0 + i, none⟩) lB).trans cB
      refine step_val (v := .string str) (by simp only [execOp, e1, S.t3 D3]; go_simp) (hK _ _ ?_)
      rw [e2]
      exact ⟨S.off.put (by decide) _, S.before, fun g => by rw [eval_put_ne _ _ _ _ (by decide)]; exact S.t0 (by simpa using g), fun g => by rw [eval_put_ne _ _ _ _ (by decide)]; exact S.t1 (by simpa using g), fun g => by rw [eval_put_ne _ _ _ _ (by decide)]; exact S.t2 (by simpa using g), fun g => by rw [eval_put_ne _ _ _ _ (by decide)]; exact S.t3 (by simpa using g), fun _ => (eval_put _ _ _ (by omega)).trans rfl, fun g => by rw [eval_put_ne _ _ _ _ (by decide)]; exact S.t5 (by simpa using g), fun g => by rw [eval_put_ne _ _ _ _ (by decide)]; exact S.t6 (by simpa using g), fun g => by rw [eval_put_ne _ _ _ _ (by decide)]; exact S.t7 (by simpa using g), fun g => (S.t8 (by simpa using g)).imp fun b hb => ⟨by rw [eval_put_ne _ _ _ _ (by decide)]; exact hb.1, hb.2.1, fun g => by rw [eval_put_ne _ _ _ _ (by decide)]; exact hb.2.2.1 (by simpa using g), fun g => by rw [eval_put_ne _ _ _ _ (by decide)]; exact hb.2.2.2.1 (by simpa using g), fun g => by rw [eval_put_ne _ _ _ _ (by decide)]; exact hb.2.2.2.2.1 (by simpa using g), fun g => by rw [eval_put_ne _ _ _ _ (by decide)]; exact hb.2.2.2.2.2 (by simpa using g)⟩⟩
    | 5, _, ho, hsi, hT =>
      obtain ⟨e1, e2⟩ := pick_of h5 ho
      have BW := S.before
      refine step_val (v := .int .i64 av) (by simp only [execOp, e1, y1]; go_simp) (hK _ _ ?_)
      rw [e2]
      exact ⟨S.off.put (by decide) _, S.before, fun g => by rw [eval_put_ne _ _ _ _ (by decide)]; exact S.t0 (by simpa using g), fun g => by rw [eval_put_ne _ _ _ _ (by decide)]; exact S.t1 (by simpa using g), fun g => by rw [eval_put_ne _ _ _ _ (by decide)]; exact S.t2 (by simpa using g), fun g => by rw [eval_put_ne _ _ _ _ (by decide)]; exact S.t3 (by simpa using g), fun g => by rw [eval_put_ne _ _ _ _ (by decide)]; exact S.t4 (by simpa using g), fun _ => (eval_put _ _ _ (by omega)).trans rfl, fun g => by rw [eval_put_ne _ _ _ _ (by decide)]; exact S.t6 (by simpa using g), fun g => by rw [eval_put_ne _ _ _ _ (by decide)]; exact S.t7 (by simpa using g), fun g => (S.t8 (by simpa using g)).imp fun b hb => ⟨by rw [eval_put_ne _ _ _ _ (by decide)]; exact hb.1, hb.2.1, fun g => by rw [eval_put_ne _ _ _ _ (by decide)]; exact hb.2.2.1 (by simpa using g), fun g => by rw [eval_put_ne _ _ _ _ (by decide)]; exact hb.2.2.2.1 (by simpa using g), fun g => by rw [eval_put_ne _ _ _ _ (by decide)]; exact hb.2.2.2.2.1 (by simpa using g), fun g => by rw [eval_put_ne _ _ _ _ (by decide)]; exact hb.2.2.2.2.2 (by simpa using g)⟩⟩
    | 6, _, ho, hsi, hT =>
      obtain ⟨e1, e2⟩ := pick_of h6 ho
      have D5 : s 5 = true := list_pos hT (d := 5) (by decide)
      have BW := S.before
      refine step_call 29 (fun args w => by go_simp) _ _ e1 #[.int .i64 av, .int .i64 50] (by simp only [List.map_toArray, List.map_cons, List.map_nil, S.t5 D5] <;> rfl) ((hP w').mono ?_)
      rintro e w2 ⟨rfl, BB⟩
      refine ⟨_, rfl, hK _ _ ?_⟩
      rw [e2]
      exact ⟨S.off.put (by decide) _, bt BW BB, fun g => by rw [eval_put_ne _ _ _ _ (by decide)]; exact S.t0 (by simpa using g), fun g => by rw [eval_put_ne _ _ _ _ (by decide)]; exact S.t1 (by simpa using g), fun g => by rw [eval_put_ne _ _ _ _ (by decide)]; exact S.t2 (by simpa using g), fun g => by rw [eval_put_ne _ _ _ _ (by decide)]; exact S.t3 (by simpa using g), fun g => by rw [eval_put_ne _ _ _ _ (by decide)]; exact S.t4 (by simpa using g), fun g => by rw [eval_put_ne _ _ _ _ (by decide)]; exact S.t5 (by simpa using g), fun _ => (eval_put _ _ _ (by omega)).trans rfl, fun g => by rw [eval_put_ne _ _ _ _ (by decide)]; exact S.t7 (by simpa using g), fun g => (S.t8 (by simpa using g)).imp fun b hb => ⟨by rw [eval_put_ne _ _ _ _ (by decide)]; exact hb.1, (SpV.mono hb.2.1 BB), fun g => by rw [eval_put_ne _ _ _ _ (by decide)]; exact hb.2.2.1 (by simpa using g), fun g => by rw [eval_put_ne _ _ _ _ (by decide)]; exact hb.2.2.2.1 (by simpa using g), fun g => by rw [eval_put_ne _ _ _ _ (by decide)]; exact hb.2.2.2.2.1 (by simpa using g), fun g => by rw [eval_put_ne _ _ _ _ (by decide)]; exact hb.2.2.2.2.2 (by simpa using g)⟩⟩
    | 7, _, ho, hsi, hT =>
      obtain ⟨e1, e2⟩ := pick_of h7 ho
      have D6 : s 6 = true := list_pos hT (d := 6) (by decide)
      have BW := S.before
      refine step_val (v := .int .i64 (mo : Nat)) (by simp only [execOp, e1, S.t6 D6]; go_simp) (hK _ _ ?_)
      rw [e2]
      exact ⟨S.off.put (by decide) _, S.before, fun g => by rw [eval_put_ne _ _ _ _ (by decide)]; exact S.t0 (by simpa using g), fun g => by rw [eval_put_ne _ _ _ _ (by decide)]; exact S.t1 (by simpa using g), fun g => by rw [eval_put_ne _ _ _ _ (by decide)]; exact S.t2 (by simpa using g), fun g => by rw [eval_put_ne _ _ _ _ (by decide)]; exact S.t3 (by simpa using g), fun g => by rw [eval_put_ne _ _ _ _ (by decide)]; exact S.t4 (by simpa using g), fun g => by rw [eval_put_ne _ _ _ _ (by decide)]; exact S.t5 (by simpa using g), fun g => by rw [eval_put_ne _ _ _ _ (by decide)]; exact S.t6 (by simpa using g), fun _ => (eval_put _ _ _ (by omega)).trans rfl, fun g => (S.t8 (by simpa using g)).imp fun b hb => ⟨by rw [eval_put_ne _ _ _ _ (by decide)]; exact hb.1, hb.2.1, fun g => by rw [eval_put_ne _ _ _ _ (by decide)]; exact hb.2.2.1 (by simpa using g), fun g => by rw [eval_put_ne _ _ _ _ (by decide)]; exact hb.2.2.2.1 (by simpa using g), fun g => by rw [eval_put_ne _ _ _ _ (by decide)]; exact hb.2.2.2.2.1 (by simpa using g), fun g => by rw [eval_put_ne _ _ _ _ (by decide)]; exact hb.2.2.2.2.2 (by simpa using g)⟩⟩
    | 8, _, ho, hsi, hT =>
      obtain ⟨e1, e2⟩ := pick_of h8 ho
      have D0 : s 0 = true := list_pos hT (d := 0) (by decide)
      have D4 : s 4 = true := list_pos hT (d := 4) (by decide)
      have D7 : s 7 = true := list_pos hT (d := 7) (by decide)
      have BW := S.before
      have NL9 : s 9 = false := list_neg hT (k := 9) (by decide)
      have NL10 : s 10 = false := list_neg hT (k := 10) (by decide)
      have NL11 : s 11 = false := list_neg hT (k := 11) (by decide)
      have NL12 : s 12 = false := list_neg hT (k := 12) (by decide)
      refine step_call 19 (fun args w => by go_simp) _ _ e1 #[.bool true, .int .i64 9, .int .i64 (c : Nat), .string str, .int .i64 (mo : Nat)] (by simp only [List.map_toArray, List.map_cons, List.map_nil, S.t0 D0, S.t4 D4, S.t7 D7] <;> rfl) ((hS w' BW).mono ?_)
      rintro e w2 ⟨v, rfl, FF, BB⟩
      refine ⟨_, rfl, hK _ _ ?_⟩
      rw [e2]
      exact ⟨S.off.put (by decide) _, bt BW BB, fun g => by rw [eval_put_ne _ _ _ _ (by decide)]; exact S.t0 (by simpa using g), fun g => by rw [eval_put_ne _ _ _ _ (by decide)]; exact S.t1 (by simpa using g), fun g => by rw [eval_put_ne _ _ _ _ (by decide)]; exact S.t2 (by simpa using g), fun g => by rw [eval_put_ne _ _ _ _ (by decide)]; exact S.t3 (by simpa using g), fun g => by rw [eval_put_ne _ _ _ _ (by decide)]; exact S.t4 (by simpa using g), fun g => by rw [eval_put_ne _ _ _ _ (by decide)]; exact S.t5 (by simpa using g), fun g => by rw [eval_put_ne _ _ _ _ (by decide)]; exact S.t6 (by simpa using g), fun g => by rw [eval_put_ne _ _ _ _ (by decide)]; exact S.t7 (by simpa using g), fun _ => ⟨_, (eval_put _ _ _ (by omega)).trans rfl, FF, fun g => absurd g (by simp [NL9]), fun g => absurd g (by simp [NL10]), fun g => absurd g (by simp [NL11]), fun g => absurd g (by simp [NL12])⟩⟩
    | 9, _, ho, hsi, hT =>
      obtain ⟨e1, e2⟩ := pick_of h9 ho
      have D8 : s 8 = true := list_pos hT (d := 8) (by decide)
      have BW := S.before
      obtain ⟨v8, M8, F8, Q9, Q10, Q11, Q12⟩ := S.t8 D8
      refine step_val (v := v8) (by simp only [execOp, e1, M8]; go_simp) (hK _ _ ?_)
      rw [e2]
      exact ⟨S.off.put (by decide) _, S.before, fun g => by rw [eval_put_ne _ _ _ _ (by decide)]; exact S.t0 (by simpa using g), fun g => by rw [eval_put_ne _ _ _ _ (by decide)]; exact S.t1 (by simpa using g), fun g => by rw [eval_put_ne _ _ _ _ (by decide)]; exact S.t2 (by simpa using g), fun g => by rw [eval_put_ne _ _ _ _ (by decide)]; exact S.t3 (by simpa using g), fun g => by rw [eval_put_ne _ _ _ _ (by decide)]; exact S.t4 (by simpa using g), fun g => by rw [eval_put_ne _ _ _ _ (by decide)]; exact S.t5 (by simpa using g), fun g => by rw [eval_put_ne _ _ _ _ (by decide)]; exact S.t6 (by simpa using g), fun g => by rw [eval_put_ne _ _ _ _ (by decide)]; exact S.t7 (by simpa using g), fun _ => ⟨_, by rw [eval_put_ne _ _ _ _ (by decide)]; exact M8, F8, fun _ => (eval_put _ _ _ (by omega)).trans rfl, fun g => by rw [eval_put_ne _ _ _ _ (by decide)]; exact Q10 (by simpa using g), fun g => by rw [eval_put_ne _ _ _ _ (by decide)]; exact Q11 (by simpa using g), fun g => by rw [eval_put_ne _ _ _ _ (by decide)]; exact Q12 (by simpa using g)⟩⟩
    | 10, _, ho, hsi, hT =>
      obtain ⟨e1, e2⟩ := pick_of h10 ho
      have D8 : s 8 = true := list_pos hT (d := 8) (by decide)
      have D9 : s 9 = true := list_pos hT (d := 9) (by decide)
      have BW := S.before
      obtain ⟨v8, M8, F8, Q9, Q10, Q11, Q12⟩ := S.t8 D8
      obtain ⟨sa, sc, rfl, OO⟩ := F8
      have F8 : SpV b0 KK E f _ w' := ⟨sa, sc, rfl, OO⟩
      refine step_val (v := .slice sa KK sc) (by simp only [execOp, e1, Q9 D9]; go_simp) (hK _ _ ?_)
      rw [e2]
      exact ⟨S.off.put (by decide) _, S.before, fun g => by rw [eval_put_ne _ _ _ _ (by decide)]; exact S.t0 (by simpa using g), fun g => by rw [eval_put_ne _ _ _ _ (by decide)]; exact S.t1 (by simpa using g), fun g => by rw [eval_put_ne _ _ _ _ (by decide)]; exact S.t2 (by simpa using g), fun g => by rw [eval_put_ne _ _ _ _ (by decide)]; exact S.t3 (by simpa using g), fun g => by rw [eval_put_ne _ _ _ _ (by decide)]; exact S.t4 (by simpa using g), fun g => by rw [eval_put_ne _ _ _ _ (by decide)]; exact S.t5 (by simpa using g), fun g => by rw [eval_put_ne _ _ _ _ (by decide)]; exact S.t6 (by simpa using g), fun g => by rw [eval_put_ne _ _ _ _ (by decide)]; exact S.t7 (by simpa using g), fun _ => ⟨_, by rw [eval_put_ne _ _ _ _ (by decide)]; exact M8, F8, fun g => by rw [eval_put_ne _ _ _ _ (by decide)]; exact Q9 (by simpa using g), fun _ => (eval_put _ _ _ (by omega)).trans rfl, fun g => by rw [eval_put_ne _ _ _ _ (by decide)]; exact Q11 (by simpa using g), fun g => by rw [eval_put_ne _ _ _ _ (by decide)]; exact Q12 (by simpa using g)⟩⟩
    | 11, _, ho, hsi, hT =>
      obtain ⟨e1, e2⟩ := pick_of h11 ho
      have D8 : s 8 = true := list_pos hT (d := 8) (by decide)
      have D9 : s 9 = true := list_pos hT (d := 9) (by decide)
      have BW := S.before
      obtain ⟨v8, M8, F8, Q9, Q10, Q11, Q12⟩ := S.t8 D8
      obtain ⟨sa, sc, rfl, OO⟩ := F8
      have F8 : SpV b0 KK E f _ w' := ⟨sa, sc, rfl, OO⟩
      refine step_val (v := .int .i64 E) (by simp only [execOp, e1, Q9 D9]; go_simp) (hK _ _ ?_)
      rw [e2]
      exact ⟨S.off.put (by decide) _, S.before, fun g => by rw [eval_put_ne _ _ _ _ (by decide)]; exact S.t0 (by simpa using g), fun g => by rw [eval_put_ne _ _ _ _ (by decide)]; exact S.t1 (by simpa using g), fun g => by rw [eval_put_ne _ _ _ _ (by decide)]; exact S.t2 (by simpa using g), fun g => by rw [eval_put_ne _ _ _ _ (by decide)]; exact S.t3 (by simpa using g), fun g => by rw [eval_put_ne _ _ _ _ (by decide)]; exact S.t4 (by simpa using g), fun g => by rw [eval_put_ne _ _ _ _ (by decide)]; exact S.t5 (by simpa using g), fun g => by rw [eval_put_ne _ _ _ _ (by decide)]; exact S.t6 (by simpa using g), fun g => by rw [eval_put_ne _ _ _ _ (by decide)]; exact S.t7 (by simpa using g), fun _ => ⟨_, by rw [eval_put_ne _ _ _ _ (by decide)]; exact M8, F8, fun g => by rw [eval_put_ne _ _ _ _ (by decide)]; exact Q9 (by simpa using g), fun g => by rw [eval_put_ne _ _ _ _ (by decide)]; exact Q10 (by simpa using g), fun _ => (eval_put _ _ _ (by omega)).trans rfl, fun g => by rw [eval_put_ne _ _ _ _ (by decide)]; exact Q12 (by simpa using g)⟩⟩
    | 12, _, ho, hsi, hT =>
      obtain ⟨e1, e2⟩ := pick_of h12 ho
      have D8 : s 8 = true := list_pos hT (d := 8) (by decide)
      have D9 : s 9 = true := list_pos hT (d := 9) (by decide)
      have D10 : s 10 = true := list_pos hT (d := 10) (by decide)
      have BW := S.before
      obtain ⟨v8, M8, F8, Q9, Q10, Q11, Q12⟩ := S.t8 D8
      refine step_val (v := tup0 v8) (by simp only [execOp, e1, Q10 D10]; go_simp) (hK _ _ ?_)
      rw [e2]
      exact ⟨S.off.put (by decide) _, S.before, fun g => by rw [eval_put_ne _ _ _ _ (by decide)]; exact S.t0 (by simpa using g), fun g => by rw [eval_put_ne _ _ _ _ (by decide)]; exact S.t1 (by simpa using g), fun g => by rw [eval_put_ne _ _ _ _ (by decide)]; exact S.t2 (by simpa using g), fun g => by rw [eval_put_ne _ _ _ _ (by decide)]; exact S.t3 (by simpa using g), fun g => by rw [eval_put_ne _ _ _ _ (by decide)]; exact S.t4 (by simpa using g), fun g => by rw [eval_put_ne _ _ _ _ (by decide)]; exact S.t5 (by simpa using g), fun g => by rw [eval_put_ne _ _ _ _ (by decide)]; exact S.t6 (by simpa using g), fun g => by rw [eval_put_ne _ _ _ _ (by decide)]; exact S.t7 (by simpa using g), fun _ => ⟨_, by rw [eval_put_ne _ _ _ _ (by decide)]; exact M8, F8, fun g => by rw [eval_put_ne _ _ _ _ (by decide)]; exact Q9 (by simpa using g), fun g => by rw [eval_put_ne _ _ _ _ (by decide)]; exact Q10 (by simpa using g), fun g => by rw [eval_put_ne _ _ _ _ (by decide)]; exact Q11 (by simpa using g), fun _ => (eval_put _ _ _ (by omega)).trans rfl⟩⟩
    | _ + 13, il, _, _, _ => exact absurd il (by omega)
  · intro s a w' S hall
    have a0 := hall 0 (by omega)
    have a1 := hall 1 (by omega)
    have a2 := hall 2 (by omega)
    have a3 := hall 3 (by omega)
    have a4 := hall 4 (by omega)
    have a5 := hall 5 (by omega)
    have a6 := hall 6 (by omega)
    have a7 := hall 7 (by omega)
    have a8 := hall 8 (by omega)
    have a9 := hall 9 (by omega)
    have a10 := hall 10 (by omega)
    have a11 := hall 11 (by omega)
    have a12 := hall 12 (by omega)
    have e := off_norm _ (by intro d hd; simp at hd; omega) S.off
    obtain ⟨v8, M8, F8, Q9, Q10, Q11, Q12⟩ := S.t8 a8
    simp only [List.foldl, S.t0 a0, S.t1 a1, S.t2 a2, S.t3 a3, S.t4 a4, S.t5 a5, S.t6 a6, S.t7 a7, M8, Q9 a9, Q10 a10, Q11 a11, Q12 a12] at e
    rw [e]
    exact h _ _ S.before F8
set_option maxRecDepth 100000 in
set_option maxHeartbeats 8000000 in
theorem walk_many (ao : Option Addr) (cap : Nat) (zs : List ByteArray) (hzc : zs.length ≤ cap) (hcm : cap ≤ maxLen) (a : Int) (ha : (Lit.int .i64 a).wf = true) (bo : Option Addr) (capb : Nat) (bl : List Bool) (hbc : bl.length ≤ capb) (hbm : capb ≤ maxLen) (w : World) (hl : 30 < zs.length) : Calls Try.prog 9 #[.slice ao zs.length cap, .int .i64 a, .slice bo bl.length capb] w fun e w' => e = .returned (.bool true) ∧ Below w.heap.size w w' := by
  have SH := Lib.hid (fun w => shown_any w)
  obtain ⟨N, hNN⟩ : ∃ N, zs.length = N := ⟨_, rfl⟩
  obtain ⟨nl, hnl⟩ : ∃ nl, bl.length = nl := ⟨_, rfl⟩
  have hNs : N ≤ 9223372036854775807 := by rw [← hNN]; unfold maxLen at hcm; omega
  have hnls : nl ≤ 9223372036854775807 := by rw [← hnl]; unfold maxLen at hbm; omega
  have NLC := Lib.hid (show nl ≤ capb by omega)
  rw [hNN, hnl]
  have HN := Lib.hid hNN
  have HNL := Lib.hid hnl
  have t1 : decide (30 < (N : Int)) = true := decide_eq_true (by omega)
  have t1n : decide (30 < N) = true := decide_eq_true (by omega)
  clear hzc hcm hbc hbm ha hl
  go_enter Try.func9, Try.ntmps9
  go_wp2_with fail
  (with_reducible refine (SH.out _).mono ?_)
  rintro e w1 ⟨rfl, h1⟩
  have B1 := Lib.hid h1
  clear h1
  go_wp2_with fail
  go_ret
  exact ⟨rfl, B1.out⟩
set_option maxRecDepth 100000 in
set_option maxHeartbeats 8000000 in
theorem walk_long (ao : Option Addr) (cap : Nat) (zs : List ByteArray) (hzc : zs.length ≤ cap) (hcm : cap ≤ maxLen) (a : Int) (ha : (Lit.int .i64 a).wf = true) (bo : Option Addr) (capb : Nat) (bl : List Bool) (hbc : bl.length ≤ capb) (hbm : capb ≤ maxLen) (w : World) (R0 : Strs w ao zs) (hl : ¬ 30 < zs.length) (hv : lgV zs 6000 = true) : Calls Try.prog 9 #[.slice ao zs.length cap, .int .i64 a, .slice bo bl.length capb] w fun e w' => e = .returned (.bool true) ∧ Below w.heap.size w w' := by
  have SH := Lib.hid (fun w => shown_any w)
  obtain ⟨N, hNN⟩ : ∃ N, zs.length = N := ⟨_, rfl⟩
  obtain ⟨nl, hnl⟩ : ∃ nl, bl.length = nl := ⟨_, rfl⟩
  have hNs : N ≤ 9223372036854775807 := by rw [← hNN]; unfold maxLen at hcm; omega
  have hnls : nl ≤ 9223372036854775807 := by rw [← hnl]; unfold maxLen at hbm; omega
  have NLC := Lib.hid (show nl ≤ capb by omega)
  rw [hNN, hnl]
  have HN := Lib.hid hNN
  have HNL := Lib.hid hnl
  have t1 : decide (30 < (N : Int)) = false := decide_eq_false (by omega)
  have t1n : decide (30 < N) = false := decide_eq_false (by omega)
  have LG := Lib.hid (fun w R => long_any ao zs cap N 6000 HN.out hNs (by decide) (by decide) w R)
  have HR0 := Lib.hid R0
  have HV := Lib.hid hv
  clear hzc hcm hbc hbm ha hl R0 hv
  go_enter Try.func9, Try.ntmps9
  go_wp2_with fail
  (with_reducible refine (SH.out _).mono ?_)
  rintro e w1 ⟨rfl, h1⟩
  have B1 := Lib.hid h1
  clear h1
  go_wp2_with fail
  (refine (LG.out _ (HR0.out.below B1.out)).mono ?_)
  rintro e w2 ⟨rfl, h2⟩
  rw [HV.out]
  have B2 := Lib.hid (bt B1.out h2)
  clear h2
  go_wp2_with fail
  go_ret
  exact ⟨rfl, B2.out⟩
set_option maxRecDepth 100000 in
set_option maxHeartbeats 8000000 in
theorem walk_main (ao : Option Addr) (cap : Nat) (zs : List ByteArray) (hzc : zs.length ≤ cap) (hcm : cap ≤ maxLen) (a : Int) (ha : (Lit.int .i64 a).wf = true) (bo : Option Addr) (capb : Nat) (bl : List Bool) (hbc : bl.length ≤ capb) (hbm : capb ≤ maxLen) (w : World) (R0 : Strs w ao zs) (R2 : Bls w bo bl) (hl : ¬ 30 < zs.length) (hv : lgV zs 6000 = false) : Calls Try.prog 9 #[.slice ao zs.length cap, .int .i64 a, .slice bo bl.length capb] w fun e w' => e = .returned (.bool true) ∧ Below w.heap.size w w' := by
  have SH := Lib.hid (fun w => shown_any w)
  obtain ⟨N, hNN⟩ : ∃ N, zs.length = N := ⟨_, rfl⟩
  obtain ⟨nl, hnl⟩ : ∃ nl, bl.length = nl := ⟨_, rfl⟩
  have hNs : N ≤ 9223372036854775807 := by rw [← hNN]; unfold maxLen at hcm; omega
  have hnls : nl ≤ 9223372036854775807 := by rw [← hnl]; unfold maxLen at hbm; omega
  have NLC := Lib.hid (show nl ≤ capb by omega)
  rw [hNN, hnl]
  have HN := Lib.hid hNN
  have HNL := Lib.hid hnl
  have t1 : decide (30 < (N : Int)) = false := decide_eq_false (by omega)
  have t1n : decide (30 < N) = false := decide_eq_false (by omega)
  have LG := Lib.hid (fun w R => long_any ao zs cap N 6000 HN.out hNs (by decide) (by decide) w R)
  have NW := Lib.hid (fun w => pnew_any w)
  have TOT := Lib.hid (show lgT zs ≤ 6000 by have := lgT_le zs 6000 (by decide) hv; omega)
  have HR0 := Lib.hid R0
  have HR2 := Lib.hid R2
  have HV := Lib.hid hv
  have PIC := Lib.hid (fun w => pick_any a ha 50 (by decide) (by decide) w)
  obtain ⟨q, hq⟩ : ∃ q : Nat, (a % ((50 : Nat) : Int)).toNat = q := ⟨_, rfl⟩
  have hq1 : q < 50 := by omega
  rw [hq] at PIC
  obtain ⟨mo, hmo⟩ : ∃ mo, 1 + q = mo := ⟨_, rfl⟩
  have HMO := Lib.hid (show 1 ≤ mo ∧ mo ≤ 1024 by omega)
  have HMW := Lib.hid (show IntKind.i64.wrap (1 + (q : Int)) = (mo : Int) by rw [IntKind.wrap_i64]; omega)
  have N30 := Lib.hid (show N ≤ 30 by omega)
  clear hzc hcm hbc hbm ha hl R0 R2 hv hq hq1 hmo
  go_enter Try.func9, Try.ntmps9
  go_wp2_with fail
  (with_reducible refine (SH.out _).mono ?_)
  rintro e w1 ⟨rfl, h1⟩
  have B1 := Lib.hid h1
  clear h1
  go_wp2_with fail
  (refine (LG.out _ (HR0.out.below B1.out)).mono ?_)
  rintro e w2 ⟨rfl, h2⟩
  rw [HV.out]
  have B2 := Lib.hid (bt B1.out h2)
  clear h2
  go_wp2_with fail
  (refine (NW.out _).mono ?_)
  rintro e w3 ⟨j, m, rfl, J3, h3⟩
  have HJ3 := Lib.hid J3
  have B3 := Lib.hid h3
  clear J3 h3
  go_wp2_with fail
  go_loopw [8, 9, 10, 11, 12, 13, 14, 15, 16, 17, 18, 19, 20, 21] (fun x8 x9 x10 x11 x12 x13 x14 x15 x16 x17 x18 x19 x20 x21 wr => ∃ (i c A M W cn : Nat) (bg : Bool) (F : Int → Option Pk.St) (D : DataW Value) (S : Int → Value) (L : List ByteArray), x8 = .int .i64 (c : Nat) ∧ x9 = .int .i64 (A : Nat) ∧ x10 = .int .i64 (M : Nat) ∧ x13 = .bool bg ∧ x14 = .int .i64 (W : Nat) ∧ x15 = .int .i64 (i : Nat) ∧ (F 9).isSome = bg ∧ LoI zs N w2.heap.size j m w2 i c A M W cn F D S x11 x12 L wr) (fun _ _ _ _ _ _ _ x15 _ _ _ _ _ _ _ => N - (intOf x15).toNat)
  case atStart => exact ⟨0, 16380, 0, 0, 0, 0, false, _, _, _, [], rfl, rfl, rfl, rfl, rfl, rfl, rfl, Nat.zero_le _, by decide, by rw [List.drop_zero]; have := TOT.out; omega, Nat.le_refl _, Nat.le_refl _, fun x hx => by (cases hx), .inr rfl, Nat.le_refl _, ⟨HJ3.out, World.ownsRow_nil _ _ _ _, World.ownsRow_nil _ _ _ _, fun k hk => by (cases hk)⟩, B3.out⟩
  case round =>
    obtain ⟨i, c, A, M, W, cn, bg, F, D, S, L, rfl, rfl, rfl, rfl, rfl, rfl, hbg, hI⟩ := hrel
    rename World => wr
    have HIo := Lib.hid hI
    have HBG := Lib.hid hbg
    have ATW := Lib.hid (show Below w.heap.size w wr from B2.out.trans (hI.bl.mono B2.out.size))
    have NBR := Lib.hid (show w2.heap.size ≤ wr.heap.size from hI.bl.size)
    clear hI hbg
    by_cases hlt : i < N
    · obtain ⟨s, hz⟩ : ∃ z, zs[i]? = some z := ⟨zs[i]'(by have := HN.out; omega), List.getElem?_eq_getElem (by have := HN.out; omega)⟩
      rcases HR0.out with e0 | ⟨B, off, rfl, hBl, hz2⟩
      · rw [e0] at hz; cases hz
      have HZ := Lib.hid hz
      have CS := Lib.hid (fun W (b : Below w.heap.size w W) => (b.cell (p := ⟨B, off + i, none⟩) hBl).trans (hz2 i s hz).1)
      have hi0 : (0 : Int) ≤ (i : Int) := by omega
      have hi1 : (i : Int) < (N : Int) := by omega
      obtain ⟨n, hn⟩ : ∃ n, s.size = n := ⟨_, rfl⟩
      have SUM := Lib.hid (show A + n ≤ 6000 by have := lgT_drop zs hz; have := HIo.out.al; omega)
      have CC := Lib.hid (show c ≤ 16383 by have := HIo.out.hc; omega)
      clear hz2 hz
      by_cases n0 : n = 0
      · have SPL := Lib.hid (show ∀ w', Below wr.heap.size wr w' → Calls Try.prog 19 #[.bool true, .int .i64 9, .int .i64 (c : Nat), .string s, .int .i64 (mo : Nat)] w' fun e w2 => ∃ v, e = .returned v ∧ SpV wr.heap.size 0 2 (fun _ => pk0) v w2 ∧ Below w'.heap.size w' w2 from fun w' hb => (psplit_bad true 9 (c : Nat) (mo : Nat) s (fun q => q.2.2.2 (by rw [hn, n0])) w').mono (fun e w2 ⟨g1, g2⟩ => ⟨_, g1, ⟨none, 0, rfl, World.ownsRow_nil _ _ _ _⟩, g2 ▸ Below.refl _ _⟩))
        obtain rfl : s = ⟨#[]⟩ := by
          obtain ⟨⟨l⟩⟩ := s
          have : l.length = 0 := by rw [← n0, ← hn]; rfl
          rw [List.length_eq_zero_iff] at this
          rw [this]
        clear hn n0
        go_upto_region 11 with fail
        refine lsRegion B off N cap i c q mo wr.heap.size 0 a 2 ⟨#[]⟩ (fun _ => pk0) hlt hi0 hi1 HMW.out (Nat.lt_of_lt_of_le hBl ATW.out.size) (CS.out _ ATW.out) (fun w' => (PIC.out w').mono (fun e w2 ⟨g1, g2⟩ => ⟨g1, g2 ▸ Below.refl _ _⟩)) SPL.out (by kernel_rfl) rfl rfl rfl rfl rfl rfl rfl rfl rfl rfl rfl rfl rfl rfl rfl rfl rfl rfl ?_
        intro v47 w5 h5 F5
        obtain ⟨sa, sc, rfl, _⟩ := F5
        simp only [Act.put, List.setIfInBounds_toArray, List.set_cons_succ, List.set_cons_zero, List.drop_succ_cons, List.drop_zero, tup0_mk, tup1_mk]
        have cS := CS.out _ (ATW.out.trans (h5.mono ATW.out.size))
        have B5 := Lib.hid h5
        clear h5
        go_wp2_with fail
        go_roundw
        case rel => exact ⟨i + 1, c, A, M, W, cn, bg, F, D, S, L, rfl, rfl, rfl, rfl, rfl, by go_num, HBG.out, HIo.out.skip HZ.out hlt NBR.out B5.out⟩
        case measure => simp [intOf]; omega
      · obtain ⟨d, hd⟩ : ∃ d, s.data.toList = d := ⟨_, rfl⟩
        have dl : d.length = n := by rw [← hd, ls, hn]
        have BD := Lib.hid (show bs d = s by rw [← hd, bs_self])
        have DL6 := Lib.hid (show d.length ≤ 16384 by have := SUM.out; omega)
        obtain ⟨K, hKK⟩ : ∃ K, Pk.cnt n mo = K := ⟨_, rfl⟩
        have SPL := Lib.hid (show ∀ w', Below wr.heap.size wr w' → Calls Try.prog 19 #[.bool true, .int .i64 9, .int .i64 (c : Nat), .string s, .int .i64 (mo : Nat)] w' fun e w2 => ∃ v, e = .returned v ∧ SpV wr.heap.size K 0 (Pk.cut true 9 (c : Nat) d mo) v w2 ∧ Below w'.heap.size w' w2 from fun w' hb => (psplit_ok true 9 c mo s n hn (by decide) CC.out HMO.out (by omega) (by have := SUM.out; omega) w').mono (fun e w2 ⟨sa, sc, g1, g2, g3⟩ => by
          rw [hKK] at g1 g2
          rw [hd] at g2
          exact ⟨_, g1, ⟨sa, sc, rfl, own_mono g2 hb.size⟩, g3⟩))
        have KC := Lib.hid (show K = Pk.cnt d.length mo by rw [dl, hKK])
        have CL := Lib.hid (show ∀ k, k < K ↔ k * mo < d.length from fun k => by rw [← hKK, dl]; exact Pk.cnt_lt HMO.out.1)
        have KP := Lib.hid (show 0 < K by rw [← hKK]; exact Pk.cnt_pos (by omega) HMO.out.1)
        have KLE0 := Lib.hid (show K ≤ n by rw [← hKK]; exact Pk.cnt_le HMO.out.1)
        have KLE := Lib.hid (show K ≤ s.size by rw [hn]; exact KLE0.out)
        have SUM := Lib.hid (show A + s.size ≤ 6000 by rw [hn]; exact SUM.out)
        have hKs : K ≤ 6000 := by have := KLE.out; have := SUM.out; omega
        have LLN := Lib.hid (show L.length ≤ 1000 by have := HIo.out.ll; have := N30.out; omega)
        clear hn n0 hd dl hKK
        go_upto_region 11 with fail
        refine lsRegion B off N cap i c q mo wr.heap.size K a 0 s (Pk.cut true 9 (c : Nat) d mo) hlt hi0 hi1 HMW.out (Nat.lt_of_lt_of_le hBl ATW.out.size) (CS.out _ ATW.out) (fun w' => (PIC.out w').mono (fun e w2 ⟨g1, g2⟩ => ⟨g1, g2 ▸ Below.refl _ _⟩)) SPL.out (by kernel_rfl) rfl rfl rfl rfl rfl rfl rfl rfl rfl rfl rfl rfl rfl rfl rfl rfl rfl rfl ?_
        intro v47 w5 h5 F5
        obtain ⟨sa, sc, rfl, O5⟩ := F5
        obtain ⟨g, rfl, _, _⟩ := row_some O5 KP.out
        simp only [Act.put, List.setIfInBounds_toArray, List.set_cons_succ, List.set_cons_zero, List.drop_succ_cons, List.drop_zero, tup0_mk, tup1_mk]
        have OA := Lib.hid O5
        have B5 := Lib.hid (show Below w2.heap.size w2 w5 from HIo.out.bl.trans (h5.mono NBR.out))
        have NB5 := Lib.hid (show w2.heap.size ≤ w5.heap.size from Nat.le_trans NBR.out h5.size)
        have AT5 := Lib.hid (fun W (kp : Kp w2.heap.size [5, 9] true w5 W) => (ATW.out.trans (h5.mono ATW.out.size)).trans (kp.below.mono B2.out.size))
        have LO5 := Lib.hid (HIo.out.lo.below h5)
        clear h5 O5
        go_wp2_with fail
        go_loopw [9, 10, 12, 13, 14, 18, 19, 20, 21] (fun x9 x10 x12 x13 x14 x18 x19 x20 x21 wy => ∃ (k A1 M1 W1 cn1 : Nat) (b bg1 : Bool) (F1 : Int → Option Pk.St) (D1 : DataW Value) (S1 : Int → Value) (G : List ByteArray), x9 = .int .i64 (A1 : Nat) ∧ x10 = .int .i64 (M1 : Nat) ∧ x13 = .bool bg1 ∧ x14 = .int .i64 (W1 : Nat) ∧ x18 = .bool b ∧ x19 = .int .i64 (k : Nat) ∧ (F1 9).isSome = bg1 ∧ LoK w2.heap.size j m w5 c mo K A d s u11 L k A1 M1 W1 cn1 b F1 D1 S1 x12 G wy) (fun _ _ _ _ _ _ x19 _ _ _ => K - (intOf x19).toNat)
        case atStart => exact ⟨0, A, M, W, cn, true, bg, F, D, S, L, rfl, rfl, rfl, rfl, rfl, rfl, HBG.out, LoK.start KP.out HIo.out.cl HIo.out.mw HIo.out.nx HIo.out.op LO5.out⟩
        case round =>
          obtain ⟨k, A1, M1, W1, cn1, b, bg1, F1, D1, S1, G, rfl, rfl, rfl, rfl, rfl, rfl, hbg1, hK⟩ := hrel
          rename World => wy
          have HK := Lib.hid hK
          have HBG1 := Lib.hid hbg1
          have HN0 := Lib.hid (show w2.heap.size ≤ wy.heap.size from Nat.le_trans NB5.out hK.kp.below.size)
          have A16 := Lib.hid (show A1 ≤ 6000 by have := hK.ak; have := hK.hk; have := KLE.out; have := SUM.out; omega)
          clear hK hbg1
          by_cases hlk : k < K
          · have HLK := Lib.hid hlk
            have hkn : k * mo < d.length := (CL.out k).1 hlk
            obtain ⟨p, hp⟩ : ∃ p, Pk.cut true 9 (c : Int) d mo k = p := ⟨_, rfl⟩
            obtain ⟨st, pc, hf, a1, a2, a3, a4, a5, a6⟩ := (HK.out.inv hlk).feed (cmd := true) (ap := 9) (HK.out.wlt A16.out) HMO.out.1 DL6.out hkn
            obtain ⟨wh, msg, mi0, br⟩ := pc
            simp only at a1 a2 a3
            rw [hp] at hf
            obtain ⟨mi, hmi⟩ : ∃ mi : Nat, (if (F1 9).isNone = true then 0 else W1) = mi := ⟨_, rfl⟩
            have hmi0 : mi0 = (mi : Int) := by rw [a1, ← hmi]; split <;> rfl
            subst hmi0
            have MIT := Lib.hid (show bg1 = true → mi = W1 from fun e => by
              have := HBG1.out
              rw [e] at this
              rw [← hmi, if_neg (by rw [Option.isNone_iff_eq_none]; intro q; rw [q] at this; cases this)])
            have MIF := Lib.hid (show bg1 = false → mi = 0 from fun e => by
              have := HBG1.out
              rw [e] at this
              rw [← hmi, if_pos (by
                cases hq : F1 9 with
                | none => rfl
                | some y => rw [hq] at this; cases this)])
            have WMI := Lib.hid (show mi ≤ W1 by rw [← hmi]; split <;> omega)
            have A2F := Lib.hid a2
            have A4F := Lib.hid a4
            have A5F := Lib.hid a5
            have A6F := Lib.hid a6
            have pap : p.ap = 9 := by rw [← hp]; rfl
            have PAP := Lib.hid pap
            have FE := Lib.hid (show Pk.feed (F1 p.ap) p = (st, ⟨wh, msg, (mi : Int), br⟩) by rw [pap]; exact hf)
            obtain ⟨M9, hM9⟩ : ∃ M9, bs msg = M9 := ⟨_, rfl⟩
            have MS9 := Lib.hid hM9
            have MS9T := Lib.hid (show wh = true → s = M9 from fun e => by rw [← hM9, a3 e, BD.out])
            have OKP := Lib.hid (show Pk.Ok p by rw [← hp]; exact Pk.cut_ok (by decide) (by have := HMO.out; omega) hkn)
            have HI9 := Lib.hid (show p.ap ≠ 2047 by rw [pap]; decide)
            have RNG := Lib.hid (fun W (kp : Kp w2.heap.size [5, 9] true w5 W) => show W.rangeAt g (k * 5) (pk5 p) by rw [← hp]; exact row_range (kp.own OA.out (by decide)) hlk)
            have CN := Lib.hid (show cn1 < 1000000 by have := HK.out.cl; have := A16.out; omega)
            have GLN := Lib.hid (show G.length ≤ 1000 by
              have e : G = L := by rw [HK.out.gg, if_neg (by omega)]
              rw [e]
              exact LLN.out)
            obtain ⟨A2, hA2⟩ : ∃ A2, A1 + 1 = A2 := ⟨_, rfl⟩
            have HA2 := Lib.hid hA2
            have y1 : IntKind.i64.wrap ((A1 : Int) + 1) = (A2 : Int) := by have := A16.out; rw [IntKind.wrap_i64]; omega
            have y2 : IntKind.i64.wrap ((A2 : Int) - 1) = (A1 : Int) := by have := A16.out; rw [IntKind.wrap_i64]; omega
            obtain ⟨lo, hlo⟩ : ∃ lo, (bl[A1]?).getD false = lo := ⟨_, rfl⟩
            have HLO := Lib.hid hlo
            have kk : (k : Int) < (K : Int) := by omega
            have kk0 : (0 : Int) ≤ (k : Int) := by omega
            clear a1 a2 a3 a4 a5 a6 hf hp pap hmi hM9 hA2 hlo hkn
            go_upto_region 20 with fail
            go_cut [75] from 57 to 117 (fun v wx => v = .bool lo ∧ wx = wy)
            case first =>
              by_cases hA : A1 < nl
              · have q1 : decide ((A2 : Int) ≤ (nl : Int)) = true := decide_eq_true (by have := HA2.out; omega)
                have q1n : decide (A2 ≤ nl) = true := decide_eq_true (by have := HA2.out; omega)
                have q2 : (0 : Int) ≤ (A1 : Int) := by omega
                have q3 : (A1 : Int) < (nl : Int) := by omega
                obtain ⟨z, hz3⟩ : ∃ z, bl[A1]? = some z := ⟨bl[A1]'(by have := HNL.out; omega), List.getElem?_eq_getElem (by have := HNL.out; omega)⟩
                obtain rfl : z = lo := by have := HLO.out; rw [hz3] at this; exact this
                rcases HR2.out with e0 | ⟨B2, off2, rfl, hBl2, hz4⟩
                · rw [e0] at hz3; cases hz3
                have cb : wy.cell? ⟨B2, off2 + A1, none⟩ = some (.bool z) := ((AT5.out _ HK.out.kp).cell (p := ⟨B2, off2 + A1, none⟩) hBl2).trans (hz4 A1 z hz3)
                clear hz4 hz3 hA
                go_wp2_with fail
                go_meet
                case rel => exact ⟨rfl, rfl⟩
              · have q1 : decide ((A2 : Int) ≤ (nl : Int)) = false := decide_eq_false (by have := HA2.out; omega)
                have q1n : decide (A2 ≤ nl) = false := decide_eq_false (by have := HA2.out; omega)
                obtain rfl : false = lo := by have := HLO.out; rw [List.getElem?_eq_none (by have := HNL.out; omega)] at this; exact this
                go_wp2_with fail
                go_meet
                case rel => exact ⟨rfl, rfl⟩
            case rest =>
              obtain ⟨rfl, rfl⟩ := hcut
              cases lo with
              | true =>
                have y3 : IntKind.i64.wrap ((W1 : Int) + 1) = ((W1 + 1 : Nat) : Int) := by have := HK.out.mw; have := A16.out; rw [IntKind.wrap_i64]; omega
                go_wp2_with fail
                go_roundw
                case rel => exact ⟨k + 1, A2, M1, W1 + 1, cn1, false, bg1, F1, D1, S1, G, rfl, rfl, rfl, rfl, rfl, by go_num, HBG1.out, by rw [← HA2.out]; exact HK.out.lose HLK.out⟩
                case measure => simp [intOf]; have := HLK.out; omega
              | false =>
                go_wp2_with (refine wpList_load_mid rfl 23 (.tmp 82) rfl g (k * 5) rfl [.bool p.cmd, .int .i64 p.ap, .int .i64 p.fl, .int .i64 p.ct, .string p.da] _ (RNG.out _ HK.out.kp) Try.underlying23 rfl info_pk ?_)
                (refine (pfeed_ok HK.out.lo.pj HN0.out CN.out p OKP.out HI9.out).mono ?_)
                rintro e w6 ⟨D6, S6, he, hJ6, hK6⟩
                rw [FE.out] at he hJ6
                have he : e = .returned (.tuple #[.agg #[.bool wh, .string (bs msg), .int .i64 (mi : Nat), .bool br], .int .i64 0]) := he
                rw [MS9.out] at he
                subst he
                have J6 := Lib.hid (show PJ w6 w2.heap.size j m (cn1 + 1) (upd F1 9 (some st)) D6 S6 from by rw [← PAP.out]; exact hJ6)
                have K6 := Lib.hid hK6
                clear hJ6 hK6
                go_upto_region 24 with (first
                  | (refine wpList_newT rfl (.alloc 52) rfl (some 20) rfl #[.bool false, .string ⟨#[]⟩, .int .i64 0, .bool false] 52 (fun X => .pointer (some ⟨X, 0, none⟩)) 4 (pcC false ⟨#[]⟩ 0 false) (pc_cells false ⟨#[]⟩ 0 false) (alloc_piece rfl) ?_; intro P9 w7 HP9 Sw7 CP9 Bw7 YP9)
                  | (refine wpList_setAllT rfl 52 (.tmp 20) (.tmp 85) rfl P9 4 [.bool wh, .string M9, .int .i64 (mi : Nat), .bool br] _ (pcC wh M9 (mi : Nat) br) CP9.out rfl (fun j hj => by match j, hj with | 0, _ => rfl | 1, _ => rfl | 2, _ => rfl | 3, _ => rfl) rfl rfl pc_info (by simp [Value.oneCell']) ?_; intro w8 C8 U8 S8 V8; have B8 := Lib.hid (But.under Bw7.out U8.out (by have := HP9.out; omega)); have x0 : w8.cell? ⟨P9, 0, none⟩ = some (.bool wh) := C8.out.cell (j := 0) (by omega); have x1 : w8.cell? ⟨P9, 1, none⟩ = some (.string M9) := C8.out.cell (j := 1) (by omega); have x2 : w8.cell? ⟨P9, 2, none⟩ = some (.int .i64 (mi : Nat)) := C8.out.cell (j := 2) (by omega); have x3 : w8.cell? ⟨P9, 3, none⟩ = some (.bool br) := C8.out.cell (j := 3) (by omega)))
                go_cut [106] from 57 to 117 (fun v wx => v = .bool false ∧ wx = w8)
                case first =>
                  cases bg1 with
                  | true =>
                    have z1 : ((mi : Int) != (W1 : Int)) = false := by have := MIT.out rfl; simp; omega
                    go_wp2_with fail
                    go_meet
                    case rel => exact ⟨rfl, rfl⟩
                  | false =>
                    have z1 : ((mi : Int) != 0) = false := by have := MIF.out rfl; simp; omega
                    go_wp2_with fail
                    go_meet
                    case rel => exact ⟨rfl, rfl⟩
                case rest =>
                  obtain ⟨rfl, rfl⟩ := hcut
                  have FD := Lib.hid (HK.out.fed HLK.out HN0.out KC.out HMO.out.1 WMI.out A2F.out A4F.out A5F.out A6F.out J6.out K6.out B8.out)
                  obtain ⟨M2, hM2⟩ : ∃ M2, M1 + mi = M2 := ⟨_, rfl⟩
                  have z2 : IntKind.i64.wrap ((M1 : Int) + (mi : Int)) = (M2 : Int) := by have := HK.out.mw; have := WMI.out; have := A16.out; rw [IntKind.wrap_i64]; omega
                  have SU : ((upd F1 9 (some st)) 9).isSome = true := by rw [upd_same]; rfl
                  rw [hM2] at FD
                  clear hM2
                  cases wh with
                  | false =>
                    go_wp2_with fail
                    go_roundw
                    case rel => exact ⟨k + 1, A2, M2, 0, cn1 + 1, b, true, _, D6, S6, G, rfl, rfl, rfl, rfl, rfl, by go_num, SU, by rw [← HA2.out]; exact FD.out.1 rfl⟩
                    case measure => simp [intOf]; have := HLK.out; omega
                  | true =>
                    have MS := MS9T.out rfl
                    subst MS
                    have gl : G.length ≤ 1000 := GLN.out
                    obtain ⟨i0, hi0, hz0, hz1, hz2⟩ := info_parts info_str
                    go_wp2_with (at_builtin; refine wpList_append_own2 rfl _ _ 60 rfl w2.heap.size 9 i0 (.string ⟨#[]⟩) 1 16 Try.underlying60 hi0 hz0 hz1 hz2 rfl (by decide) _ _ _ rfl (own_below (FD.out.2 rfl).1.go (ba (Below.refl _ _) _)) ⟨wc.heap.size, 0, none⟩ 1 1 [.string s] rfl rfl cell_one (by simp [Value.oneCell']) (by unfold maxLen; omega) (by omega) (Nat.le_trans (Nat.le_trans (Nat.le_trans HN0.out K6.out.below.size) B8.out.size) (ba (Below.refl _ _) _).size) ?_; intro v9 w9 hown2 hgrow hlie; have FG := Lib.hid ((FD.out.2 rfl).1.got_app (Nat.le_trans (Nat.le_trans HN0.out K6.out.below.size) B8.out.size) hgrow hown2 hlie); clear hown2 hgrow hlie)
                    go_roundw
                    case rel => exact ⟨k + 1, A2, M2, 0, cn1 + 1, b, true, _, D6, S6, G ++ [s], rfl, rfl, rfl, rfl, rfl, by go_num, SU, by rw [← HA2.out]; exact (FD.out.2 rfl).2 _ _ FG.out.1 FG.out.2⟩
                    case measure => simp [intOf]; have := HLK.out; omega
          · obtain rfl : K = k := by have := HK.out.hk; omega
            obtain ⟨cK, hcK⟩ : ∃ cK, c + K = cK := ⟨_, rfl⟩
            obtain ⟨c2, hc2⟩ : ∃ c2, cK % 16384 = c2 := ⟨_, rfl⟩
            have HC2 := Lib.hid (show (c + K) % 16384 = c2 by rw [hcK, hc2])
            have y1 : IntKind.i64.wrap ((c : Int) + (K : Int)) = (cK : Int) := by have := HIo.out.hc; have := KLE.out; have := SUM.out; rw [IntKind.wrap_i64]; omega
            have y2 : ((cK : Nat) : Int) % 16384 = (c2 : Int) := by omega
            have y3 : ((cK : Nat) : Int).tmod 16384 = (c2 : Int) := by rw [Int.tmod_eq_emod_of_nonneg (by omega)]; omega
            have y4 : IntKind.i64.wrap (c2 : Int) = (c2 : Int) := by rw [IntKind.wrap_i64]; omega
            clear hcK hc2
            cases b with
            | true =>
              have CSW := CS.out _ (AT5.out _ HK.out.kp)
              obtain ⟨i0, hi0, hz0, hz1, hz2⟩ := info_parts info_str
              have ll : L.length ≤ 1000 := LLN.out
              have GG : G = L ++ [s] := by rw [HK.out.gg, if_pos ⟨rfl, rfl⟩]
              subst GG
              go_wp2_with (at_builtin; refine wpList_append_own2 rfl _ _ 60 rfl w2.heap.size 9 i0 (.string ⟨#[]⟩) 1 16 Try.underlying60 hi0 hz0 hz1 hz2 rfl (by decide) _ _ _ rfl (own_below HK.out.lo.wa (ba (Below.refl _ _) _)) ⟨wy.heap.size, 0, none⟩ 1 1 [.string s] rfl rfl cell_one (by simp [Value.oneCell']) (by unfold maxLen; omega) (by omega) (Nat.le_trans HN0.out (ba (Below.refl _ _) _).size) ?_; intro v9 w9 hown2 hgrow hlie; have FW := Lib.hid (HK.out.lo.want_app HN0.out hgrow hown2 hlie); clear hown2 hgrow hlie)
              go_roundw
              case rel => exact ⟨i + 1, c2, A1, M1, W1, cn1, bg1, F1, D1, S1, L ++ [s], rfl, rfl, rfl, rfl, rfl, by go_num, HBG1.out, by rw [← HC2.out]; exact HK.out.fin HIo.out HZ.out hlt KLE.out B5.out (by simp) FW.out.1 FW.out.2.below⟩
              case measure => simp [intOf]; omega
            | false =>
              have GG : G = L := by rw [HK.out.gg, if_neg (by simp)]
              subst GG
              go_wp2_with fail
              go_roundw
              case rel => exact ⟨i + 1, c2, A1, M1, W1, cn1, bg1, F1, D1, S1, G, rfl, rfl, rfl, rfl, rfl, by go_num, HBG1.out, by rw [← HC2.out]; exact HK.out.fin HIo.out HZ.out hlt KLE.out B5.out (by omega) HK.out.lo (Below.refl _ _)⟩
              case measure => simp [intOf]; omega
    · obtain rfl : N = i := by have := HIo.out.hi; omega
      have z1 : decide ((M : Int) ≤ (A : Int)) = true := decide_eq_true (by have := HIo.out.mw; omega)
      have z1n : decide (M ≤ A) = true := decide_eq_true (by have := HIo.out.mw; omega)
      obtain ⟨aw, cw, rfl⟩ := own_is HIo.out.lo.wa
      obtain ⟨ag, cg, rfl⟩ := own_is HIo.out.lo.go
      have LL := Lib.hid (show L.length ≤ 1000000 by have := HIo.out.ll; have := N30.out; omega)
      go_wp2_with fail
      (refine (sameStrings_any ag aw L.length cg cw _ _ L rfl LL.out _ HIo.out.lo.go HIo.out.lo.wa).mono ?_)
      rintro e w6 ⟨rfl, h6⟩
      have B6 := Lib.hid (ATW.out.trans (h6.mono ATW.out.size))
      clear h6
      go_wp2_with fail
      go_ret
      exact ⟨rfl, B6.out⟩
end packetLosses
end Go.Proofs.Ytphkaambodecdaa
