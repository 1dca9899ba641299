/- Layer 9, the landed program: Split. -/
import Derived.Test.YtphkaambodecdaaPpTake
import Derived.Test.YtphkaambodecdaaPkSplit
namespace Go.Proofs.Ytphkaambodecdaa
open Go.RowKit
set_option linter.unusedVariables false
set_option maxRecDepth 100000

theorem flagsOf_true_true (w : World) : Calls Try.prog 41 #[.bool true, .bool true] w fun e w' => e = .returned (.int .i64 3) ∧ Below w.heap.size w w' := by
  go_enter Try.func41, Try.ntmps41
  go_wp2_with fail
  go_ret
  exact ⟨rfl, Below.refl _ _⟩
theorem flagsOf_true_false (w : World) : Calls Try.prog 41 #[.bool true, .bool false] w fun e w' => e = .returned (.int .i64 1) ∧ Below w.heap.size w w' := by
  go_enter Try.func41, Try.ntmps41
  go_wp2_with fail
  go_ret
  exact ⟨rfl, Below.refl _ _⟩
theorem flagsOf_false_true (w : World) : Calls Try.prog 41 #[.bool false, .bool true] w fun e w' => e = .returned (.int .i64 2) ∧ Below w.heap.size w w' := by
  go_enter Try.func41, Try.ntmps41
  go_wp2_with fail
  go_ret
  exact ⟨rfl, Below.refl _ _⟩
theorem flagsOf_false_false (w : World) : Calls Try.prog 41 #[.bool false, .bool false] w fun e w' => e = .returned (.int .i64 0) ∧ Below w.heap.size w w' := by
  go_enter Try.func41, Try.ntmps41
  go_wp2_with fail
  go_ret
  exact ⟨rfl, Below.refl _ _⟩
theorem flagsOf_fl (b1 b2 : Bool) (fl : Int) (h : (if b1 = true then (1 : Int) else 0) + (if b2 = true then 2 else 0) = fl) (w : World) : Calls Try.prog 41 #[.bool b1, .bool b2] w fun e w' => e = .returned (.int .i64 fl) ∧ Below w.heap.size w w' := by
  subst h
  cases b1 <;> cases b2
  · exact flagsOf_false_false w
  · exact flagsOf_false_true w
  · exact flagsOf_true_false w
  · exact flagsOf_true_true w
/-- A slice of one packet, made anew. -/
def PkS (n0 : Nat) (p : Pkt) (v : Value) (w : World) : Prop := ∃ B, v = .slice (some ⟨B, 0, none⟩) 1 1 ∧ n0 ≤ B ∧ Cel w B 5 (pkCel p)
theorem PkS.mono {n0 : Nat} {p : Pkt} {v : Value} {w w' : World} (h : PkS n0 p v w) (hb : Below w.heap.size w w') : PkS n0 p v w' := by
  obtain ⟨B, e, h1, h2⟩ := h
  exact ⟨B, e, h1, h2.below hb⟩
theorem pks_new {n0 : Nat} {p : Pkt} (w : World) (h : n0 ≤ w.heap.size) : PkS n0 p (.slice (some ⟨w.heap.size, 0, none⟩) 1 1) (w.alloc (.cells #[.bool p.cmd, .int .i64 p.ap, .int .i64 p.fl, .int .i64 p.ct, .string p.da] 23)) := ⟨_, rfl, h, pk_new p w⟩
structure SpRegion (k sc p q n c n0 : Nat) (sa : Option Addr) (cmd b1 b2 : Bool) (ap fl : Int) (tx da : ByteArray) (A : Act) (w0 : World) (s : Nat → Bool) (a : Act) (w : World) : Prop where
  off : Off [52, 53, 54, 55, 56, 57, 58, 59, 60, 61, 62, 63, 64, 65, 66, 67, 68, 69] a A
  before : Below w0.heap.size w0 w
  t0 : s 0 = true → a.eval (.tmp 52) = .slice sa k sc
  t1 : s 1 = true → a.eval (.tmp 53) = .bool cmd
  t2 : s 2 = true → a.eval (.tmp 54) = .int .i64 ap
  t3 : s 3 = true → a.eval (.tmp 55) = .int .i64 (p : Nat)
  t4 : s 4 = true → a.eval (.tmp 56) = .bool b1
  t5 : s 5 = true → a.eval (.tmp 57) = .int .i64 (q : Nat)
  t6 : s 6 = true → a.eval (.tmp 58) = .string tx
  t7 : s 7 = true → a.eval (.tmp 59) = .int .i64 (n : Nat)
  t8 : s 8 = true → a.eval (.tmp 60) = .bool b2
  t9 : s 9 = true → a.eval (.tmp 61) = .int .i64 fl
  t10 : s 10 = true → a.eval (.tmp 62) = .int .i64 (c : Nat)
  t11 : s 11 = true → a.eval (.tmp 63) = .string tx
  t12 : s 12 = true → a.eval (.tmp 64) = .int .i64 (p : Nat)
  t13 : s 13 = true → a.eval (.tmp 65) = .int .i64 (q : Nat)
  t14 : s 14 = true → a.eval (.tmp 66) = .string da
  t15 : s 15 = true → a.eval (.tmp 67) = .string da
  t16 : s 16 = true → a.eval (.tmp 68) = .agg #[.bool cmd, .int .i64 ap, .int .i64 fl, .int .i64 (c : Nat), .string da]
  t17 : s 17 = true → ∃ v17, a.eval (.tmp 69) = v17 ∧ PkS n0 ⟨cmd, ap, fl, (c : Nat), da⟩ v17 w
set_option maxHeartbeats 2000000 in
set_option maxRecDepth 100000 in
theorem spRegion {id : Nat} {l : List Oper} {A : Act} {w : World} {Q : Exit → Act → World → Prop} (k sc p q n c n0 : Nat) (sa : Option Addr) (cmd b1 b2 : Bool) (ap fl : Int) (tx da : ByteArray)
    (hn : tx.size = n) (hpq : p ≤ q) (hq : q ≤ n) (hb1 : ((p : Int) == 0) = b1) (hb2 : ((q : Int) == (n : Int)) = b2) (hfl : (if b1 = true then (1 : Int) else 0) + (if b2 = true then 2 else 0) = fl) (hda : ∀ w, (Instr.slice 9 (.string tx) (some (.int .i64 (p : Nat))) (some (.int .i64 (q : Nat))) none).run Try.prog w = .ok (.string da) w) (hds : da.size ≤ 1000000) (hn0 : n0 ≤ w.heap.size)
    (hB : tableH l.toArray 18 (fun i => match i with | 0 => [] | 1 => [] | 2 => [] | 3 => [] | 4 => [3] | 5 => [] | 6 => [] | 7 => [6] | 8 => [5, 7] | 9 => [4, 8] | 10 => [] | 11 => [] | 12 => [] | 13 => [] | 14 => [11, 12, 13] | 15 => [14] | 16 => [1, 2, 9, 10, 15] | 17 => [16] | _ => []) (fun _ => []) = true)
    (h0 : pick l 0 = some (.move (.tmp 12), some 52))
    (h1 : pick l 1 = some (.move (.tmp 0), some 53))
    (h2 : pick l 2 = some (.move (.tmp 1), some 54))
    (h3 : pick l 3 = some (.move (.tmp 13), some 55))
    (h4 : pick l 4 = some (.binOp .eql 3 (.tmp 55) (.const (.int .i64 0)) 3, some 56))
    (h5 : pick l 5 = some (.move (.tmp 14), some 57))
    (h6 : pick l 6 = some (.move (.tmp 3), some 58))
    (h7 : pick l 7 = some (.call { callee := .builtin .len, args := #[.tmp 58], argTypes := #[9] }, some 59))
    (h8 : pick l 8 = some (.binOp .eql 3 (.tmp 57) (.tmp 59) 3, some 60))
    (h9 : pick l 9 = some (.call { callee := .value (.func 41), args := #[.tmp 56, .tmp 60], argTypes := #[4, 4] }, some 61))
    (h10 : pick l 10 = some (.move (.tmp 2), some 62))
    (h11 : pick l 11 = some (.move (.tmp 3), some 63))
    (h12 : pick l 12 = some (.move (.tmp 13), some 64))
    (h13 : pick l 13 = some (.move (.tmp 14), some 65))
    (h14 : pick l 14 = some (.slice 9 (.tmp 63) (some (.tmp 64)) (some (.tmp 65)) none, some 66))
    (h15 : pick l 15 = some (.call { callee := .value (.func 40), args := #[.tmp 66], argTypes := #[9] }, some 67))
    (h16 : pick l 16 = some (.build 23 #[(0, .tmp 53), (1, .tmp 54), (2, .tmp 61), (3, .tmp 62), (4, .tmp 67)], some 68))
    (h17 : pick l 17 = some (.buildSlice 36 1 #[(0, .tmp 68)], some 69))
    (hs : A.tmps.size = 74)
    (x0 : A.eval (.tmp 0) = .bool cmd)
    (x1 : A.eval (.tmp 1) = .int .i64 ap)
    (x2 : A.eval (.tmp 2) = .int .i64 (c : Nat))
    (x3 : A.eval (.tmp 3) = .string tx)
    (x12 : A.eval (.tmp 12) = .slice sa k sc)
    (x13 : A.eval (.tmp 13) = .int .i64 (p : Nat))
    (x14 : A.eval (.tmp 14) = .int .i64 (q : Nat))
    (h : ∀ v17 w1, Below w.heap.size w w1 → PkS n0 ⟨cmd, ap, fl, (c : Nat), da⟩ v17 w1 → wpList Try.prog l.toArray Q (l.drop 18) ((((((((((((((((((A.put (some 52) (.slice sa k sc)).put (some 53) (.bool cmd)).put (some 54) (.int .i64 ap)).put (some 55) (.int .i64 (p : Nat))).put (some 56) (.bool b1)).put (some 57) (.int .i64 (q : Nat))).put (some 58) (.string tx)).put (some 59) (.int .i64 (n : Nat))).put (some 60) (.bool b2)).put (some 61) (.int .i64 fl)).put (some 62) (.int .i64 (c : Nat))).put (some 63) (.string tx)).put (some 64) (.int .i64 (p : Nat))).put (some 65) (.int .i64 (q : Nat))).put (some 66) (.string da)).put (some 67) (.string da)).put (some 68) (.agg #[.bool cmd, .int .i64 ap, .int .i64 fl, .int .i64 (c : Nat), .string da])).put (some 69) (v17)) w1) :
    (Code.region id l.toArray true).wp Try.prog Q A w := by
  refine wp_region_head (by kernel_rfl) _ _ _ hB (SpRegion k sc p q n c n0 sa cmd b1 b2 ap fl tx da A w) ⟨Off.refl _ _, (Below.refl _ _).drew, by simp, by simp, by simp, by simp, by simp, by simp, by simp, by simp, by simp, by simp, by simp, by simp, by simp, by simp, by simp, by simp, by simp, by simp⟩ ?_ ?_
  · intro s a w' S i' o il ho hsi hT K hK
    have sz : a.tmps.size = 74 := by rw [S.off.2.1]; exact hs
    have y0 : a.eval (.tmp 0) = .bool cmd := by rw [S.off.eval (by decide)]; exact x0
    have y1 : a.eval (.tmp 1) = .int .i64 ap := by rw [S.off.eval (by decide)]; exact x1
    have y2 : a.eval (.tmp 2) = .int .i64 (c : Nat) := by rw [S.off.eval (by decide)]; exact x2
    have y3 : a.eval (.tmp 3) = .string tx := by rw [S.off.eval (by decide)]; exact x3
    have y12 : a.eval (.tmp 12) = .slice sa k sc := by rw [S.off.eval (by decide)]; exact x12
    have y13 : a.eval (.tmp 13) = .int .i64 (p : Nat) := by rw [S.off.eval (by decide)]; exact x13
    have y14 : a.eval (.tmp 14) = .int .i64 (q : Nat) := by rw [S.off.eval (by decide)]; exact x14
    match i', il, ho, hsi, hT with
    | 0, _, ho, hsi, hT =>
      obtain ⟨e1, e2⟩ := pick_of h0 ho
      have BW := S.before
      refine step_val (v := .slice sa k sc) (by simp only [execOp, e1, y12]; go_simp) (hK _ _ ?_)
      rw [e2]
      exact ⟨S.off.put (by decide) _, S.before, fun _ => (eval_put _ _ _ (by omega)).trans rfl, fun g => by rw [eval_put_ne _ _ _ _ (by decide)]; exact S.t1 (by simpa using g), fun g => by rw [eval_put_ne _ _ _ _ (by decide)]; exact S.t2 (by simpa using g), fun g => by rw [eval_put_ne _ _ _ _ (by decide)]; exact S.t3 (by simpa using g), fun g => by rw [eval_put_ne _ _ _ _ (by decide)]; exact S.t4 (by simpa using g), fun g => by rw [eval_put_ne _ _ _ _ (by decide)]; exact S.t5 (by simpa using g), fun g => by rw [eval_put_ne _ _ _ _ (by decide)]; exact S.t6 (by simpa using g), fun g => by rw [eval_put_ne _ _ _ _ (by decide)]; exact S.t7 (by simpa using g), fun g => by rw [eval_put_ne _ _ _ _ (by decide)]; exact S.t8 (by simpa using g), fun g => by rw [eval_put_ne _ _ _ _ (by decide)]; exact S.t9 (by simpa using g), fun g => by rw [eval_put_ne _ _ _ _ (by decide)]; exact S.t10 (by simpa using g), fun g => by rw [eval_put_ne _ _ _ _ (by decide)]; exact S.t11 (by simpa using g), fun g => by rw [eval_put_ne _ _ _ _ (by decide)]; exact S.t12 (by simpa using g), fun g => by rw [eval_put_ne _ _ _ _ (by decide)]; exact S.t13 (by simpa using g), fun g => by rw [eval_put_ne _ _ _ _ (by decide)]; exact S.t14 (by simpa using g), fun g => by rw [eval_put_ne _ _ _ _ (by decide)]; exact S.t15 (by simpa using g), fun g => by rw [eval_put_ne _ _ _ _ (by decide)]; exact S.t16 (by simpa using g), fun g => (S.t17 (by simpa using g)).imp fun b hb => ⟨by rw [eval_put_ne _ _ _ _ (by decide)]; exact hb.1, hb.2⟩⟩
    | 1, _, ho, hsi, hT =>
      obtain ⟨e1, e2⟩ := pick_of h1 ho
      have BW := S.before
      refine step_val (v := .bool cmd) (by simp only [execOp, e1, y0]; go_simp) (hK _ _ ?_)
      rw [e2]
      exact ⟨S.off.put (by decide) _, S.before, fun g => by rw [eval_put_ne _ _ _ _ (by decide)]; exact S.t0 (by simpa using g), fun _ => (eval_put _ _ _ (by omega)).trans rfl, fun g => by rw [eval_put_ne _ _ _ _ (by decide)]; exact S.t2 (by simpa using g), fun g => by rw [eval_put_ne _ _ _ _ (by decide)]; exact S.t3 (by simpa using g), fun g => by rw [eval_put_ne _ _ _ _ (by decide)]; exact S.t4 (by simpa using g), fun g => by rw [eval_put_ne _ _ _ _ (by decide)]; exact S.t5 (by simpa using g), fun g => by rw [eval_put_ne _ _ _ _ (by decide)]; exact S.t6 (by simpa using g), fun g => by rw [eval_put_ne _ _ _ _ (by decide)]; exact S.t7 (by simpa using g), fun g => by rw [eval_put_ne _ _ _ _ (by decide)]; exact S.t8 (by simpa using g), fun g => by rw [eval_put_ne _ _ _ _ (by decide)]; exact S.t9 (by simpa using g), fun g => by rw [eval_put_ne _ _ _ _ (by decide)]; exact S.t10 (by simpa using g), fun g => by rw [eval_put_ne _ _ _ _ (by decide)]; exact S.t11 (by simpa using g), fun g => by rw [eval_put_ne _ _ _ _ (by decide)]; exact S.t12 (by simpa using g), fun g => by rw [eval_put_ne _ _ _ _ (by decide)]; exact S.t13 (by simpa using g), fun g => by rw [eval_put_ne _ _ _ _ (by decide)]; exact S.t14 (by simpa using g), fun g => by rw [eval_put_ne _ _ _ _ (by decide)]; exact S.t15 (by simpa using g), fun g => by rw [eval_put_ne _ _ _ _ (by decide)]; exact S.t16 (by simpa using g), fun g => (S.t17 (by simpa using g)).imp fun b hb => ⟨by rw [eval_put_ne _ _ _ _ (by decide)]; exact hb.1, hb.2⟩⟩
    | 2, _, ho, hsi, hT =>
      obtain ⟨e1, e2⟩ := pick_of h2 ho
      have BW := S.before
      refine step_val (v := .int .i64 ap) (by simp only [execOp, e1, y1]; go_simp) (hK _ _ ?_)
      rw [e2]
      exact ⟨S.off.put (by decide) _, S.before, fun g => by rw [eval_put_ne _ _ _ _ (by decide)]; exact S.t0 (by simpa using g), fun g => by rw [eval_put_ne _ _ _ _ (by decide)]; exact S.t1 (by simpa using g), fun _ => (eval_put _ _ _ (by omega)).trans rfl, fun g => by rw [eval_put_ne _ _ _ _ (by decide)]; exact S.t3 (by simpa using g), fun g => by rw [eval_put_ne _ _ _ _ (by decide)]; exact S.t4 (by simpa using g), fun g => by rw [eval_put_ne _ _ _ _ (by decide)]; exact S.t5 (by simpa using g), fun g => by rw [eval_put_ne _ _ _ _ (by decide)]; exact S.t6 (by simpa using g), fun g => by rw [eval_put_ne _ _ _ _ (by decide)]; exact S.t7 (by simpa using g), fun g => by rw [eval_put_ne _ _ _ _ (by decide)]; exact S.t8 (by simpa using g), fun g => by rw [eval_put_ne _ _ _ _ (by decide)]; exact S.t9 (by simpa using g), fun g => by rw [eval_put_ne _ _ _ _ (by decide)]; exact S.t10 (by simpa using g), fun g => by rw [eval_put_ne _ _ _ _ (by decide)]; exact S.t11 (by simpa using g), fun g => by rw [eval_put_ne _ _ _ _ (by decide)]; exact S.t12 (by simpa using g), fun g => by rw [eval_put_ne _ _ _ _ (by decide)]; exact S.t13 (by simpa using g), fun g => by rw [eval_put_ne _ _ _ _ (by decide)]; exact S.t14 (by simpa using g), fun g => by rw [eval_put_ne _ _ _ _ (by decide)]; exact S.t15 (by simpa using g), fun g => by rw [eval_put_ne _ _ _ _ (by decide)]; exact S.t16 (by simpa using g), fun g => (S.t17 (by simpa using g)).imp fun b hb => ⟨by rw [eval_put_ne _ _ _ _ (by decide)]; exact hb.1, hb.2⟩⟩
    | 3, _, ho, hsi, hT =>
      obtain ⟨e1, e2⟩ := pick_of h3 ho
      have BW := S.before
      refine step_val (v := .int .i64 (p : Nat)) (by simp only [execOp, e1, y13]; go_simp) (hK _ _ ?_)
      rw [e2]
      exact ⟨S.off.put (by decide) _, S.before, fun g => by rw [eval_put_ne _ _ _ _ (by decide)]; exact S.t0 (by simpa using g), fun g => by rw [eval_put_ne _ _ _ _ (by decide)]; exact S.t1 (by simpa using g), fun g => by rw [eval_put_ne _ _ _ _ (by decide)]; exact S.t2 (by simpa using g), fun _ => (eval_put _ _ _ (by omega)).trans rfl, fun g => by rw [eval_put_ne _ _ _ _ (by decide)]; exact S.t4 (by simpa using g), fun g => by rw [eval_put_ne _ _ _ _ (by decide)]; exact S.t5 (by simpa using g), fun g => by rw [eval_put_ne _ _ _ _ (by decide)]; exact S.t6 (by simpa using g), fun g => by rw [eval_put_ne _ _ _ _ (by decide)]; exact S.t7 (by simpa using g), fun g => by rw [eval_put_ne _ _ _ _ (by decide)]; exact S.t8 (by simpa using g), fun g => by rw [eval_put_ne _ _ _ _ (by decide)]; exact S.t9 (by simpa using g), fun g => by rw [eval_put_ne _ _ _ _ (by decide)]; exact S.t10 (by simpa using g), fun g => by rw [eval_put_ne _ _ _ _ (by decide)]; exact S.t11 (by simpa using g), fun g => by rw [eval_put_ne _ _ _ _ (by decide)]; exact S.t12 (by simpa using g), fun g => by rw [eval_put_ne _ _ _ _ (by decide)]; exact S.t13 (by simpa using g), fun g => by rw [eval_put_ne _ _ _ _ (by decide)]; exact S.t14 (by simpa using g), fun g => by rw [eval_put_ne _ _ _ _ (by decide)]; exact S.t15 (by simpa using g), fun g => by rw [eval_put_ne _ _ _ _ (by decide)]; exact S.t16 (by simpa using g), fun g => (S.t17 (by simpa using g)).imp fun b hb => ⟨by rw [eval_put_ne _ _ _ _ (by decide)]; exact hb.1, hb.2⟩⟩
    | 4, _, ho, hsi, hT =>
      obtain ⟨e1, e2⟩ := pick_of h4 ho
      have D3 : s 3 = true := list_pos hT (d := 3) (by decide)
      have BW := S.before
      refine step_val (v := .bool b1) (by simp only [execOp, e1, S.t3 D3]; go_simp) (hK _ _ ?_)
      rw [e2]
      exact ⟨S.off.put (by decide) _, S.before, fun g => by rw [eval_put_ne _ _ _ _ (by decide)]; exact S.t0 (by simpa using g), fun g => by rw [eval_put_ne _ _ _ _ (by decide)]; exact S.t1 (by simpa using g), fun g => by rw [eval_put_ne _ _ _ _ (by decide)]; exact S.t2 (by simpa using g), fun g => by rw [eval_put_ne _ _ _ _ (by decide)]; exact S.t3 (by simpa using g), fun _ => (eval_put _ _ _ (by omega)).trans rfl, fun g => by rw [eval_put_ne _ _ _ _ (by decide)]; exact S.t5 (by simpa using g), fun g => by rw [eval_put_ne _ _ _ _ (by decide)]; exact S.t6 (by simpa using g), fun g => by rw [eval_put_ne _ _ _ _ (by decide)]; exact S.t7 (by simpa using g), fun g => by rw [eval_put_ne _ _ _ _ (by decide)]; exact S.t8 (by simpa using g), fun g => by rw [eval_put_ne _ _ _ _ (by decide)]; exact S.t9 (by simpa using g), fun g => by rw [eval_put_ne _ _ _ _ (by decide)]; exact S.t10 (by simpa using g), fun g => by rw [eval_put_ne _ _ _ _ (by decide)]; exact S.t11 (by simpa using g), fun g => by rw [eval_put_ne _ _ _ _ (by decide)]; exact S.t12 (by simpa using g), fun g => by rw [eval_put_ne _ _ _ _ (by decide)]; exact S.t13 (by simpa using g), fun g => by rw [eval_put_ne _ _ _ _ (by decide)]; exact S.t14 (by simpa using g), fun g => by rw [eval_put_ne _ _ _ _ (by decide)]; exact S.t15 (by simpa using g), fun g => by rw [eval_put_ne _ _ _ _ (by decide)]; exact S.t16 (by simpa using g), fun g => (S.t17 (by simpa using g)).imp fun b hb => ⟨by rw [eval_put_ne _ _ _ _ (by decide)]; exact hb.1, hb.2⟩⟩
    | 5, _, ho, hsi, hT =>
      obtain ⟨e1, e2⟩ := pick_of h5 ho
      have BW := S.before
      refine step_val (v := .int .i64 (q : Nat)) (by simp only [execOp, e1, y14]; go_simp) (hK _ _ ?_)
      rw [e2]
      exact ⟨S.off.put (by decide) _, S.before, fun g => by rw [eval_put_ne _ _ _ _ (by decide)]; exact S.t0 (by simpa using g), fun g => by rw [eval_put_ne _ _ _ _ (by decide)]; exact S.t1 (by simpa using g), fun g => by rw [eval_put_ne _ _ _ _ (by decide)]; exact S.t2 (by simpa using g), fun g => by rw [eval_put_ne _ _ _ _ (by decide)]; exact S.t3 (by simpa using g), fun g => by rw [eval_put_ne _ _ _ _ (by decide)]; exact S.t4 (by simpa using g), fun _ => (eval_put _ _ _ (by omega)).trans rfl, fun g => by rw [eval_put_ne _ _ _ _ (by decide)]; exact S.t6 (by simpa using g), fun g => by rw [eval_put_ne _ _ _ _ (by decide)]; exact S.t7 (by simpa using g), fun g => by rw [eval_put_ne _ _ _ _ (by decide)]; exact S.t8 (by simpa using g), fun g => by rw [eval_put_ne _ _ _ _ (by decide)]; exact S.t9 (by simpa using g), fun g => by rw [eval_put_ne _ _ _ _ (by decide)]; exact S.t10 (by simpa using g), fun g => by rw [eval_put_ne _ _ _ _ (by decide)]; exact S.t11 (by simpa using g), fun g => by rw [eval_put_ne _ _ _ _ (by decide)]; exact S.t12 (by simpa using g), fun g => by rw [eval_put_ne _ _ _ _ (by decide)]; exact S.t13 (by simpa using g), fun g => by rw [eval_put_ne _ _ _ _ (by decide)]; exact S.t14 (by simpa using g), fun g => by rw [eval_put_ne _ _ _ _ (by decide)]; exact S.t15 (by simpa using g), fun g => by rw [eval_put_ne _ _ _ _ (by decide)]; exact S.t16 (by simpa using g), fun g => (S.t17 (by simpa using g)).imp fun b hb => ⟨by rw [eval_put_ne _ _ _ _ (by decide)]; exact hb.1, hb.2⟩⟩
    | 6, _, ho, hsi, hT =>
      obtain ⟨e1, e2⟩ := pick_of h6 ho
      have BW := S.before
      refine step_val (v := .string tx) (by simp only [execOp, e1, y3]; go_simp) (hK _ _ ?_)
      rw [e2]
      exact ⟨S.off.put (by decide) _, S.before, fun g => by rw [eval_put_ne _ _ _ _ (by decide)]; exact S.t0 (by simpa using g), fun g => by rw [eval_put_ne _ _ _ _ (by decide)]; exact S.t1 (by simpa using g), fun g => by rw [eval_put_ne _ _ _ _ (by decide)]; exact S.t2 (by simpa using g), fun g => by rw [eval_put_ne _ _ _ _ (by decide)]; exact S.t3 (by simpa using g), fun g => by rw [eval_put_ne _ _ _ _ (by decide)]; exact S.t4 (by simpa using g), fun g => by rw [eval_put_ne _ _ _ _ (by decide)]; exact S.t5 (by simpa using g), fun _ => (eval_put _ _ _ (by omega)).trans rfl, fun g => by rw [eval_put_ne _ _ _ _ (by decide)]; exact S.t7 (by simpa using g), fun g => by rw [eval_put_ne _ _ _ _ (by decide)]; exact S.t8 (by simpa using g), fun g => by rw [eval_put_ne _ _ _ _ (by decide)]; exact S.t9 (by simpa using g), fun g => by rw [eval_put_ne _ _ _ _ (by decide)]; exact S.t10 (by simpa using g), fun g => by rw [eval_put_ne _ _ _ _ (by decide)]; exact S.t11 (by simpa using g), fun g => by rw [eval_put_ne _ _ _ _ (by decide)]; exact S.t12 (by simpa using g), fun g => by rw [eval_put_ne _ _ _ _ (by decide)]; exact S.t13 (by simpa using g), fun g => by rw [eval_put_ne _ _ _ _ (by decide)]; exact S.t14 (by simpa using g), fun g => by rw [eval_put_ne _ _ _ _ (by decide)]; exact S.t15 (by simpa using g), fun g => by rw [eval_put_ne _ _ _ _ (by decide)]; exact S.t16 (by simpa using g), fun g => (S.t17 (by simpa using g)).imp fun b hb => ⟨by rw [eval_put_ne _ _ _ _ (by decide)]; exact hb.1, hb.2⟩⟩
    | 7, _, ho, hsi, hT =>
      obtain ⟨e1, e2⟩ := pick_of h7 ho
      have D6 : s 6 = true := list_pos hT (d := 6) (by decide)
      have BW := S.before
      have q58 : a.tmps[58]'(by omega) = .string tx := by have := S.t6 D6; simpa [Act.eval, sz] using this
      refine step_val (v := .int .i64 (n : Nat)) (by simp only [execOp, e1]; go_simp) (hK _ _ ?_)
      rw [e2]
      exact ⟨S.off.put (by decide) _, S.before, fun g => by rw [eval_put_ne _ _ _ _ (by decide)]; exact S.t0 (by simpa using g), fun g => by rw [eval_put_ne _ _ _ _ (by decide)]; exact S.t1 (by simpa using g), fun g => by rw [eval_put_ne _ _ _ _ (by decide)]; exact S.t2 (by simpa using g), fun g => by rw [eval_put_ne _ _ _ _ (by decide)]; exact S.t3 (by simpa using g), fun g => by rw [eval_put_ne _ _ _ _ (by decide)]; exact S.t4 (by simpa using g), fun g => by rw [eval_put_ne _ _ _ _ (by decide)]; exact S.t5 (by simpa using g), fun g => by rw [eval_put_ne _ _ _ _ (by decide)]; exact S.t6 (by simpa using g), fun _ => (eval_put _ _ _ (by omega)).trans rfl, fun g => by rw [eval_put_ne _ _ _ _ (by decide)]; exact S.t8 (by simpa using g), fun g => by rw [eval_put_ne _ _ _ _ (by decide)]; exact S.t9 (by simpa using g), fun g => by rw [eval_put_ne _ _ _ _ (by decide)]; exact S.t10 (by simpa using g), fun g => by rw [eval_put_ne _ _ _ _ (by decide)]; exact S.t11 (by simpa using g), fun g => by rw [eval_put_ne _ _ _ _ (by decide)]; exact S.t12 (by simpa using g), fun g => by rw [eval_put_ne _ _ _ _ (by decide)]; exact S.t13 (by simpa using g), fun g => by rw [eval_put_ne _ _ _ _ (by decide)]; exact S.t14 (by simpa using g), fun g => by rw [eval_put_ne _ _ _ _ (by decide)]; exact S.t15 (by simpa using g), fun g => by rw [eval_put_ne _ _ _ _ (by decide)]; exact S.t16 (by simpa using g), fun g => (S.t17 (by simpa using g)).imp fun b hb => ⟨by rw [eval_put_ne _ _ _ _ (by decide)]; exact hb.1, hb.2⟩⟩
    | 8, _, ho, hsi, hT =>
      obtain ⟨e1, e2⟩ := pick_of h8 ho
      have D5 : s 5 = true := list_pos hT (d := 5) (by decide)
      have D7 : s 7 = true := list_pos hT (d := 7) (by decide)
      have BW := S.before
      refine step_val (v := .bool b2) (by simp only [execOp, e1, S.t5 D5, S.t7 D7]; go_simp) (hK _ _ ?_)
      rw [e2]
      exact ⟨S.off.put (by decide) _, S.before, fun g => by rw [eval_put_ne _ _ _ _ (by decide)]; exact S.t0 (by simpa using g), fun g => by rw [eval_put_ne _ _ _ _ (by decide)]; exact S.t1 (by simpa using g), fun g => by rw [eval_put_ne _ _ _ _ (by decide)]; exact S.t2 (by simpa using g), fun g => by rw [eval_put_ne _ _ _ _ (by decide)]; exact S.t3 (by simpa using g), fun g => by rw [eval_put_ne _ _ _ _ (by decide)]; exact S.t4 (by simpa using g), fun g => by rw [eval_put_ne _ _ _ _ (by decide)]; exact S.t5 (by simpa using g), fun g => by rw [eval_put_ne _ _ _ _ (by decide)]; exact S.t6 (by simpa using g), fun g => by rw [eval_put_ne _ _ _ _ (by decide)]; exact S.t7 (by simpa using g), fun _ => (eval_put _ _ _ (by omega)).trans rfl, fun g => by rw [eval_put_ne _ _ _ _ (by decide)]; exact S.t9 (by simpa using g), fun g => by rw [eval_put_ne _ _ _ _ (by decide)]; exact S.t10 (by simpa using g), fun g => by rw [eval_put_ne _ _ _ _ (by decide)]; exact S.t11 (by simpa using g), fun g => by rw [eval_put_ne _ _ _ _ (by decide)]; exact S.t12 (by simpa using g), fun g => by rw [eval_put_ne _ _ _ _ (by decide)]; exact S.t13 (by simpa using g), fun g => by rw [eval_put_ne _ _ _ _ (by decide)]; exact S.t14 (by simpa using g), fun g => by rw [eval_put_ne _ _ _ _ (by decide)]; exact S.t15 (by simpa using g), fun g => by rw [eval_put_ne _ _ _ _ (by decide)]; exact S.t16 (by simpa using g), fun g => (S.t17 (by simpa using g)).imp fun b hb => ⟨by rw [eval_put_ne _ _ _ _ (by decide)]; exact hb.1, hb.2⟩⟩
    | 9, _, ho, hsi, hT =>
      obtain ⟨e1, e2⟩ := pick_of h9 ho
      have D4 : s 4 = true := list_pos hT (d := 4) (by decide)
      have D8 : s 8 = true := list_pos hT (d := 8) (by decide)
      have BW := S.before
      refine step_call 41 (fun args w => by go_simp) _ _ e1 #[.bool b1, .bool b2] (by simp only [List.map_toArray, List.map_cons, List.map_nil, S.t4 D4, S.t8 D8]) ((flagsOf_fl b1 b2 fl hfl w').mono ?_)
      rintro e w2 ⟨rfl, BB⟩
      refine ⟨_, rfl, hK _ _ ?_⟩
      rw [e2]
      exact ⟨S.off.put (by decide) _, bt BW BB, fun g => by rw [eval_put_ne _ _ _ _ (by decide)]; exact S.t0 (by simpa using g), fun g => by rw [eval_put_ne _ _ _ _ (by decide)]; exact S.t1 (by simpa using g), fun g => by rw [eval_put_ne _ _ _ _ (by decide)]; exact S.t2 (by simpa using g), fun g => by rw [eval_put_ne _ _ _ _ (by decide)]; exact S.t3 (by simpa using g), fun g => by rw [eval_put_ne _ _ _ _ (by decide)]; exact S.t4 (by simpa using g), fun g => by rw [eval_put_ne _ _ _ _ (by decide)]; exact S.t5 (by simpa using g), fun g => by rw [eval_put_ne _ _ _ _ (by decide)]; exact S.t6 (by simpa using g), fun g => by rw [eval_put_ne _ _ _ _ (by decide)]; exact S.t7 (by simpa using g), fun g => by rw [eval_put_ne _ _ _ _ (by decide)]; exact S.t8 (by simpa using g), fun _ => (eval_put _ _ _ (by omega)).trans rfl, fun g => by rw [eval_put_ne _ _ _ _ (by decide)]; exact S.t10 (by simpa using g), fun g => by rw [eval_put_ne _ _ _ _ (by decide)]; exact S.t11 (by simpa using g), fun g => by rw [eval_put_ne _ _ _ _ (by decide)]; exact S.t12 (by simpa using g), fun g => by rw [eval_put_ne _ _ _ _ (by decide)]; exact S.t13 (by simpa using g), fun g => by rw [eval_put_ne _ _ _ _ (by decide)]; exact S.t14 (by simpa using g), fun g => by rw [eval_put_ne _ _ _ _ (by decide)]; exact S.t15 (by simpa using g), fun g => by rw [eval_put_ne _ _ _ _ (by decide)]; exact S.t16 (by simpa using g), fun g => (S.t17 (by simpa using g)).imp fun b hb => ⟨by rw [eval_put_ne _ _ _ _ (by decide)]; exact hb.1, (PkS.mono hb.2 BB)⟩⟩
    | 10, _, ho, hsi, hT =>
      obtain ⟨e1, e2⟩ := pick_of h10 ho
      have BW := S.before
      refine step_val (v := .int .i64 (c : Nat)) (by simp only [execOp, e1, y2]; go_simp) (hK _ _ ?_)
      rw [e2]
      exact ⟨S.off.put (by decide) _, S.before, fun g => by rw [eval_put_ne _ _ _ _ (by decide)]; exact S.t0 (by simpa using g), fun g => by rw [eval_put_ne _ _ _ _ (by decide)]; exact S.t1 (by simpa using g), fun g => by rw [eval_put_ne _ _ _ _ (by decide)]; exact S.t2 (by simpa using g), fun g => by rw [eval_put_ne _ _ _ _ (by decide)]; exact S.t3 (by simpa using g), fun g => by rw [eval_put_ne _ _ _ _ (by decide)]; exact S.t4 (by simpa using g), fun g => by rw [eval_put_ne _ _ _ _ (by decide)]; exact S.t5 (by simpa using g), fun g => by rw [eval_put_ne _ _ _ _ (by decide)]; exact S.t6 (by simpa using g), fun g => by rw [eval_put_ne _ _ _ _ (by decide)]; exact S.t7 (by simpa using g), fun g => by rw [eval_put_ne _ _ _ _ (by decide)]; exact S.t8 (by simpa using g), fun g => by rw [eval_put_ne _ _ _ _ (by decide)]; exact S.t9 (by simpa using g), fun _ => (eval_put _ _ _ (by omega)).trans rfl, fun g => by rw [eval_put_ne _ _ _ _ (by decide)]; exact S.t11 (by simpa using g), fun g => by rw [eval_put_ne _ _ _ _ (by decide)]; exact S.t12 (by simpa using g), fun g => by rw [eval_put_ne _ _ _ _ (by decide)]; exact S.t13 (by simpa using g), fun g => by rw [eval_put_ne _ _ _ _ (by decide)]; exact S.t14 (by simpa using g), fun g => by rw [eval_put_ne _ _ _ _ (by decide)]; exact S.t15 (by simpa using g), fun g => by rw [eval_put_ne _ _ _ _ (by decide)]; exact S.t16 (by simpa using g), fun g => (S.t17 (by simpa using g)).imp fun b hb => ⟨by rw [eval_put_ne _ _ _ _ (by decide)]; exact hb.1, hb.2⟩⟩
    | 11, _, ho, hsi, hT =>
      obtain ⟨e1, e2⟩ := pick_of h11 ho
      have BW := S.before
      refine step_val (v := .string tx) (by simp only [execOp, e1, y3]; go_simp) (hK _ _ ?_)
      rw [e2]
      exact ⟨S.off.put (by decide) _, S.before, fun g => by rw [eval_put_ne _ _ _ _ (by decide)]; exact S.t0 (by simpa using g), fun g => by rw [eval_put_ne _ _ _ _ (by decide)]; exact S.t1 (by simpa using g), fun g => by rw [eval_put_ne _ _ _ _ (by decide)]; exact S.t2 (by simpa using g), fun g => by rw [eval_put_ne _ _ _ _ (by decide)]; exact S.t3 (by simpa using g), fun g => by rw [eval_put_ne _ _ _ _ (by decide)]; exact S.t4 (by simpa using g), fun g => by rw [eval_put_ne _ _ _ _ (by decide)]; exact S.t5 (by simpa using g), fun g => by rw [eval_put_ne _ _ _ _ (by decide)]; exact S.t6 (by simpa using g), fun g => by rw [eval_put_ne _ _ _ _ (by decide)]; exact S.t7 (by simpa using g), fun g => by rw [eval_put_ne _ _ _ _ (by decide)]; exact S.t8 (by simpa using g), fun g => by rw [eval_put_ne _ _ _ _ (by decide)]; exact S.t9 (by simpa using g), fun g => by rw [eval_put_ne _ _ _ _ (by decide)]; exact S.t10 (by simpa using g), fun _ => (eval_put _ _ _ (by omega)).trans rfl, fun g => by rw [eval_put_ne _ _ _ _ (by decide)]; exact S.t12 (by simpa using g), fun g => by rw [eval_put_ne _ _ _ _ (by decide)]; exact S.t13 (by simpa using g), fun g => by rw [eval_put_ne _ _ _ _ (by decide)]; exact S.t14 (by simpa using g), fun g => by rw [eval_put_ne _ _ _ _ (by decide)]; exact S.t15 (by simpa using g), fun g => by rw [eval_put_ne _ _ _ _ (by decide)]; exact S.t16 (by simpa using g), fun g => (S.t17 (by simpa using g)).imp fun b hb => ⟨by rw [eval_put_ne _ _ _ _ (by decide)]; exact hb.1, hb.2⟩⟩
    | 12, _, ho, hsi, hT =>
      obtain ⟨e1, e2⟩ := pick_of h12 ho
      have BW := S.before
      refine step_val (v := .int .i64 (p : Nat)) (by simp only [execOp, e1, y13]; go_simp) (hK _ _ ?_)
      rw [e2]
      exact ⟨S.off.put (by decide) _, S.before, fun g => by rw [eval_put_ne _ _ _ _ (by decide)]; exact S.t0 (by simpa using g), fun g => by rw [eval_put_ne _ _ _ _ (by decide)]; exact S.t1 (by simpa using g), fun g => by rw [eval_put_ne _ _ _ _ (by decide)]; exact S.t2 (by simpa using g), fun g => by rw [eval_put_ne _ _ _ _ (by decide)]; exact S.t3 (by simpa using g), fun g => by rw [eval_put_ne _ _ _ _ (by decide)]; exact S.t4 (by simpa using g), fun g => by rw [eval_put_ne _ _ _ _ (by decide)]; exact S.t5 (by simpa using g), fun g => by rw [eval_put_ne _ _ _ _ (by decide)]; exact S.t6 (by simpa using g), fun g => by rw [eval_put_ne _ _ _ _ (by decide)]; exact S.t7 (by simpa using g), fun g => by rw [eval_put_ne _ _ _ _ (by decide)]; exact S.t8 (by simpa using g), fun g => by rw [eval_put_ne _ _ _ _ (by decide)]; exact S.t9 (by simpa using g), fun g => by rw [eval_put_ne _ _ _ _ (by decide)]; exact S.t10 (by simpa using g), fun g => by rw [eval_put_ne _ _ _ _ (by decide)]; exact S.t11 (by simpa using g), fun _ => (eval_put _ _ _ (by omega)).trans rfl, fun g => by rw [eval_put_ne _ _ _ _ (by decide)]; exact S.t13 (by simpa using g), fun g => by rw [eval_put_ne _ _ _ _ (by decide)]; exact S.t14 (by simpa using g), fun g => by rw [eval_put_ne _ _ _ _ (by decide)]; exact S.t15 (by simpa using g), fun g => by rw [eval_put_ne _ _ _ _ (by decide)]; exact S.t16 (by simpa using g), fun g => (S.t17 (by simpa using g)).imp fun b hb => ⟨by rw [eval_put_ne _ _ _ _ (by decide)]; exact hb.1, hb.2⟩⟩
    | 13, _, ho, hsi, hT =>
      obtain ⟨e1, e2⟩ := pick_of h13 ho
      have BW := S.before
      refine step_val (v := .int .i64 (q : Nat)) (by simp only [execOp, e1, y14]; go_simp) (hK _ _ ?_)
      rw [e2]
      exact ⟨S.off.put (by decide) _, S.before, fun g => by rw [eval_put_ne _ _ _ _ (by decide)]; exact S.t0 (by simpa using g), fun g => by rw [eval_put_ne _ _ _ _ (by decide)]; exact S.t1 (by simpa using g), fun g => by rw [eval_put_ne _ _ _ _ (by decide)]; exact S.t2 (by simpa using g), fun g => by rw [eval_put_ne _ _ _ _ (by decide)]; exact S.t3 (by simpa using g), fun g => by rw [eval_put_ne _ _ _ _ (by decide)]; exact S.t4 (by simpa using g), fun g => by rw [eval_put_ne _ _ _ _ (by decide)]; exact S.t5 (by simpa using g), fun g => by rw [eval_put_ne _ _ _ _ (by decide)]; exact S.t6 (by simpa using g), fun g => by rw [eval_put_ne _ _ _ _ (by decide)]; exact S.t7 (by simpa using g), fun g => by rw [eval_put_ne _ _ _ _ (by decide)]; exact S.t8 (by simpa using g), fun g => by rw [eval_put_ne _ _ _ _ (by decide)]; exact S.t9 (by simpa using g), fun g => by rw [eval_put_ne _ _ _ _ (by decide)]; exact S.t10 (by simpa using g), fun g => by rw [eval_put_ne _ _ _ _ (by decide)]; exact S.t11 (by simpa using g), fun g => by rw [eval_put_ne _ _ _ _ (by decide)]; exact S.t12 (by simpa using g), fun _ => (eval_put _ _ _ (by omega)).trans rfl, fun g => by rw [eval_put_ne _ _ _ _ (by decide)]; exact S.t14 (by simpa using g), fun g => by rw [eval_put_ne _ _ _ _ (by decide)]; exact S.t15 (by simpa using g), fun g => by rw [eval_put_ne _ _ _ _ (by decide)]; exact S.t16 (by simpa using g), fun g => (S.t17 (by simpa using g)).imp fun b hb => ⟨by rw [eval_put_ne _ _ _ _ (by decide)]; exact hb.1, hb.2⟩⟩
    | 14, _, ho, hsi, hT =>
      obtain ⟨e1, e2⟩ := pick_of h14 ho
      have D11 : s 11 = true := list_pos hT (d := 11) (by decide)
      have D12 : s 12 = true := list_pos hT (d := 12) (by decide)
      have D13 : s 13 = true := list_pos hT (d := 13) (by decide)
      have BW := S.before
      have q64 : a.tmps[64]'(by omega) = .int .i64 (p : Nat) := by have := S.t12 D12; simpa [Act.eval, sz] using this
      have q65 : a.tmps[65]'(by omega) = .int .i64 (q : Nat) := by have := S.t13 D13; simpa [Act.eval, sz] using this
      refine step_val (v := .string da) (by simp only [execOp, e1, Option.map_none, Option.map_some, S.t11 D11]; go_simp) (hK _ _ ?_)
      rw [e2]
      exact ⟨S.off.put (by decide) _, S.before, fun g => by rw [eval_put_ne _ _ _ _ (by decide)]; exact S.t0 (by simpa using g), fun g => by rw [eval_put_ne _ _ _ _ (by decide)]; exact S.t1 (by simpa using g), fun g => by rw [eval_put_ne _ _ _ _ (by decide)]; exact S.t2 (by simpa using g), fun g => by rw [eval_put_ne _ _ _ _ (by decide)]; exact S.t3 (by simpa using g), fun g => by rw [eval_put_ne _ _ _ _ (by decide)]; exact S.t4 (by simpa using g), fun g => by rw [eval_put_ne _ _ _ _ (by decide)]; exact S.t5 (by simpa using g), fun g => by rw [eval_put_ne _ _ _ _ (by decide)]; exact S.t6 (by simpa using g), fun g => by rw [eval_put_ne _ _ _ _ (by decide)]; exact S.t7 (by simpa using g), fun g => by rw [eval_put_ne _ _ _ _ (by decide)]; exact S.t8 (by simpa using g), fun g => by rw [eval_put_ne _ _ _ _ (by decide)]; exact S.t9 (by simpa using g), fun g => by rw [eval_put_ne _ _ _ _ (by decide)]; exact S.t10 (by simpa using g), fun g => by rw [eval_put_ne _ _ _ _ (by decide)]; exact S.t11 (by simpa using g), fun g => by rw [eval_put_ne _ _ _ _ (by decide)]; exact S.t12 (by simpa using g), fun g => by rw [eval_put_ne _ _ _ _ (by decide)]; exact S.t13 (by simpa using g), fun _ => (eval_put _ _ _ (by omega)).trans rfl, fun g => by rw [eval_put_ne _ _ _ _ (by decide)]; exact S.t15 (by simpa using g), fun g => by rw [eval_put_ne _ _ _ _ (by decide)]; exact S.t16 (by simpa using g), fun g => (S.t17 (by simpa using g)).imp fun b hb => ⟨by rw [eval_put_ne _ _ _ _ (by decide)]; exact hb.1, hb.2⟩⟩
    | 15, _, ho, hsi, hT =>
      obtain ⟨e1, e2⟩ := pick_of h15 ho
      have D14 : s 14 = true := list_pos hT (d := 14) (by decide)
      have BW := S.before
      refine step_call 40 (fun args w => by go_simp) _ _ e1 #[.string da] (by simp only [List.map_toArray, List.map_cons, List.map_nil, S.t14 D14]) ((clone_any da hds w').mono ?_)
      rintro e w2 ⟨rfl, BB⟩
      refine ⟨_, rfl, hK _ _ ?_⟩
      rw [e2]
      exact ⟨S.off.put (by decide) _, bt BW BB, fun g => by rw [eval_put_ne _ _ _ _ (by decide)]; exact S.t0 (by simpa using g), fun g => by rw [eval_put_ne _ _ _ _ (by decide)]; exact S.t1 (by simpa using g), fun g => by rw [eval_put_ne _ _ _ _ (by decide)]; exact S.t2 (by simpa using g), fun g => by rw [eval_put_ne _ _ _ _ (by decide)]; exact S.t3 (by simpa using g), fun g => by rw [eval_put_ne _ _ _ _ (by decide)]; exact S.t4 (by simpa using g), fun g => by rw [eval_put_ne _ _ _ _ (by decide)]; exact S.t5 (by simpa using g), fun g => by rw [eval_put_ne _ _ _ _ (by decide)]; exact S.t6 (by simpa using g), fun g => by rw [eval_put_ne _ _ _ _ (by decide)]; exact S.t7 (by simpa using g), fun g => by rw [eval_put_ne _ _ _ _ (by decide)]; exact S.t8 (by simpa using g), fun g => by rw [eval_put_ne _ _ _ _ (by decide)]; exact S.t9 (by simpa using g), fun g => by rw [eval_put_ne _ _ _ _ (by decide)]; exact S.t10 (by simpa using g), fun g => by rw [eval_put_ne _ _ _ _ (by decide)]; exact S.t11 (by simpa using g), fun g => by rw [eval_put_ne _ _ _ _ (by decide)]; exact S.t12 (by simpa using g), fun g => by rw [eval_put_ne _ _ _ _ (by decide)]; exact S.t13 (by simpa using g), fun g => by rw [eval_put_ne _ _ _ _ (by decide)]; exact S.t14 (by simpa using g), fun _ => (eval_put _ _ _ (by omega)).trans rfl, fun g => by rw [eval_put_ne _ _ _ _ (by decide)]; exact S.t16 (by simpa using g), fun g => (S.t17 (by simpa using g)).imp fun b hb => ⟨by rw [eval_put_ne _ _ _ _ (by decide)]; exact hb.1, (PkS.mono hb.2 BB)⟩⟩
    | 16, _, ho, hsi, hT =>
      obtain ⟨e1, e2⟩ := pick_of h16 ho
      have D1 : s 1 = true := list_pos hT (d := 1) (by decide)
      have D2 : s 2 = true := list_pos hT (d := 2) (by decide)
      have D9 : s 9 = true := list_pos hT (d := 9) (by decide)
      have D10 : s 10 = true := list_pos hT (d := 10) (by decide)
      have D15 : s 15 = true := list_pos hT (d := 15) (by decide)
      have BW := S.before
      have q53 : a.tmps[53]'(by omega) = .bool cmd := by have := S.t1 D1; simpa [Act.eval, sz] using this
      have q54 : a.tmps[54]'(by omega) = .int .i64 ap := by have := S.t2 D2; simpa [Act.eval, sz] using this
      have q61 : a.tmps[61]'(by omega) = .int .i64 fl := by have := S.t9 D9; simpa [Act.eval, sz] using this
      have q62 : a.tmps[62]'(by omega) = .int .i64 (c : Nat) := by have := S.t10 D10; simpa [Act.eval, sz] using this
      have q67 : a.tmps[67]'(by omega) = .string da := by have := S.t15 D15; simpa [Act.eval, sz] using this
      refine step_val (v := .agg #[.bool cmd, .int .i64 ap, .int .i64 fl, .int .i64 (c : Nat), .string da]) (by simp only [execOp, e1]; go_simp) (hK _ _ ?_)
      rw [e2]
      exact ⟨S.off.put (by decide) _, S.before, fun g => by rw [eval_put_ne _ _ _ _ (by decide)]; exact S.t0 (by simpa using g), fun g => by rw [eval_put_ne _ _ _ _ (by decide)]; exact S.t1 (by simpa using g), fun g => by rw [eval_put_ne _ _ _ _ (by decide)]; exact S.t2 (by simpa using g), fun g => by rw [eval_put_ne _ _ _ _ (by decide)]; exact S.t3 (by simpa using g), fun g => by rw [eval_put_ne _ _ _ _ (by decide)]; exact S.t4 (by simpa using g), fun g => by rw [eval_put_ne _ _ _ _ (by decide)]; exact S.t5 (by simpa using g), fun g => by rw [eval_put_ne _ _ _ _ (by decide)]; exact S.t6 (by simpa using g), fun g => by rw [eval_put_ne _ _ _ _ (by decide)]; exact S.t7 (by simpa using g), fun g => by rw [eval_put_ne _ _ _ _ (by decide)]; exact S.t8 (by simpa using g), fun g => by rw [eval_put_ne _ _ _ _ (by decide)]; exact S.t9 (by simpa using g), fun g => by rw [eval_put_ne _ _ _ _ (by decide)]; exact S.t10 (by simpa using g), fun g => by rw [eval_put_ne _ _ _ _ (by decide)]; exact S.t11 (by simpa using g), fun g => by rw [eval_put_ne _ _ _ _ (by decide)]; exact S.t12 (by simpa using g), fun g => by rw [eval_put_ne _ _ _ _ (by decide)]; exact S.t13 (by simpa using g), fun g => by rw [eval_put_ne _ _ _ _ (by decide)]; exact S.t14 (by simpa using g), fun g => by rw [eval_put_ne _ _ _ _ (by decide)]; exact S.t15 (by simpa using g), fun _ => (eval_put _ _ _ (by omega)).trans rfl, fun g => (S.t17 (by simpa using g)).imp fun b hb => ⟨by rw [eval_put_ne _ _ _ _ (by decide)]; exact hb.1, hb.2⟩⟩
    | 17, _, ho, hsi, hT =>
      obtain ⟨e1, e2⟩ := pick_of h17 ho
      have D16 : s 16 = true := list_pos hT (d := 16) (by decide)
      have BW := S.before
      refine step_to1x (Fact := PkS n0 ⟨cmd, ap, fl, (c : Nat), da⟩) (v := .slice (some ⟨w'.heap.size, 0, none⟩) 1 1) (w2 := w'.alloc (.cells #[.bool cmd, .int .i64 ap, .int .i64 fl, .int .i64 (c : Nat), .string da] 23)) (build_pk e1 (S.t16 D16)) (pks_new (p := ⟨cmd, ap, fl, (c : Nat), da⟩) w' (Nat.le_trans hn0 BW.size)) (ba (Below.refl _ _) _) (fun v w2 FF BB => hK _ _ ?_)
      rw [e2]
      exact ⟨S.off.put (by decide) _, bt BW BB, fun g => by rw [eval_put_ne _ _ _ _ (by decide)]; exact S.t0 (by simpa using g), fun g => by rw [eval_put_ne _ _ _ _ (by decide)]; exact S.t1 (by simpa using g), fun g => by rw [eval_put_ne _ _ _ _ (by decide)]; exact S.t2 (by simpa using g), fun g => by rw [eval_put_ne _ _ _ _ (by decide)]; exact S.t3 (by simpa using g), fun g => by rw [eval_put_ne _ _ _ _ (by decide)]; exact S.t4 (by simpa using g), fun g => by rw [eval_put_ne _ _ _ _ (by decide)]; exact S.t5 (by simpa using g), fun g => by rw [eval_put_ne _ _ _ _ (by decide)]; exact S.t6 (by simpa using g), fun g => by rw [eval_put_ne _ _ _ _ (by decide)]; exact S.t7 (by simpa using g), fun g => by rw [eval_put_ne _ _ _ _ (by decide)]; exact S.t8 (by simpa using g), fun g => by rw [eval_put_ne _ _ _ _ (by decide)]; exact S.t9 (by simpa using g), fun g => by rw [eval_put_ne _ _ _ _ (by decide)]; exact S.t10 (by simpa using g), fun g => by rw [eval_put_ne _ _ _ _ (by decide)]; exact S.t11 (by simpa using g), fun g => by rw [eval_put_ne _ _ _ _ (by decide)]; exact S.t12 (by simpa using g), fun g => by rw [eval_put_ne _ _ _ _ (by decide)]; exact S.t13 (by simpa using g), fun g => by rw [eval_put_ne _ _ _ _ (by decide)]; exact S.t14 (by simpa using g), fun g => by rw [eval_put_ne _ _ _ _ (by decide)]; exact S.t15 (by simpa using g), fun g => by rw [eval_put_ne _ _ _ _ (by decide)]; exact S.t16 (by simpa using g), fun _ => ⟨_, (eval_put _ _ _ (by omega)).trans rfl, FF⟩⟩
    | _ + 18, il, _, _, _ => exact absurd il (by omega)
  · intro s a w' S hall
    have a0 := hall 0 (by omega)
    have a1 := hall 1 (by omega)
    have a2 := hall 2 (by omega)
    have a3 := hall 3 (by omega)
    have a4 := hall 4 (by omega)
    have a5 := hall 5 (by omega)
    have a6 := hall 6 (by omega)
    have a7 := hall 7 (by omega)
    have a8 := hall 8 (by omega)
    have a9 := hall 9 (by omega)
    have a10 := hall 10 (by omega)
    have a11 := hall 11 (by omega)
    have a12 := hall 12 (by omega)
    have a13 := hall 13 (by omega)
    have a14 := hall 14 (by omega)
    have a15 := hall 15 (by omega)
    have a16 := hall 16 (by omega)
    have a17 := hall 17 (by omega)
    have e := off_norm _ (by intro d hd; simp at hd; omega) S.off
    obtain ⟨v17, M17, F17⟩ := S.t17 a17
    simp only [List.foldl, S.t0 a0, S.t1 a1, S.t2 a2, S.t3 a3, S.t4 a4, S.t5 a5, S.t6 a6, S.t7 a7, S.t8 a8, S.t9 a9, S.t10 a10, S.t11 a11, S.t12 a12, S.t13 a13, S.t14 a14, S.t15 a15, S.t16 a16, M17] at e
    rw [e]
    exact h _ _ S.before F17
set_option maxHeartbeats 8000000 in
theorem psplit_bad (cmd : Bool) (ap ct most : Int) (s : ByteArray) (h : ¬ cutOk ap ct most s.size) (w : World) : Calls Try.prog 19 #[.bool cmd, .int .i64 ap, .int .i64 ct, .string s, .int .i64 most] w fun e w' => e = .returned (.tuple #[.slice none 0 0, .int .i64 2]) ∧ w = w' := by
  have HH := Lib.hid h
  clear h
  have A0 := Lib.hid (fun w => isAPID_any ap w)
  have A1 := Lib.hid (fun w => isCount_any ct w)
  have A2 := Lib.hid (fun w => isSize_any most w)
  by_cases g0 : ¬ (0 ≤ ap ∧ ap ≤ 2047)
  · rw [decide_eq_false g0] at A0
    clear g0
    go_enter Try.func19, Try.ntmps19
    go_wp2_with fail
    (with_reducible refine (A0.out _).mono ?_)
    rintro e w' ⟨rfl, rfl⟩
    go_wp2_with fail
    go_ret2
    exact ⟨rfl, rfl⟩
  replace g0 := Decidable.of_not_not g0
  rw [decide_eq_true g0] at A0
  by_cases g1 : ap = 2047
  · have t1 : (ap == 2047) = true := by simpa using g1
    clear g0 g1
    go_enter Try.func19, Try.ntmps19
    go_wp2_with fail
    (with_reducible refine (A0.out _).mono ?_)
    rintro e w' ⟨rfl, rfl⟩
    go_wp2_with fail
    go_ret2
    exact ⟨rfl, rfl⟩
  have t1 : (ap == 2047) = false := by simpa using g1
  by_cases g2 : ¬ (0 ≤ ct ∧ ct ≤ 16383)
  · rw [decide_eq_false g2] at A1
    clear g0 g1 g2
    go_enter Try.func19, Try.ntmps19
    go_wp2_with fail
    (with_reducible refine (A0.out _).mono ?_)
    rintro e w' ⟨rfl, rfl⟩
    go_wp2_with fail
    (with_reducible refine (A1.out _).mono ?_)
    rintro e w' ⟨rfl, rfl⟩
    go_wp2_with fail
    go_ret2
    exact ⟨rfl, rfl⟩
  replace g2 := Decidable.of_not_not g2
  rw [decide_eq_true g2] at A1
  by_cases g3 : ¬ (1 ≤ most ∧ most ≤ 1024)
  · rw [decide_eq_false g3] at A2
    clear g0 g1 g2 g3
    go_enter Try.func19, Try.ntmps19
    go_wp2_with fail
    (with_reducible refine (A0.out _).mono ?_)
    rintro e w' ⟨rfl, rfl⟩
    go_wp2_with fail
    (with_reducible refine (A1.out _).mono ?_)
    rintro e w' ⟨rfl, rfl⟩
    go_wp2_with fail
    (with_reducible refine (A2.out _).mono ?_)
    rintro e w' ⟨rfl, rfl⟩
    go_wp2_with fail
    go_ret2
    exact ⟨rfl, rfl⟩
  replace g3 := Decidable.of_not_not g3
  rw [decide_eq_true g3] at A2
  by_cases g4 : s = ⟨#[]⟩
  · subst g4
    clear g0 g1 g2 g3
    go_enter Try.func19, Try.ntmps19
    go_wp2_with fail
    (with_reducible refine (A0.out _).mono ?_)
    rintro e w' ⟨rfl, rfl⟩
    go_wp2_with fail
    (with_reducible refine (A1.out _).mono ?_)
    rintro e w' ⟨rfl, rfl⟩
    go_wp2_with fail
    (with_reducible refine (A2.out _).mono ?_)
    rintro e w' ⟨rfl, rfl⟩
    go_wp2_with fail
    go_ret2
    exact ⟨rfl, rfl⟩
  exact absurd ⟨by omega, by omega, by omega, fun e => g4 (ByteArray.ext (Array.eq_empty_of_size_eq_zero e))⟩ HH.out
theorem psplit_long (cmd : Bool) (ap : Int) (c m : Nat) (s : ByteArray) (n : Nat) (hn : s.size = n) (ha : 0 ≤ ap ∧ ap ≤ 2046) (hc : c ≤ 16383) (hm : 1 ≤ m ∧ m ≤ 1024) (n0 : 0 < n) (hl : 16384 < n) (hx : n ≤ 1000000) (w : World) : Calls Try.prog 19 #[.bool cmd, .int .i64 ap, .int .i64 (c : Nat), .string s, .int .i64 (m : Nat)] w fun e w' => e = .returned (.tuple #[.slice none 0 0, .int .i64 3]) ∧ w = w' := by
  have ne : s ≠ ⟨#[]⟩ := fun e => by subst e; exact absurd (show ((⟨#[]⟩ : ByteArray)).size = 0 from rfl) (by omega)
  obtain ⟨s1, s2, s3⟩ := str_some ne
  have A0 := Lib.hid (fun w => isAPID_any ap w)
  have A1 := Lib.hid (fun w => isCount_any (c : Int) w)
  have A2 := Lib.hid (fun w => isSize_any (m : Int) w)
  rw [decide_eq_true (show 0 ≤ ap ∧ ap ≤ 2047 by omega)] at A0
  rw [decide_eq_true (show 0 ≤ (c : Int) ∧ (c : Int) ≤ 16383 by omega)] at A1
  rw [decide_eq_true (show 1 ≤ (m : Int) ∧ (m : Int) ≤ 1024 by omega)] at A2
  have t1 : (ap == 2047) = false := by simp; omega
  have sn : s.size = n := hn
  have t6 : decide (16384 < (n : Int)) = true := decide_eq_true (by omega)
  have t6n : decide (16384 < n) = true := decide_eq_true hl
  clear ne hn ha hc hm n0 hl
  go_enter Try.func19, Try.ntmps19
  go_wp2_with fail
  (with_reducible refine (A0.out _).mono ?_)
  rintro e w' ⟨rfl, rfl⟩
  go_wp2_with fail
  (with_reducible refine (A1.out _).mono ?_)
  rintro e w' ⟨rfl, rfl⟩
  go_wp2_with fail
  (with_reducible refine (A2.out _).mono ?_)
  rintro e w' ⟨rfl, rfl⟩
  go_wp2_with fail
  go_ret2
  exact ⟨rfl, rfl⟩
set_option maxHeartbeats 16000000 in
theorem psplit_ok (cmd : Bool) (ap : Int) (c m : Nat) (s : ByteArray) (n : Nat) (hn : s.size = n) (ha : 0 ≤ ap ∧ ap ≤ 2046) (hc : c ≤ 16383) (hm : 1 ≤ m ∧ m ≤ 1024) (n0 : 0 < n) (hl : n ≤ 16384) (w : World) : Calls Try.prog 19 #[.bool cmd, .int .i64 ap, .int .i64 (c : Nat), .string s, .int .i64 (m : Nat)] w fun e w' => ∃ sa sc, e = .returned (.tuple #[.slice sa (Pk.cnt n m) sc, .int .i64 0]) ∧ w'.ownsRow w.heap.size 23 5 (.slice sa (Pk.cnt n m) sc) (Pk.cnt n m) (pkL (Pk.cut cmd ap (c : Nat) s.data.toList m) (Pk.cnt n m)) ∧ Below w.heap.size w w' := by
  have ne : s ≠ ⟨#[]⟩ := fun e => by subst e; exact absurd (show ((⟨#[]⟩ : ByteArray)).size = 0 from rfl) (by omega)
  obtain ⟨s1, s2, s3⟩ := str_some ne
  have A0 := Lib.hid (fun w => isAPID_any ap w)
  have A1 := Lib.hid (fun w => isCount_any (c : Int) w)
  have A2 := Lib.hid (fun w => isSize_any (m : Int) w)
  rw [decide_eq_true (show 0 ≤ ap ∧ ap ≤ 2047 by omega)] at A0
  rw [decide_eq_true (show 0 ≤ (c : Int) ∧ (c : Int) ≤ 16383 by omega)] at A1
  rw [decide_eq_true (show 1 ≤ (m : Int) ∧ (m : Int) ≤ 1024 by omega)] at A2
  have t1 : (ap == 2047) = false := by simp; omega
  have sn : s.size = n := hn
  have t6 : decide (16384 < (n : Int)) = false := decide_eq_false (by omega)
  have t6n : decide (16384 < n) = false := decide_eq_false (by omega)
  obtain ⟨L, hL⟩ : ∃ L, s.data.toList = L := ⟨_, rfl⟩
  have LN : L.length = n := by rw [← hL, ls, hn]
  obtain ⟨K, hK⟩ : ∃ K, Pk.cnt n m = K := ⟨_, rfl⟩
  have KL := Lib.hid (fun k => show k < K ↔ k * m < n by rw [← hK]; exact Pk.cnt_lt hm.1)
  have KB : K ≤ 16384 := by
    apply Nat.le_of_not_lt
    intro h
    have h1 := (KL.out 16384).1 h
    have h2 : 16384 ≤ 16384 * m := Nat.le_mul_of_pos_right _ hm.1
    omega
  have DA := Lib.hid (fun p q k (hp : k * m = p) (hq : min (p + m) n = q) => show s.extract p q = ⟨((L.drop (k * m)).take m).toArray⟩ from by
    rw [hp]
    apply ByteArray.ext
    apply Array.toList_inj.1
    simp only [ByteArray.data_extract, Array.toList_extract, List.extract_eq_take_drop, hL]
    by_cases g : p + m ≤ n
    · rw [show q - p = m by omega]
    · rw [List.take_of_length_le (i := m) (by rw [List.length_drop, LN]; omega), List.take_of_length_le (by rw [List.length_drop, LN]; omega)])
  have FL := Lib.hid (fun k => show (Pk.cut cmd ap (c : Nat) L m k).fl = (if k = 0 then (1 : Int) else 0) + (if n ≤ (k + 1) * m then 2 else 0) by unfold Pk.cut; rw [LN])
  have CT := Lib.hid (fun k => show (Pk.cut cmd ap (c : Nat) L m k).ct = ((c : Nat) + (k : Nat) : Int) % 16384 from rfl)
  have DD := Lib.hid (fun k => show (Pk.cut cmd ap (c : Nat) L m k).da = ⟨((L.drop (k * m)).take m).toArray⟩ from rfl)
  have EE := Lib.hid (fun k => show (Pk.cut cmd ap (c : Nat) L m k) = ⟨cmd, ap, (Pk.cut cmd ap (c : Nat) L m k).fl, (Pk.cut cmd ap (c : Nat) L m k).ct, (Pk.cut cmd ap (c : Nat) L m k).da⟩ from rfl)
  obtain ⟨f, hf⟩ : ∃ f, Pk.cut cmd ap (c : Nat) L m = f := ⟨_, rfl⟩
  rw [hf] at FL CT DD EE
  rw [hL, hK, hf]
  obtain ⟨j0, hj0, hy0, hy1, hy2⟩ := info_parts info_packet
  have m1 : m ≤ 1024 := hm.2
  have m0 : 1 ≤ m := hm.1
  have NC := Lib.hid (fun n (h : n ≤ 1000000) w => nextCount_any n h w)
  clear ne hn ha n0 hL hK hf LN
  go_enter Try.func19, Try.ntmps19
  go_wp2_with fail
  (with_reducible refine (A0.out _).mono ?_)
  rintro e w' ⟨rfl, rfl⟩
  go_wp2_with fail
  (with_reducible refine (A1.out _).mono ?_)
  rintro e w' ⟨rfl, rfl⟩
  go_wp2_with fail
  (with_reducible refine (A2.out _).mono ?_)
  rintro e w' ⟨rfl, rfl⟩
  go_wp2_with fail
  go_loopw [12, 13, 2] (fun v i cc wr => ∃ (k p x : Nat) (sa : Option Addr) (sc : Nat), k ≤ K ∧ k * m = p ∧ (c + k) % 16384 = x ∧ i = .int .i64 p ∧ cc = .int .i64 x ∧ v = .slice sa k sc ∧ wr.ownsRow w.heap.size 23 5 (.slice sa k sc) k (pkL f k) ∧ Below w.heap.size w wr) (fun _ i _ _ => 20000 - (intOf i).toNat)
  case atStart => exact ⟨0, 0, c, none, 0, Nat.zero_le _, Nat.zero_mul _, by omega, rfl, rfl, rfl, ⟨rfl, .inl ⟨rfl, rfl⟩⟩, Below.refl _ _⟩
  case round =>
    obtain ⟨k, p, cr, sa, sc, hkK, hpk, hcr, rfl, rfl, rfl, hown, hB⟩ := hrel
    by_cases hlt : p < n
    · have r1 : decide ((p : Int) < (n : Int)) = true := by simp; omega
      have r1n : decide (p < n) = true := decide_eq_true hlt
      obtain ⟨p2, hp2⟩ : ∃ p2, p + m = p2 := ⟨_, rfl⟩
      obtain ⟨q, hq⟩ : ∃ q, min p2 n = q := ⟨_, rfl⟩
      have a1 : (p : Int) + (m : Int) = (p2 : Int) := by omega
      have a2 : min (p2 : Int) (n : Int) = (q : Int) := by omega
      have hp3 : (k + 1) * m = p2 := by rw [Nat.succ_mul]; omega
      have DAk := DA.out p q k hpk (by rw [hp2]; exact hq)
      obtain ⟨da, hda⟩ : ∃ d, s.extract p q = d := ⟨_, rfl⟩
      rw [hda] at DAk
      have dsz : da.size ≤ 1024 := by rw [← hda, ByteArray.size_extract]; omega
      have k0 : (p = 0 ↔ k = 0) := by
        constructor
        · intro h
          apply Nat.eq_zero_of_not_pos
          intro h1
          have : 1 * 1 ≤ k * m := Nat.mul_le_mul h1 hm.1
          omega
        · intro h; rw [← hpk, h, Nat.zero_mul]
      have hkK1 : k < K := (KL.out k).2 (by omega)
      obtain ⟨cr2, hcr2⟩ : ∃ x, (cr + 1) % 16384 = x := ⟨_, rfl⟩
      have CTk := Lib.hid (show (f k).ct = (cr : Nat) by rw [CT.out k]; omega)
      have DDk := Lib.hid (show (f k).da = da by rw [DD.out k, ← DAk])
      have NX := Lib.hid (fun w => NC.out cr (by omega) w)
      rw [hcr2] at NX
      obtain ⟨b1, hb1⟩ : ∃ b, ((p : Int) == 0) = b := ⟨_, rfl⟩
      obtain ⟨b2, hb2⟩ : ∃ b, ((q : Int) == (n : Int)) = b := ⟨_, rfl⟩
      obtain ⟨fl, hfl⟩ : ∃ x, (if b1 = true then (1 : Int) else 0) + (if b2 = true then 2 else 0) = x := ⟨_, rfl⟩
      have FK := Lib.hid (show f k = ⟨cmd, ap, fl, (cr : Nat), da⟩ by
        rw [EE.out k, CTk.out, DDk.out, FL.out k, ← hfl, ← hb1, ← hb2, hp3]
        congr 2
        · by_cases e : p = 0
          · rw [if_pos (k0.1 e), if_pos (by simp; omega)]
          · rw [if_neg (fun h => e (k0.2 h)), if_neg (by simp; omega)]
        · by_cases e : n ≤ p2
          · rw [if_pos e, if_pos (by simp; omega)]
          · rw [if_neg e, if_neg (by simp; omega)])
      have SM := Lib.hid (show ∀ w, (Instr.slice 9 (.string s) (some (.int .i64 (p : Nat))) (some (.int .i64 (q : Nat))) none).run Try.prog w = .ok (.string da) w from fun w => by
        rw [run_slice_string (P := Try.prog) (w := w) 9 s .i64 .i64 (p : Nat) (q : Nat) Try.underlying9 (by omega) (by omega) (by omega)]
        show Result.ok (Value.string (s.extract ((p : Int)).toNat ((q : Int)).toNat)) w = _
        rw [Int.toNat_natCast, Int.toNat_natCast, hda])
      have HOWN := Lib.hid hown
      have HB := Lib.hid hB
      have HP := Lib.hid (And.intro hp3 (And.intro hkK1 (show (c + (k + 1)) % 16384 = cr2 by omega)))
      have FX := Lib.hid (And.intro hb1 (And.intro hb2 hfl))
      have pq : p ≤ q ∧ q ≤ n := by omega
      have kb : k ≤ 16384 := by omega
      clear hown hB DAk hda hp3 hkK hpk hkK1 hcr hcr2 hb1 hb2 hfl k0
      go_upto_region 10 with fail
      refine spRegion k sc p q n cr wr.heap.size sa cmd b1 b2 ap fl s da sn pq.1 pq.2 FX.out.1 FX.out.2.1 FX.out.2.2 SM.out (by omega) (Nat.le_refl _) (by kernel_rfl) rfl rfl rfl rfl rfl rfl rfl rfl rfl rfl rfl rfl rfl rfl rfl rfl rfl rfl rfl rfl rfl rfl rfl rfl rfl rfl ?_
      rintro v17 w8 h8 ⟨D, rfl, hD, CD⟩
      simp only [Act.put, List.setIfInBounds_toArray, List.set_cons_succ, List.set_cons_zero, List.drop_succ_cons, List.drop_zero]
      have OO := Lib.hid (own_below HOWN.out h8)
      have BB := Lib.hid (bt HB.out h8)
      have C8 := Lib.hid CD
      clear h8 hD CD
      go_wp2_with (at_builtin; refine wpList_append_own2 rfl _ _ 36 rfl w.heap.size 23 j0 (.agg #[.bool false, .int .i64 0, .int .i64 0, .int .i64 0, .string ⟨#[]⟩]) 5 48 Try.underlying36 hj0 hy0 hy1 hy2 rfl (by decide) _ _ _ rfl OO.out ⟨D, 0, none⟩ 1 1 (pk5 ⟨cmd, ap, fl, (cr : Nat), da⟩) rfl rfl (pk5_cells C8.out) (pk5_one _) (by unfold maxLen; omega) (by omega) BB.out.size ?_; intro bv2 w9 hown9 hgrow9 hblk9; obtain ⟨b2a, b2c, rfl⟩ := own_is hown9; have HO9 := Lib.hid hown9; have HG9 := Lib.hid hgrow9; clear hown9 hgrow9 hblk9)
      (with_reducible refine (NX.out _).mono ?_)
      rintro e w' ⟨rfl, rfl⟩
      go_wp2_with fail
      go_roundw
      case rel => exact ⟨k + 1, p2, cr2, b2a, b2c, HP.out.2.1, HP.out.1, HP.out.2.2, by go_num, rfl, rfl, (by
        have h := HO9.out
        rw [← FK.out] at h
        exact h), BB.out.grown HG9.out BB.out.size (fun j hj => own_block_ge OO.out hj)⟩
      case measure => simp [intOf]; omega
    · have r1 : decide ((p : Int) < (n : Int)) = false := by simp; omega
      have r1n : decide (p < n) = false := decide_eq_false hlt
      have kK : k = K := by
        have := (KL.out k).1
        omega
      have HOWN := Lib.hid hown
      have HB := Lib.hid hB
      have HK := Lib.hid kK
      clear hown hB kK hlt hkK hpk hcr
      go_wp2_with fail
      go_ret2
      exact ⟨sa, sc, by rw [HK.out]; rfl, by rw [← HK.out]; exact HOWN.out, HB.out⟩
end Go.Proofs.Ytphkaambodecdaa
