/- The regions of galois' add, Eval, Product, Quotient that draw their order. -/
import Derived.Test.YtlpjhmafplljaaaGreatDoorGalTrim
import Derived.Test.YtlpjhmafplljaaaGreatDoorRegG
namespace Go.Proofs.YtlpjhmafplljaaaGreatDoor
open Go.RowKit
set_option linter.unusedVariables false

section
variable {P : Program} {Q : Exit → Act → World → Prop}
theorem step_callv {o : Oper} {a : Act} {w : World} {K : Act → World → Prop} (f : FuncId) (first : Array Value) (hf : ∀ args w, (callFunc f args).run P w = .ok (.enter f args) w) (x : Operand) (hx0 : a.eval x = .func (.func f) first #[]) (xs : Array Operand) (ts : Array TypeId) (ho : o.op = .call { callee := .value x, args := xs, argTypes := ts })
    (args : Array Value) (hx : xs.map a.eval = args) (hc : Calls P f (first ++ args) w fun e w' => ∃ v, e = .returned v ∧ K (a.put o.dst v) w') : o.wp P a w K Q := by
  unfold Oper.wp
  have hrun : (execOp a.eval o).run P w = .ok (.enter f (first ++ args)) w := by
    subst hx
    simp only [execOp, ho, resolve, hx0, Deferred.ofValue, invoke]; simp [hf]
  rw [hrun, Oper.upon_enter]
  exact hc.mono fun e w' ⟨v, he, hk⟩ => by subst he; exact hk
end
/-- The function value that multiplies by x. -/
abbrev byTimes (tb : Nat) (x : BitVec 8) : Value := .func (.func 62) #[.agg #[.pointer (some ⟨tb, 0, none⟩), .int .u8 (x.toNat : Nat)]] #[]
structure AddRegion (sb at0 i len cap N tb : Nat) (x : BitVec 8) (q : ByteArray) (f : Nat → BitVec 8) (A : Act) (w0 : World) (s : Nat → Bool) (a : Act) (w : World) : Prop where
  off : Off [12, 13, 14, 15, 16, 17, 18, 19, 20, 21, 22] a A
  before : s 11 = false → Below w0.heap.size w0 w
  behind : s 11 = true → ∃ w1, Below w0.heap.size w0 w1 ∧ w = w1.setCell ⟨sb, at0 + i, none⟩ (.int .u8 ((f (at0 + i) ^^^ Gal.mul x (Gal.co q.data.toList i)).toNat : Nat))
  t0 : s 0 = true → a.eval (.tmp 12) = .slice (some ⟨sb, at0, none⟩) len cap
  t1 : s 1 = true → a.eval (.tmp 13) = .int .i64 (i : Nat)
  t2 : s 2 = true → a.eval (.tmp 14) = .pointer (some ⟨sb, at0 + i, none⟩)
  t3 : s 3 = true → a.eval (.tmp 15) = .int .u8 ((f (at0 + i)).toNat : Nat)
  t4 : s 4 = true → a.eval (.tmp 16) = byTimes tb x
  t5 : s 5 = true → a.eval (.tmp 17) = .string q
  t6 : s 6 = true → a.eval (.tmp 18) = .int .i64 (i : Nat)
  t7 : s 7 = true → a.eval (.tmp 19) = .int .u8 ((Gal.co q.data.toList i).toNat : Nat)
  t8 : s 8 = true → a.eval (.tmp 20) = .int .u8 ((Gal.mul x (Gal.co q.data.toList i)).toNat : Nat)
  t9 : s 9 = true → a.eval (.tmp 21) = .int .u8 ((f (at0 + i) ^^^ Gal.mul x (Gal.co q.data.toList i)).toNat : Nat)
  t10 : s 10 = true → a.eval (.tmp 22) = .pointer (some ⟨sb, at0 + i, none⟩)
set_option maxHeartbeats 2000000 in
set_option maxRecDepth 100000 in
theorem addRegion {id : Nat} {d : Bool} {l : List Oper} {A : Act} {w : World} {Q : Exit → Act → World → Prop} (sb at0 i len cap N tb : Nat) (x : BitVec 8) (q : ByteArray) (f : Nat → BitVec 8)
    (hi : i < q.size) (hlen : i < len) (hN : at0 + i < N) (hF : NumsK .u8 w sb N (fun j => (f j).toNat)) (hT0 : Tabs w tb Gal.tab)
    (hB : tableL d l.toArray (fun i => match i with | 0 => [] | 1 => [] | 2 => [0, 1] | 3 => [2] | 4 => [] | 5 => [] | 6 => [] | 7 => [5, 6] | 8 => [4, 7] | 9 => [3, 8] | 10 => [0, 1] | 11 => [0, 1, 2, 3, 4, 5, 6, 7, 8, 9, 10] | _ => []) (fun i => match i with | 0 => [11] | 1 => [11] | 2 => [11] | 3 => [11] | 4 => [11] | 5 => [11] | 6 => [11] | 7 => [11] | 8 => [11] | 9 => [11] | 10 => [11] | 11 => [] | _ => []) = true) (hl : l.length = 12)
    (h0 : pick l 0 = some (.move (.tmp 0), some 12))
    (h1 : pick l 1 = some (.move (.tmp 6), some 13))
    (h2 : pick l 2 = some (.indexAddr 41 (.tmp 12) (.tmp 13), some 14))
    (h3 : pick l 3 = some (.load 5 (.tmp 14), some 15))
    (h4 : pick l 4 = some (.move (.tmp 2), some 16))
    (h5 : pick l 5 = some (.move (.tmp 1), some 17))
    (h6 : pick l 6 = some (.move (.tmp 6), some 18))
    (h7 : pick l 7 = some (.index 9 (.tmp 17) (.tmp 18), some 19))
    (h8 : pick l 8 = some (.call { callee := .value (.tmp 16), args := #[.tmp 19], argTypes := #[5] }, some 20))
    (h9 : pick l 9 = some (.binOp .xor 5 (.tmp 15) (.tmp 20) 5, some 21))
    (h10 : pick l 10 = some (.indexAddr 41 (.tmp 12) (.tmp 13), some 22))
    (h11 : pick l 11 = some (.store 5 (.tmp 22) (.tmp 21), none))
    (hs : A.tmps.size = 24)
    (x0 : A.eval (.tmp 0) = .slice (some ⟨sb, at0, none⟩) len cap)
    (x1 : A.eval (.tmp 1) = .string q)
    (x2 : A.eval (.tmp 2) = byTimes tb x)
    (x6 : A.eval (.tmp 6) = .int .i64 (i : Nat))
    (h : ∀ w1, Below w.heap.size w w1 → Q .normal (((((((((((A.put (some 12) (.slice (some ⟨sb, at0, none⟩) len cap)).put (some 13) (.int .i64 (i : Nat))).put (some 14) (.pointer (some ⟨sb, at0 + i, none⟩))).put (some 15) (.int .u8 ((f (at0 + i)).toNat : Nat))).put (some 16) (byTimes tb x)).put (some 17) (.string q)).put (some 18) (.int .i64 (i : Nat))).put (some 19) (.int .u8 ((Gal.co q.data.toList i).toNat : Nat))).put (some 20) (.int .u8 ((Gal.mul x (Gal.co q.data.toList i)).toNat : Nat))).put (some 21) (.int .u8 ((f (at0 + i) ^^^ Gal.mul x (Gal.co q.data.toList i)).toNat : Nat))).put (some 22) (.pointer (some ⟨sb, at0 + i, none⟩))) (w1.setCell ⟨sb, at0 + i, none⟩ (.int .u8 ((f (at0 + i) ^^^ Gal.mul x (Gal.co q.data.toList i)).toNat : Nat)))) :
    (Code.region id l.toArray d).wp Tryz.prog Q A w := by
  refine wp_region_invL (by kernel_rfl) _ _ hB (AddRegion sb at0 i len cap N tb x q f A w) ⟨Off.refl _ _, fun _ => Below.refl _ _, by simp, by simp, by simp, by simp, by simp, by simp, by simp, by simp, by simp, by simp, by simp, by simp⟩ ⟨Off.refl _ _, fun _ => (Below.refl _ _).drew, by simp, by simp, by simp, by simp, by simp, by simp, by simp, by simp, by simp, by simp, by simp, by simp⟩ ?_ ?_
  · intro s a w' S i' o ho hsi hT K hK
    have sz : a.tmps.size = 24 := by rw [S.off.2.1]; exact hs
    have il : i' < 12 := by have := (List.getElem?_eq_some_iff.1 ho).1; omega
    have y0 : a.eval (.tmp 0) = .slice (some ⟨sb, at0, none⟩) len cap := by rw [S.off.eval (by decide)]; exact x0
    have y1 : a.eval (.tmp 1) = .string q := by rw [S.off.eval (by decide)]; exact x1
    have y2 : a.eval (.tmp 2) = byTimes tb x := by rw [S.off.eval (by decide)]; exact x2
    have y6 : a.eval (.tmp 6) = .int .i64 (i : Nat) := by rw [S.off.eval (by decide)]; exact x6
    match i', il, ho, hsi, hT with
    | 0, _, ho, hsi, hT =>
      obtain ⟨e1, e2⟩ := pick_of h0 ho
      have NL : s 11 = false := list_neg hT (k := 11) (by decide)
      have BW := S.before NL
      refine step_val (v := .slice (some ⟨sb, at0, none⟩) len cap) (by simp only [execOp, e1, y0]; go_simp) (hK _ _ ?_)
      rw [e2]
      exact ⟨S.off.put (by decide) _, fun _ => S.before NL, fun g => absurd g (by simp [NL]), fun _ => (eval_put _ _ _ (by omega)).trans rfl, kp S.t1, kp S.t2, kp S.t3, kp S.t4, kp S.t5, kp S.t6, kp S.t7, kp S.t8, kp S.t9, kp S.t10⟩
    | 1, _, ho, hsi, hT =>
      obtain ⟨e1, e2⟩ := pick_of h1 ho
      have NL : s 11 = false := list_neg hT (k := 11) (by decide)
      have BW := S.before NL
      refine step_val (v := .int .i64 (i : Nat)) (by simp only [execOp, e1, y6]; go_simp) (hK _ _ ?_)
      rw [e2]
      exact ⟨S.off.put (by decide) _, fun _ => S.before NL, fun g => absurd g (by simp [NL]), kp S.t0, fun _ => (eval_put _ _ _ (by omega)).trans rfl, kp S.t2, kp S.t3, kp S.t4, kp S.t5, kp S.t6, kp S.t7, kp S.t8, kp S.t9, kp S.t10⟩
    | 2, _, ho, hsi, hT =>
      obtain ⟨e1, e2⟩ := pick_of h2 ho
      have D0 : s 0 = true := list_pos hT (d := 0) (by decide)
      have D1 : s 1 = true := list_pos hT (d := 1) (by decide)
      have NL : s 11 = false := list_neg hT (k := 11) (by decide)
      have BW := S.before NL
      refine step_val (v := .pointer (some ⟨sb, at0 + i, none⟩)) (by simp only [execOp, e1, S.t0 D0, S.t1 D1]; go_simp) (hK _ _ ?_)
      rw [e2]
      exact ⟨S.off.put (by decide) _, fun _ => S.before NL, fun g => absurd g (by simp [NL]), kp S.t0, kp S.t1, fun _ => (eval_put _ _ _ (by omega)).trans rfl, kp S.t3, kp S.t4, kp S.t5, kp S.t6, kp S.t7, kp S.t8, kp S.t9, kp S.t10⟩
    | 3, _, ho, hsi, hT =>
      obtain ⟨e1, e2⟩ := pick_of h3 ho
      have D2 : s 2 = true := list_pos hT (d := 2) (by decide)
      have NL : s 11 = false := list_neg hT (k := 11) (by decide)
      have BW := S.before NL
      have cl := (hF.below BW).cell hN
      refine step_val (v := .int .u8 ((f (at0 + i)).toNat : Nat)) (by simp only [execOp, e1, S.t2 D2]; go_simp) (hK _ _ ?_)
      rw [e2]
      exact ⟨S.off.put (by decide) _, fun _ => S.before NL, fun g => absurd g (by simp [NL]), kp S.t0, kp S.t1, kp S.t2, fun _ => (eval_put _ _ _ (by omega)).trans rfl, kp S.t4, kp S.t5, kp S.t6, kp S.t7, kp S.t8, kp S.t9, kp S.t10⟩
    | 4, _, ho, hsi, hT =>
      obtain ⟨e1, e2⟩ := pick_of h4 ho
      have NL : s 11 = false := list_neg hT (k := 11) (by decide)
      have BW := S.before NL
      refine step_val (v := byTimes tb x) (by simp only [execOp, e1, y2]; go_simp) (hK _ _ ?_)
      rw [e2]
      exact ⟨S.off.put (by decide) _, fun _ => S.before NL, fun g => absurd g (by simp [NL]), kp S.t0, kp S.t1, kp S.t2, kp S.t3, fun _ => (eval_put _ _ _ (by omega)).trans rfl, kp S.t5, kp S.t6, kp S.t7, kp S.t8, kp S.t9, kp S.t10⟩
    | 5, _, ho, hsi, hT =>
      obtain ⟨e1, e2⟩ := pick_of h5 ho
      have NL : s 11 = false := list_neg hT (k := 11) (by decide)
      have BW := S.before NL
      refine step_val (v := .string q) (by simp only [execOp, e1, y1]; go_simp) (hK _ _ ?_)
      rw [e2]
      exact ⟨S.off.put (by decide) _, fun _ => S.before NL, fun g => absurd g (by simp [NL]), kp S.t0, kp S.t1, kp S.t2, kp S.t3, kp S.t4, fun _ => (eval_put _ _ _ (by omega)).trans rfl, kp S.t6, kp S.t7, kp S.t8, kp S.t9, kp S.t10⟩
    | 6, _, ho, hsi, hT =>
      obtain ⟨e1, e2⟩ := pick_of h6 ho
      have NL : s 11 = false := list_neg hT (k := 11) (by decide)
      have BW := S.before NL
      refine step_val (v := .int .i64 (i : Nat)) (by simp only [execOp, e1, y6]; go_simp) (hK _ _ ?_)
      rw [e2]
      exact ⟨S.off.put (by decide) _, fun _ => S.before NL, fun g => absurd g (by simp [NL]), kp S.t0, kp S.t1, kp S.t2, kp S.t3, kp S.t4, kp S.t5, fun _ => (eval_put _ _ _ (by omega)).trans rfl, kp S.t7, kp S.t8, kp S.t9, kp S.t10⟩
    | 7, _, ho, hsi, hT =>
      obtain ⟨e1, e2⟩ := pick_of h7 ho
      have D5 : s 5 = true := list_pos hT (d := 5) (by decide)
      have D6 : s 6 = true := list_pos hT (d := 6) (by decide)
      have NL : s 11 = false := list_neg hT (k := 11) (by decide)
      have BW := S.before NL
      have bc := byte_co q i hi
      refine step_val (v := .int .u8 ((Gal.co q.data.toList i).toNat : Nat)) (by simp only [execOp, e1, S.t5 D5, S.t6 D6]; go_simp) (hK _ _ ?_)
      rw [e2]
      exact ⟨S.off.put (by decide) _, fun _ => S.before NL, fun g => absurd g (by simp [NL]), kp S.t0, kp S.t1, kp S.t2, kp S.t3, kp S.t4, kp S.t5, kp S.t6, fun _ => (eval_put _ _ _ (by omega)).trans rfl, kp S.t8, kp S.t9, kp S.t10⟩
    | 8, _, ho, hsi, hT =>
      obtain ⟨e1, e2⟩ := pick_of h8 ho
      have D4 : s 4 = true := list_pos hT (d := 4) (by decide)
      have D7 : s 7 = true := list_pos hT (d := 7) (by decide)
      have NL : s 11 = false := list_neg hT (k := 11) (by decide)
      have BW := S.before NL
      refine step_callv 62 #[.agg #[.pointer (some ⟨tb, 0, none⟩), .int .u8 (x.toNat : Nat)]] (fun args w => by go_simp) _ (by simp only [S.t4 D4]) _ _ e1 #[.int .u8 ((Gal.co q.data.toList i).toNat : Nat)] (by simp only [List.map_toArray, List.map_cons, List.map_nil, S.t7 D7]) ((times_any tb x (Gal.co q.data.toList i) _ (hT0.below BW)).mono ?_)
      rintro e w2 ⟨rfl, BB⟩
      refine ⟨_, rfl, hK _ _ ?_⟩
      rw [e2]
      exact ⟨S.off.put (by decide) _, fun _ => bt BW BB, fun g => absurd g (by simp [NL]), kp S.t0, kp S.t1, kp S.t2, kp S.t3, kp S.t4, kp S.t5, kp S.t6, kp S.t7, fun _ => (eval_put _ _ _ (by omega)).trans rfl, kp S.t9, kp S.t10⟩
    | 9, _, ho, hsi, hT =>
      obtain ⟨e1, e2⟩ := pick_of h9 ho
      have D3 : s 3 = true := list_pos hT (d := 3) (by decide)
      have D8 : s 8 = true := list_pos hT (d := 8) (by decide)
      have NL : s 11 = false := list_neg hT (k := 11) (by decide)
      have BW := S.before NL
      have xr := xor8 (f (at0 + i)) (Gal.mul x (Gal.co q.data.toList i))
      refine step_val (v := .int .u8 ((f (at0 + i) ^^^ Gal.mul x (Gal.co q.data.toList i)).toNat : Nat)) (by simp only [execOp, e1, S.t3 D3, S.t8 D8]; go_simp) (hK _ _ ?_)
      rw [e2]
      exact ⟨S.off.put (by decide) _, fun _ => S.before NL, fun g => absurd g (by simp [NL]), kp S.t0, kp S.t1, kp S.t2, kp S.t3, kp S.t4, kp S.t5, kp S.t6, kp S.t7, kp S.t8, fun _ => (eval_put _ _ _ (by omega)).trans rfl, kp S.t10⟩
    | 10, _, ho, hsi, hT =>
      obtain ⟨e1, e2⟩ := pick_of h10 ho
      have D0 : s 0 = true := list_pos hT (d := 0) (by decide)
      have D1 : s 1 = true := list_pos hT (d := 1) (by decide)
      have NL : s 11 = false := list_neg hT (k := 11) (by decide)
      have BW := S.before NL
      refine step_val (v := .pointer (some ⟨sb, at0 + i, none⟩)) (by simp only [execOp, e1, S.t0 D0, S.t1 D1]; go_simp) (hK _ _ ?_)
      rw [e2]
      exact ⟨S.off.put (by decide) _, fun _ => S.before NL, fun g => absurd g (by simp [NL]), kp S.t0, kp S.t1, kp S.t2, kp S.t3, kp S.t4, kp S.t5, kp S.t6, kp S.t7, kp S.t8, kp S.t9, fun _ => (eval_put _ _ _ (by omega)).trans rfl⟩
    | 11, _, ho, hsi, hT =>
      obtain ⟨e1, e2⟩ := pick_of h11 ho
      have D0 : s 0 = true := list_pos hT (d := 0) (by decide)
      have D1 : s 1 = true := list_pos hT (d := 1) (by decide)
      have D2 : s 2 = true := list_pos hT (d := 2) (by decide)
      have D3 : s 3 = true := list_pos hT (d := 3) (by decide)
      have D4 : s 4 = true := list_pos hT (d := 4) (by decide)
      have D5 : s 5 = true := list_pos hT (d := 5) (by decide)
      have D6 : s 6 = true := list_pos hT (d := 6) (by decide)
      have D7 : s 7 = true := list_pos hT (d := 7) (by decide)
      have D8 : s 8 = true := list_pos hT (d := 8) (by decide)
      have D9 : s 9 = true := list_pos hT (d := 9) (by decide)
      have D10 : s 10 = true := list_pos hT (d := 10) (by decide)
      have BW := S.before hsi
      have cl := (hF.below BW).cell hN
      have fz := (hF.below BW).frozen hN
      refine step_to (w2 := w'.setCell ⟨sb, at0 + i, none⟩ (.int .u8 ((f (at0 + i) ^^^ Gal.mul x (Gal.co q.data.toList i)).toNat : Nat))) (by simp only [execOp, e1, S.t9 D9, S.t10 D10]; go_simp) (hK _ _ ?_)
      rw [e2]
      exact ⟨S.off.put_none _, fun g => absurd g (by simp), fun _ => ⟨w', BW, rfl⟩, fun g => S.t0 (by simpa using g), fun g => S.t1 (by simpa using g), fun g => S.t2 (by simpa using g), fun g => S.t3 (by simpa using g), fun g => S.t4 (by simpa using g), fun g => S.t5 (by simpa using g), fun g => S.t6 (by simpa using g), fun g => S.t7 (by simpa using g), fun g => S.t8 (by simpa using g), fun g => S.t9 (by simpa using g), fun g => S.t10 (by simpa using g)⟩
  · intro s a w' S hall
    have a0 := hall 0 (by omega)
    have a1 := hall 1 (by omega)
    have a2 := hall 2 (by omega)
    have a3 := hall 3 (by omega)
    have a4 := hall 4 (by omega)
    have a5 := hall 5 (by omega)
    have a6 := hall 6 (by omega)
    have a7 := hall 7 (by omega)
    have a8 := hall 8 (by omega)
    have a9 := hall 9 (by omega)
    have a10 := hall 10 (by omega)
    have a11 := hall 11 (by omega)
    have e := off_norm _ (by intro d hd; simp at hd; omega) S.off
    simp only [List.foldl, S.t0 a0, S.t1 a1, S.t2 a2, S.t3 a3, S.t4 a4, S.t5 a5, S.t6 a6, S.t7 a7, S.t8 a8, S.t9 a9, S.t10 a10] at e
    obtain ⟨w1, BW, rfl⟩ := S.behind a11
    rw [e]
    exact h _ BW
structure SumRegion (sb i N : Nat) (q : ByteArray) (f : Nat → BitVec 8) (A : Act) (w0 : World) (s : Nat → Bool) (a : Act) (w : World) : Prop where
  off : Off [21, 22, 23, 24, 25, 26, 27, 28, 29] a A
  before : s 9 = false → Below w0.heap.size w0 w
  behind : s 9 = true → ∃ w1, Below w0.heap.size w0 w1 ∧ w = w1.setCell ⟨sb, i, none⟩ (.int .u8 ((f i ^^^ Gal.co q.data.toList i).toNat : Nat))
  t0 : s 0 = true → a.eval (.tmp 21) = .slice (some ⟨sb, 0, none⟩) N N
  t1 : s 1 = true → a.eval (.tmp 22) = .int .i64 (i : Nat)
  t2 : s 2 = true → a.eval (.tmp 23) = .pointer (some ⟨sb, i, none⟩)
  t3 : s 3 = true → a.eval (.tmp 24) = .int .u8 ((f i).toNat : Nat)
  t4 : s 4 = true → a.eval (.tmp 25) = .string q
  t5 : s 5 = true → a.eval (.tmp 26) = .int .i64 (i : Nat)
  t6 : s 6 = true → a.eval (.tmp 27) = .int .u8 ((Gal.co q.data.toList i).toNat : Nat)
  t7 : s 7 = true → a.eval (.tmp 28) = .int .u8 ((f i ^^^ Gal.co q.data.toList i).toNat : Nat)
  t8 : s 8 = true → a.eval (.tmp 29) = .pointer (some ⟨sb, i, none⟩)
set_option maxHeartbeats 2000000 in
set_option maxRecDepth 100000 in
theorem sumRegion {id : Nat} {d : Bool} {l : List Oper} {A : Act} {w : World} {Q : Exit → Act → World → Prop} (sb i N : Nat) (q : ByteArray) (f : Nat → BitVec 8)
    (hi : i < q.size) (hN : i < N) (hF : NumsK .u8 w sb N (fun j => (f j).toNat))
    (hB : tableL d l.toArray (fun i => match i with | 0 => [] | 1 => [] | 2 => [0, 1] | 3 => [2] | 4 => [] | 5 => [] | 6 => [4, 5] | 7 => [3, 6] | 8 => [0, 1] | 9 => [0, 1, 2, 3, 4, 5, 6, 7, 8] | _ => []) (fun i => match i with | 0 => [9] | 1 => [9] | 2 => [9] | 3 => [9] | 4 => [9] | 5 => [9] | 6 => [9] | 7 => [9] | 8 => [9] | 9 => [] | _ => []) = true) (hl : l.length = 10)
    (h0 : pick l 0 = some (.move (.tmp 5), some 21))
    (h1 : pick l 1 = some (.move (.tmp 6), some 22))
    (h2 : pick l 2 = some (.indexAddr 41 (.tmp 21) (.tmp 22), some 23))
    (h3 : pick l 3 = some (.load 5 (.tmp 23), some 24))
    (h4 : pick l 4 = some (.move (.tmp 1), some 25))
    (h5 : pick l 5 = some (.move (.tmp 6), some 26))
    (h6 : pick l 6 = some (.index 9 (.tmp 25) (.tmp 26), some 27))
    (h7 : pick l 7 = some (.binOp .xor 5 (.tmp 24) (.tmp 27) 5, some 28))
    (h8 : pick l 8 = some (.indexAddr 41 (.tmp 21) (.tmp 22), some 29))
    (h9 : pick l 9 = some (.store 5 (.tmp 29) (.tmp 28), none))
    (hs : A.tmps.size = 34)
    (x1 : A.eval (.tmp 1) = .string q)
    (x5 : A.eval (.tmp 5) = .slice (some ⟨sb, 0, none⟩) N N)
    (x6 : A.eval (.tmp 6) = .int .i64 (i : Nat))
    (h : ∀ w1, Below w.heap.size w w1 → Q .normal (((((((((A.put (some 21) (.slice (some ⟨sb, 0, none⟩) N N)).put (some 22) (.int .i64 (i : Nat))).put (some 23) (.pointer (some ⟨sb, i, none⟩))).put (some 24) (.int .u8 ((f i).toNat : Nat))).put (some 25) (.string q)).put (some 26) (.int .i64 (i : Nat))).put (some 27) (.int .u8 ((Gal.co q.data.toList i).toNat : Nat))).put (some 28) (.int .u8 ((f i ^^^ Gal.co q.data.toList i).toNat : Nat))).put (some 29) (.pointer (some ⟨sb, i, none⟩))) (w1.setCell ⟨sb, i, none⟩ (.int .u8 ((f i ^^^ Gal.co q.data.toList i).toNat : Nat)))) :
    (Code.region id l.toArray d).wp Tryz.prog Q A w := by
  refine wp_region_invL (by kernel_rfl) _ _ hB (SumRegion sb i N q f A w) ⟨Off.refl _ _, fun _ => Below.refl _ _, by simp, by simp, by simp, by simp, by simp, by simp, by simp, by simp, by simp, by simp⟩ ⟨Off.refl _ _, fun _ => (Below.refl _ _).drew, by simp, by simp, by simp, by simp, by simp, by simp, by simp, by simp, by simp, by simp⟩ ?_ ?_
  · intro s a w' S i' o ho hsi hT K hK
    have sz : a.tmps.size = 34 := by rw [S.off.2.1]; exact hs
    have il : i' < 10 := by have := (List.getElem?_eq_some_iff.1 ho).1; omega
    have y1 : a.eval (.tmp 1) = .string q := by rw [S.off.eval (by decide)]; exact x1
    have y5 : a.eval (.tmp 5) = .slice (some ⟨sb, 0, none⟩) N N := by rw [S.off.eval (by decide)]; exact x5
    have y6 : a.eval (.tmp 6) = .int .i64 (i : Nat) := by rw [S.off.eval (by decide)]; exact x6
    match i', il, ho, hsi, hT with
    | 0, _, ho, hsi, hT =>
      obtain ⟨e1, e2⟩ := pick_of h0 ho
      have NL : s 9 = false := list_neg hT (k := 9) (by decide)
      have BW := S.before NL
      refine step_val (v := .slice (some ⟨sb, 0, none⟩) N N) (by simp only [execOp, e1, y5]; go_simp) (hK _ _ ?_)
      rw [e2]
      exact ⟨S.off.put (by decide) _, fun _ => S.before NL, fun g => absurd g (by simp [NL]), fun _ => (eval_put _ _ _ (by omega)).trans rfl, kp S.t1, kp S.t2, kp S.t3, kp S.t4, kp S.t5, kp S.t6, kp S.t7, kp S.t8⟩
    | 1, _, ho, hsi, hT =>
      obtain ⟨e1, e2⟩ := pick_of h1 ho
      have NL : s 9 = false := list_neg hT (k := 9) (by decide)
      have BW := S.before NL
      refine step_val (v := .int .i64 (i : Nat)) (by simp only [execOp, e1, y6]; go_simp) (hK _ _ ?_)
      rw [e2]
      exact ⟨S.off.put (by decide) _, fun _ => S.before NL, fun g => absurd g (by simp [NL]), kp S.t0, fun _ => (eval_put _ _ _ (by omega)).trans rfl, kp S.t2, kp S.t3, kp S.t4, kp S.t5, kp S.t6, kp S.t7, kp S.t8⟩
    | 2, _, ho, hsi, hT =>
      obtain ⟨e1, e2⟩ := pick_of h2 ho
      have D0 : s 0 = true := list_pos hT (d := 0) (by decide)
      have D1 : s 1 = true := list_pos hT (d := 1) (by decide)
      have NL : s 9 = false := list_neg hT (k := 9) (by decide)
      have BW := S.before NL
      refine step_val (v := .pointer (some ⟨sb, i, none⟩)) (by simp only [execOp, e1, S.t0 D0, S.t1 D1]; go_simp) (hK _ _ ?_)
      rw [e2]
      exact ⟨S.off.put (by decide) _, fun _ => S.before NL, fun g => absurd g (by simp [NL]), kp S.t0, kp S.t1, fun _ => (eval_put _ _ _ (by omega)).trans rfl, kp S.t3, kp S.t4, kp S.t5, kp S.t6, kp S.t7, kp S.t8⟩
    | 3, _, ho, hsi, hT =>
      obtain ⟨e1, e2⟩ := pick_of h3 ho
      have D2 : s 2 = true := list_pos hT (d := 2) (by decide)
      have NL : s 9 = false := list_neg hT (k := 9) (by decide)
      have BW := S.before NL
      have cl := (hF.below BW).cell hN
      refine step_val (v := .int .u8 ((f i).toNat : Nat)) (by simp only [execOp, e1, S.t2 D2]; go_simp) (hK _ _ ?_)
      rw [e2]
      exact ⟨S.off.put (by decide) _, fun _ => S.before NL, fun g => absurd g (by simp [NL]), kp S.t0, kp S.t1, kp S.t2, fun _ => (eval_put _ _ _ (by omega)).trans rfl, kp S.t4, kp S.t5, kp S.t6, kp S.t7, kp S.t8⟩
    | 4, _, ho, hsi, hT =>
      obtain ⟨e1, e2⟩ := pick_of h4 ho
      have NL : s 9 = false := list_neg hT (k := 9) (by decide)
      have BW := S.before NL
      refine step_val (v := .string q) (by simp only [execOp, e1, y1]; go_simp) (hK _ _ ?_)
      rw [e2]
      exact ⟨S.off.put (by decide) _, fun _ => S.before NL, fun g => absurd g (by simp [NL]), kp S.t0, kp S.t1, kp S.t2, kp S.t3, fun _ => (eval_put _ _ _ (by omega)).trans rfl, kp S.t5, kp S.t6, kp S.t7, kp S.t8⟩
    | 5, _, ho, hsi, hT =>
      obtain ⟨e1, e2⟩ := pick_of h5 ho
      have NL : s 9 = false := list_neg hT (k := 9) (by decide)
      have BW := S.before NL
      refine step_val (v := .int .i64 (i : Nat)) (by simp only [execOp, e1, y6]; go_simp) (hK _ _ ?_)
      rw [e2]
      exact ⟨S.off.put (by decide) _, fun _ => S.before NL, fun g => absurd g (by simp [NL]), kp S.t0, kp S.t1, kp S.t2, kp S.t3, kp S.t4, fun _ => (eval_put _ _ _ (by omega)).trans rfl, kp S.t6, kp S.t7, kp S.t8⟩
    | 6, _, ho, hsi, hT =>
      obtain ⟨e1, e2⟩ := pick_of h6 ho
      have D4 : s 4 = true := list_pos hT (d := 4) (by decide)
      have D5 : s 5 = true := list_pos hT (d := 5) (by decide)
      have NL : s 9 = false := list_neg hT (k := 9) (by decide)
      have BW := S.before NL
      have bc := byte_co q i hi
      refine step_val (v := .int .u8 ((Gal.co q.data.toList i).toNat : Nat)) (by simp only [execOp, e1, S.t4 D4, S.t5 D5]; go_simp) (hK _ _ ?_)
      rw [e2]
      exact ⟨S.off.put (by decide) _, fun _ => S.before NL, fun g => absurd g (by simp [NL]), kp S.t0, kp S.t1, kp S.t2, kp S.t3, kp S.t4, kp S.t5, fun _ => (eval_put _ _ _ (by omega)).trans rfl, kp S.t7, kp S.t8⟩
    | 7, _, ho, hsi, hT =>
      obtain ⟨e1, e2⟩ := pick_of h7 ho
      have D3 : s 3 = true := list_pos hT (d := 3) (by decide)
      have D6 : s 6 = true := list_pos hT (d := 6) (by decide)
      have NL : s 9 = false := list_neg hT (k := 9) (by decide)
      have BW := S.before NL
      have xr := xor8 (f i) (Gal.co q.data.toList i)
      refine step_val (v := .int .u8 ((f i ^^^ Gal.co q.data.toList i).toNat : Nat)) (by simp only [execOp, e1, S.t3 D3, S.t6 D6]; go_simp) (hK _ _ ?_)
      rw [e2]
      exact ⟨S.off.put (by decide) _, fun _ => S.before NL, fun g => absurd g (by simp [NL]), kp S.t0, kp S.t1, kp S.t2, kp S.t3, kp S.t4, kp S.t5, kp S.t6, fun _ => (eval_put _ _ _ (by omega)).trans rfl, kp S.t8⟩
    | 8, _, ho, hsi, hT =>
      obtain ⟨e1, e2⟩ := pick_of h8 ho
      have D0 : s 0 = true := list_pos hT (d := 0) (by decide)
      have D1 : s 1 = true := list_pos hT (d := 1) (by decide)
      have NL : s 9 = false := list_neg hT (k := 9) (by decide)
      have BW := S.before NL
      refine step_val (v := .pointer (some ⟨sb, i, none⟩)) (by simp only [execOp, e1, S.t0 D0, S.t1 D1]; go_simp) (hK _ _ ?_)
      rw [e2]
      exact ⟨S.off.put (by decide) _, fun _ => S.before NL, fun g => absurd g (by simp [NL]), kp S.t0, kp S.t1, kp S.t2, kp S.t3, kp S.t4, kp S.t5, kp S.t6, kp S.t7, fun _ => (eval_put _ _ _ (by omega)).trans rfl⟩
    | 9, _, ho, hsi, hT =>
      obtain ⟨e1, e2⟩ := pick_of h9 ho
      have D0 : s 0 = true := list_pos hT (d := 0) (by decide)
      have D1 : s 1 = true := list_pos hT (d := 1) (by decide)
      have D2 : s 2 = true := list_pos hT (d := 2) (by decide)
      have D3 : s 3 = true := list_pos hT (d := 3) (by decide)
      have D4 : s 4 = true := list_pos hT (d := 4) (by decide)
      have D5 : s 5 = true := list_pos hT (d := 5) (by decide)
      have D6 : s 6 = true := list_pos hT (d := 6) (by decide)
      have D7 : s 7 = true := list_pos hT (d := 7) (by decide)
      have D8 : s 8 = true := list_pos hT (d := 8) (by decide)
      have BW := S.before hsi
      have cl := (hF.below BW).cell hN
      have fz := (hF.below BW).frozen hN
      refine step_to (w2 := w'.setCell ⟨sb, i, none⟩ (.int .u8 ((f i ^^^ Gal.co q.data.toList i).toNat : Nat))) (by simp only [execOp, e1, S.t7 D7, S.t8 D8]; go_simp) (hK _ _ ?_)
      rw [e2]
      exact ⟨S.off.put_none _, fun g => absurd g (by simp), fun _ => ⟨w', BW, rfl⟩, fun g => S.t0 (by simpa using g), fun g => S.t1 (by simpa using g), fun g => S.t2 (by simpa using g), fun g => S.t3 (by simpa using g), fun g => S.t4 (by simpa using g), fun g => S.t5 (by simpa using g), fun g => S.t6 (by simpa using g), fun g => S.t7 (by simpa using g), fun g => S.t8 (by simpa using g)⟩
  · intro s a w' S hall
    have a0 := hall 0 (by omega)
    have a1 := hall 1 (by omega)
    have a2 := hall 2 (by omega)
    have a3 := hall 3 (by omega)
    have a4 := hall 4 (by omega)
    have a5 := hall 5 (by omega)
    have a6 := hall 6 (by omega)
    have a7 := hall 7 (by omega)
    have a8 := hall 8 (by omega)
    have a9 := hall 9 (by omega)
    have e := off_norm _ (by intro d hd; simp at hd; omega) S.off
    simp only [List.foldl, S.t0 a0, S.t1 a1, S.t2 a2, S.t3 a3, S.t4 a4, S.t5 a5, S.t6 a6, S.t7 a7, S.t8 a8] at e
    obtain ⟨w1, BW, rfl⟩ := S.behind a9
    rw [e]
    exact h _ BW
structure EvalRegion (tb i j n : Nat) (x v : BitVec 8) (q : ByteArray) (A : Act) (w0 : World) (s : Nat → Bool) (a : Act) (w : World) : Prop where
  off : Off [18, 19, 20, 21, 22, 23, 24, 25, 26, 27, 28, 7] a A
  before : Below w0.heap.size w0 w
  k7 : s 11 = false → a.eval (.tmp 7) = .int .u8 (v.toNat : Nat)
  t0 : s 0 = true → a.eval (.tmp 18) = byTimes tb x
  t1 : s 1 = true → a.eval (.tmp 19) = .int .u8 (v.toNat : Nat)
  t2 : s 2 = true → a.eval (.tmp 20) = .int .u8 ((Gal.mul x v).toNat : Nat)
  t3 : s 3 = true → a.eval (.tmp 21) = .string q
  t4 : s 4 = true → a.eval (.tmp 22) = .string q
  t5 : s 5 = true → a.eval (.tmp 23) = .int .i64 (n : Nat)
  t6 : s 6 = true → a.eval (.tmp 24) = .int .i64 ((n : Int) - 1)
  t7 : s 7 = true → a.eval (.tmp 25) = .int .i64 (i : Nat)
  t8 : s 8 = true → a.eval (.tmp 26) = .int .i64 (j : Nat)
  t9 : s 9 = true → a.eval (.tmp 27) = .int .u8 ((Gal.co q.data.toList j).toNat : Nat)
  t10 : s 10 = true → a.eval (.tmp 28) = .int .u8 ((Gal.mul x v ^^^ Gal.co q.data.toList j).toNat : Nat)
  t11 : s 11 = true → a.eval (.tmp 7) = .int .u8 ((Gal.mul x v ^^^ Gal.co q.data.toList j).toNat : Nat)
set_option maxHeartbeats 2000000 in
set_option maxRecDepth 100000 in
theorem evalRegion {id : Nat} {d : Bool} {l : List Oper} {A : Act} {w : World} {Q : Exit → Act → World → Prop} (tb i j n : Nat) (x v : BitVec 8) (q : ByteArray)
    (hq : q.size = n) (hn : n ≤ 1000000) (hi : i < n) (hj : j < q.size) (hij : (n : Int) - 1 - (i : Int) = (j : Int)) (wrap1 : IntKind.i64.wrap ((n : Int) - 1) = (n : Int) - 1) (wrap2 : IntKind.i64.wrap ((n : Int) - 1 - (i : Int)) = (j : Int)) (hT0 : Tabs w tb Gal.tab)
    (hB : tableL d l.toArray (fun i => match i with | 0 => [] | 1 => [] | 2 => [0, 1] | 3 => [] | 4 => [] | 5 => [4] | 6 => [5] | 7 => [] | 8 => [6, 7] | 9 => [3, 8] | 10 => [2, 9] | 11 => [0, 1, 2, 3, 4, 5, 6, 7, 8, 9, 10] | _ => []) (fun i => match i with | 0 => [11] | 1 => [11] | 2 => [11] | 3 => [11] | 4 => [11] | 5 => [11] | 6 => [11] | 7 => [11] | 8 => [11] | 9 => [11] | 10 => [11] | 11 => [] | _ => []) = true) (hl : l.length = 12)
    (h0 : pick l 0 = some (.move (.tmp 6), some 18))
    (h1 : pick l 1 = some (.move (.tmp 7), some 19))
    (h2 : pick l 2 = some (.call { callee := .value (.tmp 18), args := #[.tmp 19], argTypes := #[5] }, some 20))
    (h3 : pick l 3 = some (.move (.tmp 0), some 21))
    (h4 : pick l 4 = some (.move (.tmp 0), some 22))
    (h5 : pick l 5 = some (.call { callee := .builtin .len, args := #[.tmp 22], argTypes := #[9] }, some 23))
    (h6 : pick l 6 = some (.binOp .sub 3 (.tmp 23) (.const (.int .i64 1)) 3, some 24))
    (h7 : pick l 7 = some (.move (.tmp 8), some 25))
    (h8 : pick l 8 = some (.binOp .sub 3 (.tmp 24) (.tmp 25) 3, some 26))
    (h9 : pick l 9 = some (.index 9 (.tmp 21) (.tmp 26), some 27))
    (h10 : pick l 10 = some (.binOp .xor 5 (.tmp 20) (.tmp 27) 5, some 28))
    (h11 : pick l 11 = some (.assign (.tmp 28), some 7))
    (hs : A.tmps.size = 31)
    (x0 : A.eval (.tmp 0) = .string q)
    (x6 : A.eval (.tmp 6) = byTimes tb x)
    (x8 : A.eval (.tmp 8) = .int .i64 (i : Nat))
    (x7 : A.eval (.tmp 7) = .int .u8 (v.toNat : Nat))
    (h : ∀ w1, Below w.heap.size w w1 → Q .normal ((((((((((((A.put (some 18) (byTimes tb x)).put (some 19) (.int .u8 (v.toNat : Nat))).put (some 20) (.int .u8 ((Gal.mul x v).toNat : Nat))).put (some 21) (.string q)).put (some 22) (.string q)).put (some 23) (.int .i64 (n : Nat))).put (some 24) (.int .i64 ((n : Int) - 1))).put (some 25) (.int .i64 (i : Nat))).put (some 26) (.int .i64 (j : Nat))).put (some 27) (.int .u8 ((Gal.co q.data.toList j).toNat : Nat))).put (some 28) (.int .u8 ((Gal.mul x v ^^^ Gal.co q.data.toList j).toNat : Nat))).put (some 7) (.int .u8 ((Gal.mul x v ^^^ Gal.co q.data.toList j).toNat : Nat))) w1) :
    (Code.region id l.toArray d).wp Tryz.prog Q A w := by
  refine wp_region_invL (by kernel_rfl) _ _ hB (EvalRegion tb i j n x v q A w) ⟨Off.refl _ _, Below.refl _ _, fun _ => x7, by simp, by simp, by simp, by simp, by simp, by simp, by simp, by simp, by simp, by simp, by simp, by simp⟩ ⟨Off.refl _ _, (Below.refl _ _).drew, fun _ => x7, by simp, by simp, by simp, by simp, by simp, by simp, by simp, by simp, by simp, by simp, by simp, by simp⟩ ?_ ?_
  · intro s a w' S i' o ho hsi hT K hK
    have sz : a.tmps.size = 31 := by rw [S.off.2.1]; exact hs
    have il : i' < 12 := by have := (List.getElem?_eq_some_iff.1 ho).1; omega
    have y0 : a.eval (.tmp 0) = .string q := by rw [S.off.eval (by decide)]; exact x0
    have y6 : a.eval (.tmp 6) = byTimes tb x := by rw [S.off.eval (by decide)]; exact x6
    have y8 : a.eval (.tmp 8) = .int .i64 (i : Nat) := by rw [S.off.eval (by decide)]; exact x8
    match i', il, ho, hsi, hT with
    | 0, _, ho, hsi, hT =>
      obtain ⟨e1, e2⟩ := pick_of h0 ho
      have BW := S.before
      have NL : s 11 = false := list_neg hT (k := 11) (by decide)
      have y7 := S.k7 NL
      refine step_val (v := byTimes tb x) (by simp only [execOp, e1, y6]; go_simp) (hK _ _ ?_)
      rw [e2]
      exact ⟨S.off.put (by decide) _, S.before, fun g => by rw [eval_put_ne _ _ _ _ (by decide)]; exact S.k7 NL, fun _ => (eval_put _ _ _ (by omega)).trans rfl, kp S.t1, kp S.t2, kp S.t3, kp S.t4, kp S.t5, kp S.t6, kp S.t7, kp S.t8, kp S.t9, kp S.t10, kp S.t11⟩
    | 1, _, ho, hsi, hT =>
      obtain ⟨e1, e2⟩ := pick_of h1 ho
      have BW := S.before
      have NL : s 11 = false := list_neg hT (k := 11) (by decide)
      have y7 := S.k7 NL
      refine step_val (v := .int .u8 (v.toNat : Nat)) (by simp only [execOp, e1, y7]; go_simp) (hK _ _ ?_)
      rw [e2]
      exact ⟨S.off.put (by decide) _, S.before, fun g => by rw [eval_put_ne _ _ _ _ (by decide)]; exact S.k7 NL, kp S.t0, fun _ => (eval_put _ _ _ (by omega)).trans rfl, kp S.t2, kp S.t3, kp S.t4, kp S.t5, kp S.t6, kp S.t7, kp S.t8, kp S.t9, kp S.t10, kp S.t11⟩
    | 2, _, ho, hsi, hT =>
      obtain ⟨e1, e2⟩ := pick_of h2 ho
      have D0 : s 0 = true := list_pos hT (d := 0) (by decide)
      have D1 : s 1 = true := list_pos hT (d := 1) (by decide)
      have BW := S.before
      have NL : s 11 = false := list_neg hT (k := 11) (by decide)
      have y7 := S.k7 NL
      refine step_callv 62 #[.agg #[.pointer (some ⟨tb, 0, none⟩), .int .u8 (x.toNat : Nat)]] (fun args w => by go_simp) _ (by simp only [S.t0 D0]) _ _ e1 #[.int .u8 (v.toNat : Nat)] (by simp only [List.map_toArray, List.map_cons, List.map_nil, S.t1 D1]) ((times_any tb x v _ (hT0.below BW)).mono ?_)
      rintro e w2 ⟨rfl, BB⟩
      refine ⟨_, rfl, hK _ _ ?_⟩
      rw [e2]
      exact ⟨S.off.put (by decide) _, bt BW BB, fun g => by rw [eval_put_ne _ _ _ _ (by decide)]; exact S.k7 NL, kp S.t0, kp S.t1, fun _ => (eval_put _ _ _ (by omega)).trans rfl, kp S.t3, kp S.t4, kp S.t5, kp S.t6, kp S.t7, kp S.t8, kp S.t9, kp S.t10, kp S.t11⟩
    | 3, _, ho, hsi, hT =>
      obtain ⟨e1, e2⟩ := pick_of h3 ho
      have BW := S.before
      have NL : s 11 = false := list_neg hT (k := 11) (by decide)
      have y7 := S.k7 NL
      refine step_val (v := .string q) (by simp only [execOp, e1, y0]; go_simp) (hK _ _ ?_)
      rw [e2]
      exact ⟨S.off.put (by decide) _, S.before, fun g => by rw [eval_put_ne _ _ _ _ (by decide)]; exact S.k7 NL, kp S.t0, kp S.t1, kp S.t2, fun _ => (eval_put _ _ _ (by omega)).trans rfl, kp S.t4, kp S.t5, kp S.t6, kp S.t7, kp S.t8, kp S.t9, kp S.t10, kp S.t11⟩
    | 4, _, ho, hsi, hT =>
      obtain ⟨e1, e2⟩ := pick_of h4 ho
      have BW := S.before
      have NL : s 11 = false := list_neg hT (k := 11) (by decide)
      have y7 := S.k7 NL
      refine step_val (v := .string q) (by simp only [execOp, e1, y0]; go_simp) (hK _ _ ?_)
      rw [e2]
      exact ⟨S.off.put (by decide) _, S.before, fun g => by rw [eval_put_ne _ _ _ _ (by decide)]; exact S.k7 NL, kp S.t0, kp S.t1, kp S.t2, kp S.t3, fun _ => (eval_put _ _ _ (by omega)).trans rfl, kp S.t5, kp S.t6, kp S.t7, kp S.t8, kp S.t9, kp S.t10, kp S.t11⟩
    | 5, _, ho, hsi, hT =>
      obtain ⟨e1, e2⟩ := pick_of h5 ho
      have D4 : s 4 = true := list_pos hT (d := 4) (by decide)
      have BW := S.before
      have NL : s 11 = false := list_neg hT (k := 11) (by decide)
      have y7 := S.k7 NL
      refine step_val (v := .int .i64 (n : Nat)) (by simp only [execOp, e1, resolve, List.map_toArray, List.map_cons, List.map_nil, S.t4 D4]; go_simp) (hK _ _ ?_)
      rw [e2]
      exact ⟨S.off.put (by decide) _, S.before, fun g => by rw [eval_put_ne _ _ _ _ (by decide)]; exact S.k7 NL, kp S.t0, kp S.t1, kp S.t2, kp S.t3, kp S.t4, fun _ => (eval_put _ _ _ (by omega)).trans rfl, kp S.t6, kp S.t7, kp S.t8, kp S.t9, kp S.t10, kp S.t11⟩
    | 6, _, ho, hsi, hT =>
      obtain ⟨e1, e2⟩ := pick_of h6 ho
      have D5 : s 5 = true := list_pos hT (d := 5) (by decide)
      have BW := S.before
      have NL : s 11 = false := list_neg hT (k := 11) (by decide)
      have y7 := S.k7 NL
      have e := wrap1
      refine step_val (v := .int .i64 ((n : Int) - 1)) (by simp only [execOp, e1, S.t5 D5]; go_simp) (hK _ _ ?_)
      rw [e2]
      exact ⟨S.off.put (by decide) _, S.before, fun g => by rw [eval_put_ne _ _ _ _ (by decide)]; exact S.k7 NL, kp S.t0, kp S.t1, kp S.t2, kp S.t3, kp S.t4, kp S.t5, fun _ => (eval_put _ _ _ (by omega)).trans rfl, kp S.t7, kp S.t8, kp S.t9, kp S.t10, kp S.t11⟩
    | 7, _, ho, hsi, hT =>
      obtain ⟨e1, e2⟩ := pick_of h7 ho
      have BW := S.before
      have NL : s 11 = false := list_neg hT (k := 11) (by decide)
      have y7 := S.k7 NL
      refine step_val (v := .int .i64 (i : Nat)) (by simp only [execOp, e1, y8]; go_simp) (hK _ _ ?_)
      rw [e2]
      exact ⟨S.off.put (by decide) _, S.before, fun g => by rw [eval_put_ne _ _ _ _ (by decide)]; exact S.k7 NL, kp S.t0, kp S.t1, kp S.t2, kp S.t3, kp S.t4, kp S.t5, kp S.t6, fun _ => (eval_put _ _ _ (by omega)).trans rfl, kp S.t8, kp S.t9, kp S.t10, kp S.t11⟩
    | 8, _, ho, hsi, hT =>
      obtain ⟨e1, e2⟩ := pick_of h8 ho
      have D6 : s 6 = true := list_pos hT (d := 6) (by decide)
      have D7 : s 7 = true := list_pos hT (d := 7) (by decide)
      have BW := S.before
      have NL : s 11 = false := list_neg hT (k := 11) (by decide)
      have y7 := S.k7 NL
      refine step_val (v := .int .i64 (j : Nat)) (by simp only [execOp, e1, S.t6 D6, S.t7 D7]; go_simp; rw [IntKind.wrap_i64]; omega) (hK _ _ ?_)
      rw [e2]
      exact ⟨S.off.put (by decide) _, S.before, fun g => by rw [eval_put_ne _ _ _ _ (by decide)]; exact S.k7 NL, kp S.t0, kp S.t1, kp S.t2, kp S.t3, kp S.t4, kp S.t5, kp S.t6, kp S.t7, fun _ => (eval_put _ _ _ (by omega)).trans rfl, kp S.t9, kp S.t10, kp S.t11⟩
    | 9, _, ho, hsi, hT =>
      obtain ⟨e1, e2⟩ := pick_of h9 ho
      have D3 : s 3 = true := list_pos hT (d := 3) (by decide)
      have D8 : s 8 = true := list_pos hT (d := 8) (by decide)
      have BW := S.before
      have NL : s 11 = false := list_neg hT (k := 11) (by decide)
      have y7 := S.k7 NL
      have bc := byte_co q j hj
      refine step_val (v := .int .u8 ((Gal.co q.data.toList j).toNat : Nat)) (by simp only [execOp, e1, S.t3 D3, S.t8 D8]; go_simp; intro hh; omega) (hK _ _ ?_)
      rw [e2]
      exact ⟨S.off.put (by decide) _, S.before, fun g => by rw [eval_put_ne _ _ _ _ (by decide)]; exact S.k7 NL, kp S.t0, kp S.t1, kp S.t2, kp S.t3, kp S.t4, kp S.t5, kp S.t6, kp S.t7, kp S.t8, fun _ => (eval_put _ _ _ (by omega)).trans rfl, kp S.t10, kp S.t11⟩
    | 10, _, ho, hsi, hT =>
      obtain ⟨e1, e2⟩ := pick_of h10 ho
      have D2 : s 2 = true := list_pos hT (d := 2) (by decide)
      have D9 : s 9 = true := list_pos hT (d := 9) (by decide)
      have BW := S.before
      have NL : s 11 = false := list_neg hT (k := 11) (by decide)
      have y7 := S.k7 NL
      have xr := xor8 (Gal.mul x v) (Gal.co q.data.toList j)
      refine step_val (v := .int .u8 ((Gal.mul x v ^^^ Gal.co q.data.toList j).toNat : Nat)) (by simp only [execOp, e1, S.t2 D2, S.t9 D9]; go_simp) (hK _ _ ?_)
      rw [e2]
      exact ⟨S.off.put (by decide) _, S.before, fun g => by rw [eval_put_ne _ _ _ _ (by decide)]; exact S.k7 NL, kp S.t0, kp S.t1, kp S.t2, kp S.t3, kp S.t4, kp S.t5, kp S.t6, kp S.t7, kp S.t8, kp S.t9, fun _ => (eval_put _ _ _ (by omega)).trans rfl, kp S.t11⟩
    | 11, _, ho, hsi, hT =>
      obtain ⟨e1, e2⟩ := pick_of h11 ho
      have D0 : s 0 = true := list_pos hT (d := 0) (by decide)
      have D1 : s 1 = true := list_pos hT (d := 1) (by decide)
      have D2 : s 2 = true := list_pos hT (d := 2) (by decide)
      have D3 : s 3 = true := list_pos hT (d := 3) (by decide)
      have D4 : s 4 = true := list_pos hT (d := 4) (by decide)
      have D5 : s 5 = true := list_pos hT (d := 5) (by decide)
      have D6 : s 6 = true := list_pos hT (d := 6) (by decide)
      have D7 : s 7 = true := list_pos hT (d := 7) (by decide)
      have D8 : s 8 = true := list_pos hT (d := 8) (by decide)
      have D9 : s 9 = true := list_pos hT (d := 9) (by decide)
      have D10 : s 10 = true := list_pos hT (d := 10) (by decide)
      have BW := S.before
      refine step_val (v := .int .u8 ((Gal.mul x v ^^^ Gal.co q.data.toList j).toNat : Nat)) (by simp only [execOp, e1, S.t10 D10]; go_simp) (hK _ _ ?_)
      rw [e2]
      exact ⟨S.off.put (by decide) _, S.before, fun g => absurd g (by simp), kp S.t0, kp S.t1, kp S.t2, kp S.t3, kp S.t4, kp S.t5, kp S.t6, kp S.t7, kp S.t8, kp S.t9, kp S.t10, fun _ => (eval_put _ _ _ (by omega)).trans rfl⟩
  · intro s a w' S hall
    have a0 := hall 0 (by omega)
    have a1 := hall 1 (by omega)
    have a2 := hall 2 (by omega)
    have a3 := hall 3 (by omega)
    have a4 := hall 4 (by omega)
    have a5 := hall 5 (by omega)
    have a6 := hall 6 (by omega)
    have a7 := hall 7 (by omega)
    have a8 := hall 8 (by omega)
    have a9 := hall 9 (by omega)
    have a10 := hall 10 (by omega)
    have a11 := hall 11 (by omega)
    have e := off_norm _ (by intro d hd; simp at hd; omega) S.off
    simp only [List.foldl, S.t0 a0, S.t1 a1, S.t2 a2, S.t3 a3, S.t4 a4, S.t5 a5, S.t6 a6, S.t7 a7, S.t8 a8, S.t9 a9, S.t10 a10, S.t11 a11] at e
    rw [e]
    exact h _ S.before
structure ProdRegion (sb tb i N : Nat) (p q : ByteArray) (R : World → Prop) (A : Act) (w0 : World) (s : Nat → Bool) (a : Act) (w : World) : Prop where
  off : Off [31, 32, 33, 34, 35, 36, 37, 38, 39, 40] a A
  before : s 9 = false → Below w0.heap.size w0 w
  behind : s 9 = true → R w
  tl : s 9 = true → a.eval (.tmp 40) = .tuple #[]
  t0 : s 0 = true → a.eval (.tmp 31) = .slice (some ⟨sb, 0, none⟩) N N
  t1 : s 1 = true → a.eval (.tmp 32) = .int .i64 (i : Nat)
  t2 : s 2 = true → a.eval (.tmp 33) = .slice (some ⟨sb, i, none⟩) (N - i) (N - i)
  t3 : s 3 = true → a.eval (.tmp 34) = .string q
  t4 : s 4 = true → a.eval (.tmp 35) = .string p
  t5 : s 5 = true → a.eval (.tmp 36) = .int .i64 (i : Nat)
  t6 : s 6 = true → a.eval (.tmp 37) = .int .u8 ((Gal.co p.data.toList i).toNat : Nat)
  t7 : s 7 = true → a.eval (.tmp 38) = .agg #[.pointer (some ⟨tb, 0, none⟩), .int .u8 ((Gal.co p.data.toList i).toNat : Nat)]
  t8 : s 8 = true → a.eval (.tmp 39) = byTimes tb (Gal.co p.data.toList i)
set_option maxHeartbeats 2000000 in
set_option maxRecDepth 100000 in
theorem prodRegion {id : Nat} {d : Bool} {l : List Oper} {A : Act} {w : World} {Q : Exit → Act → World → Prop} (sb tb i N : Nat) (p q : ByteArray) (R : World → Prop)
    (hi : i < p.size) (hN : i < N) (hN2 : N ≤ 4000000)
    (hadd : ∀ w', Below w.heap.size w w' → Calls Tryz.prog 61 #[.slice (some ⟨sb, i, none⟩) (N - i) (N - i), .string q, byTimes tb (Gal.co p.data.toList i)] w' fun e w2 => e = .returned (.tuple #[]) ∧ R w2)
    (hB : tableL d l.toArray (fun i => match i with | 0 => [] | 1 => [] | 2 => [0, 1] | 3 => [] | 4 => [] | 5 => [] | 6 => [4, 5] | 7 => [6] | 8 => [7] | 9 => [0, 1, 2, 3, 4, 5, 6, 7, 8] | _ => []) (fun i => match i with | 0 => [9] | 1 => [9] | 2 => [9] | 3 => [9] | 4 => [9] | 5 => [9] | 6 => [9] | 7 => [9] | 8 => [9] | 9 => [] | _ => []) = true) (hl : l.length = 10)
    (h0 : pick l 0 = some (.move (.tmp 6), some 31))
    (h1 : pick l 1 = some (.move (.tmp 8), some 32))
    (h2 : pick l 2 = some (.slice 41 (.tmp 31) (some (.tmp 32)) none none, some 33))
    (h3 : pick l 3 = some (.move (.tmp 1), some 34))
    (h4 : pick l 4 = some (.move (.tmp 0), some 35))
    (h5 : pick l 5 = some (.move (.tmp 8), some 36))
    (h6 : pick l 6 = some (.index 9 (.tmp 35) (.tmp 36), some 37))
    (h7 : pick l 7 = some (.build 92 #[(0, .tmp 7), (1, .tmp 37)], some 38))
    (h8 : pick l 8 = some (.makeFunc (.func 62) #[.tmp 38] #[], some 39))
    (h9 : pick l 9 = some (.call { callee := .value (.func 61), args := #[.tmp 33, .tmp 34, .tmp 39], argTypes := #[41, 9, 88] }, some 40))
    (hs : A.tmps.size = 45)
    (x0 : A.eval (.tmp 0) = .string p)
    (x1 : A.eval (.tmp 1) = .string q)
    (x6 : A.eval (.tmp 6) = .slice (some ⟨sb, 0, none⟩) N N)
    (x7 : A.eval (.tmp 7) = .pointer (some ⟨tb, 0, none⟩))
    (x8 : A.eval (.tmp 8) = .int .i64 (i : Nat))
    (h : ∀ w1, R w1 → Q .normal ((((((((((A.put (some 31) (.slice (some ⟨sb, 0, none⟩) N N)).put (some 32) (.int .i64 (i : Nat))).put (some 33) (.slice (some ⟨sb, i, none⟩) (N - i) (N - i))).put (some 34) (.string q)).put (some 35) (.string p)).put (some 36) (.int .i64 (i : Nat))).put (some 37) (.int .u8 ((Gal.co p.data.toList i).toNat : Nat))).put (some 38) (.agg #[.pointer (some ⟨tb, 0, none⟩), .int .u8 ((Gal.co p.data.toList i).toNat : Nat)])).put (some 39) (byTimes tb (Gal.co p.data.toList i))).put (some 40) (.tuple #[])) w1) :
    (Code.region id l.toArray d).wp Tryz.prog Q A w := by
  refine wp_region_invL (by kernel_rfl) _ _ hB (ProdRegion sb tb i N p q R A w) ⟨Off.refl _ _, fun _ => Below.refl _ _, by simp, by simp, by simp, by simp, by simp, by simp, by simp, by simp, by simp, by simp, by simp⟩ ⟨Off.refl _ _, fun _ => (Below.refl _ _).drew, by simp, by simp, by simp, by simp, by simp, by simp, by simp, by simp, by simp, by simp, by simp⟩ ?_ ?_
  · intro s a w' S i' o ho hsi hT K hK
    have sz : a.tmps.size = 45 := by rw [S.off.2.1]; exact hs
    have il : i' < 10 := by have := (List.getElem?_eq_some_iff.1 ho).1; omega
    have y0 : a.eval (.tmp 0) = .string p := by rw [S.off.eval (by decide)]; exact x0
    have y1 : a.eval (.tmp 1) = .string q := by rw [S.off.eval (by decide)]; exact x1
    have y6 : a.eval (.tmp 6) = .slice (some ⟨sb, 0, none⟩) N N := by rw [S.off.eval (by decide)]; exact x6
    have y7 : a.eval (.tmp 7) = .pointer (some ⟨tb, 0, none⟩) := by rw [S.off.eval (by decide)]; exact x7
    have y8 : a.eval (.tmp 8) = .int .i64 (i : Nat) := by rw [S.off.eval (by decide)]; exact x8
    match i', il, ho, hsi, hT with
    | 0, _, ho, hsi, hT =>
      obtain ⟨e1, e2⟩ := pick_of h0 ho
      have NL : s 9 = false := list_neg hT (k := 9) (by decide)
      have BW := S.before NL
      refine step_val (v := .slice (some ⟨sb, 0, none⟩) N N) (by simp only [execOp, e1, y6]; go_simp) (hK _ _ ?_)
      rw [e2]
      exact ⟨S.off.put (by decide) _, fun _ => S.before NL, fun g => absurd g (by simp [NL]), fun g => absurd g (by simp [NL]), fun _ => (eval_put _ _ _ (by omega)).trans rfl, kp S.t1, kp S.t2, kp S.t3, kp S.t4, kp S.t5, kp S.t6, kp S.t7, kp S.t8⟩
    | 1, _, ho, hsi, hT =>
      obtain ⟨e1, e2⟩ := pick_of h1 ho
      have NL : s 9 = false := list_neg hT (k := 9) (by decide)
      have BW := S.before NL
      refine step_val (v := .int .i64 (i : Nat)) (by simp only [execOp, e1, y8]; go_simp) (hK _ _ ?_)
      rw [e2]
      exact ⟨S.off.put (by decide) _, fun _ => S.before NL, fun g => absurd g (by simp [NL]), fun g => absurd g (by simp [NL]), kp S.t0, fun _ => (eval_put _ _ _ (by omega)).trans rfl, kp S.t2, kp S.t3, kp S.t4, kp S.t5, kp S.t6, kp S.t7, kp S.t8⟩
    | 2, _, ho, hsi, hT =>
      obtain ⟨e1, e2⟩ := pick_of h2 ho
      have D0 : s 0 = true := list_pos hT (d := 0) (by decide)
      have D1 : s 1 = true := list_pos hT (d := 1) (by decide)
      have NL : s 9 = false := list_neg hT (k := 9) (by decide)
      have BW := S.before NL
      refine step_val (v := .slice (some ⟨sb, i, none⟩) (N - i) (N - i)) (by simp only [execOp, e1, Option.map_some, S.t0 D0, S.t1 D1]; go_simp; rw [if_pos (by omega), if_neg (by omega)]) (hK _ _ ?_)
      rw [e2]
      exact ⟨S.off.put (by decide) _, fun _ => S.before NL, fun g => absurd g (by simp [NL]), fun g => absurd g (by simp [NL]), kp S.t0, kp S.t1, fun _ => (eval_put _ _ _ (by omega)).trans rfl, kp S.t3, kp S.t4, kp S.t5, kp S.t6, kp S.t7, kp S.t8⟩
    | 3, _, ho, hsi, hT =>
      obtain ⟨e1, e2⟩ := pick_of h3 ho
      have NL : s 9 = false := list_neg hT (k := 9) (by decide)
      have BW := S.before NL
      refine step_val (v := .string q) (by simp only [execOp, e1, y1]; go_simp) (hK _ _ ?_)
      rw [e2]
      exact ⟨S.off.put (by decide) _, fun _ => S.before NL, fun g => absurd g (by simp [NL]), fun g => absurd g (by simp [NL]), kp S.t0, kp S.t1, kp S.t2, fun _ => (eval_put _ _ _ (by omega)).trans rfl, kp S.t4, kp S.t5, kp S.t6, kp S.t7, kp S.t8⟩
    | 4, _, ho, hsi, hT =>
      obtain ⟨e1, e2⟩ := pick_of h4 ho
      have NL : s 9 = false := list_neg hT (k := 9) (by decide)
      have BW := S.before NL
      refine step_val (v := .string p) (by simp only [execOp, e1, y0]; go_simp) (hK _ _ ?_)
      rw [e2]
      exact ⟨S.off.put (by decide) _, fun _ => S.before NL, fun g => absurd g (by simp [NL]), fun g => absurd g (by simp [NL]), kp S.t0, kp S.t1, kp S.t2, kp S.t3, fun _ => (eval_put _ _ _ (by omega)).trans rfl, kp S.t5, kp S.t6, kp S.t7, kp S.t8⟩
    | 5, _, ho, hsi, hT =>
      obtain ⟨e1, e2⟩ := pick_of h5 ho
      have NL : s 9 = false := list_neg hT (k := 9) (by decide)
      have BW := S.before NL
      refine step_val (v := .int .i64 (i : Nat)) (by simp only [execOp, e1, y8]; go_simp) (hK _ _ ?_)
      rw [e2]
      exact ⟨S.off.put (by decide) _, fun _ => S.before NL, fun g => absurd g (by simp [NL]), fun g => absurd g (by simp [NL]), kp S.t0, kp S.t1, kp S.t2, kp S.t3, kp S.t4, fun _ => (eval_put _ _ _ (by omega)).trans rfl, kp S.t6, kp S.t7, kp S.t8⟩
    | 6, _, ho, hsi, hT =>
      obtain ⟨e1, e2⟩ := pick_of h6 ho
      have D4 : s 4 = true := list_pos hT (d := 4) (by decide)
      have D5 : s 5 = true := list_pos hT (d := 5) (by decide)
      have NL : s 9 = false := list_neg hT (k := 9) (by decide)
      have BW := S.before NL
      have bc := byte_co p i hi
      refine step_val (v := .int .u8 ((Gal.co p.data.toList i).toNat : Nat)) (by simp only [execOp, e1, S.t4 D4, S.t5 D5]; go_simp) (hK _ _ ?_)
      rw [e2]
      exact ⟨S.off.put (by decide) _, fun _ => S.before NL, fun g => absurd g (by simp [NL]), fun g => absurd g (by simp [NL]), kp S.t0, kp S.t1, kp S.t2, kp S.t3, kp S.t4, kp S.t5, fun _ => (eval_put _ _ _ (by omega)).trans rfl, kp S.t7, kp S.t8⟩
    | 7, _, ho, hsi, hT =>
      obtain ⟨e1, e2⟩ := pick_of h7 ho
      have D6 : s 6 = true := list_pos hT (d := 6) (by decide)
      have NL : s 9 = false := list_neg hT (k := 9) (by decide)
      have BW := S.before NL
      refine step_val (v := .agg #[.pointer (some ⟨tb, 0, none⟩), .int .u8 ((Gal.co p.data.toList i).toNat : Nat)]) (by simp only [execOp, e1, List.map_toArray, List.map_cons, List.map_nil, y7, S.t6 D6]; go_simp) (hK _ _ ?_)
      rw [e2]
      exact ⟨S.off.put (by decide) _, fun _ => S.before NL, fun g => absurd g (by simp [NL]), fun g => absurd g (by simp [NL]), kp S.t0, kp S.t1, kp S.t2, kp S.t3, kp S.t4, kp S.t5, kp S.t6, fun _ => (eval_put _ _ _ (by omega)).trans rfl, kp S.t8⟩
    | 8, _, ho, hsi, hT =>
      obtain ⟨e1, e2⟩ := pick_of h8 ho
      have D7 : s 7 = true := list_pos hT (d := 7) (by decide)
      have NL : s 9 = false := list_neg hT (k := 9) (by decide)
      have BW := S.before NL
      refine step_val (v := byTimes tb (Gal.co p.data.toList i)) (by simp only [execOp, e1, List.map_toArray, List.map_cons, List.map_nil, Instr.makeFunc, S.t7 D7]; go_simp) (hK _ _ ?_)
      rw [e2]
      exact ⟨S.off.put (by decide) _, fun _ => S.before NL, fun g => absurd g (by simp [NL]), fun g => absurd g (by simp [NL]), kp S.t0, kp S.t1, kp S.t2, kp S.t3, kp S.t4, kp S.t5, kp S.t6, kp S.t7, fun _ => (eval_put _ _ _ (by omega)).trans rfl⟩
    | 9, _, ho, hsi, hT =>
      obtain ⟨e1, e2⟩ := pick_of h9 ho
      have D0 : s 0 = true := list_pos hT (d := 0) (by decide)
      have D1 : s 1 = true := list_pos hT (d := 1) (by decide)
      have D2 : s 2 = true := list_pos hT (d := 2) (by decide)
      have D3 : s 3 = true := list_pos hT (d := 3) (by decide)
      have D4 : s 4 = true := list_pos hT (d := 4) (by decide)
      have D5 : s 5 = true := list_pos hT (d := 5) (by decide)
      have D6 : s 6 = true := list_pos hT (d := 6) (by decide)
      have D7 : s 7 = true := list_pos hT (d := 7) (by decide)
      have D8 : s 8 = true := list_pos hT (d := 8) (by decide)
      have BW := S.before hsi
      refine step_call 61 (fun args w => by go_simp) _ _ e1 #[.slice (some ⟨sb, i, none⟩) (N - i) (N - i), .string q, byTimes tb (Gal.co p.data.toList i)] (by simp only [List.map_toArray, List.map_cons, List.map_nil, S.t2 D2, S.t3 D3, S.t8 D8]) ((hadd _ BW).mono ?_)
      rintro e w2 ⟨rfl, BB⟩
      refine ⟨_, rfl, hK _ _ ?_⟩
      rw [e2]
      exact ⟨S.off.put (by decide) _, fun g => absurd g (by simp), fun _ => BB, fun _ => (eval_put _ _ _ (by omega)).trans rfl, kp S.t0, kp S.t1, kp S.t2, kp S.t3, kp S.t4, kp S.t5, kp S.t6, kp S.t7, kp S.t8⟩
  · intro s a w' S hall
    have a0 := hall 0 (by omega)
    have a1 := hall 1 (by omega)
    have a2 := hall 2 (by omega)
    have a3 := hall 3 (by omega)
    have a4 := hall 4 (by omega)
    have a5 := hall 5 (by omega)
    have a6 := hall 6 (by omega)
    have a7 := hall 7 (by omega)
    have a8 := hall 8 (by omega)
    have a9 := hall 9 (by omega)
    have e := off_norm _ (by intro d hd; simp at hd; omega) S.off
    simp only [List.foldl, S.t0 a0, S.t1 a1, S.t2 a2, S.t3 a3, S.t4 a4, S.t5 a5, S.t6 a6, S.t7 a7, S.t8 a8, S.tl a9] at e
    rw [e]
    exact h _ (S.behind a9)
structure QuotRegion (sb cb tb i N C m : Nat) (c : BitVec 8) (q : ByteArray) (R : World → Prop) (A : Act) (w0 : World) (s : Nat → Bool) (a : Act) (w : World) : Prop where
  off : Off [57, 58, 59, 60, 61, 62, 63, 64, 65, 66, 67] a A
  before : s 10 = false → Below w0.heap.size w0 w
  behind : s 10 = true → R w
  tl : s 10 = true → a.eval (.tmp 67) = .tuple #[]
  t0 : s 0 = true → a.eval (.tmp 57) = .slice (some ⟨sb, 0, none⟩) N C
  t1 : s 1 = true → a.eval (.tmp 58) = .int .i64 (i : Nat)
  t2 : s 2 = true → a.eval (.tmp 59) = .slice (some ⟨sb, i, none⟩) (N - i) (C - i)
  t3 : s 3 = true → a.eval (.tmp 60) = .string q
  t4 : s 4 = true → a.eval (.tmp 61) = .slice (some ⟨cb, 0, none⟩) m m
  t5 : s 5 = true → a.eval (.tmp 62) = .int .i64 (i : Nat)
  t6 : s 6 = true → a.eval (.tmp 63) = .pointer (some ⟨cb, i, none⟩)
  t7 : s 7 = true → a.eval (.tmp 64) = .int .u8 (c.toNat : Nat)
  t8 : s 8 = true → a.eval (.tmp 65) = .agg #[.pointer (some ⟨tb, 0, none⟩), .int .u8 (c.toNat : Nat)]
  t9 : s 9 = true → a.eval (.tmp 66) = byTimes tb c
set_option maxHeartbeats 2000000 in
set_option maxRecDepth 100000 in
theorem quotRegion {id : Nat} {d : Bool} {l : List Oper} {A : Act} {w : World} {Q : Exit → Act → World → Prop} (sb cb tb i N C m : Nat) (c : BitVec 8) (q : ByteArray) (R : World → Prop)
    (hN : i < N) (hC2 : N ≤ C) (hN2 : N ≤ 4000000) (hm : i < m) (hm2 : m ≤ 4000000) (g : Nat → Nat) (hgc : g i = c.toNat) (hC : NumsK .u8 w cb m g)
    (hadd : ∀ w', Below w.heap.size w w' → Calls Tryz.prog 61 #[.slice (some ⟨sb, i, none⟩) (N - i) (C - i), .string q, byTimes tb c] w' fun e w2 => e = .returned (.tuple #[]) ∧ R w2)
    (hB : tableL d l.toArray (fun i => match i with | 0 => [] | 1 => [] | 2 => [0, 1] | 3 => [] | 4 => [] | 5 => [] | 6 => [4, 5] | 7 => [6] | 8 => [7] | 9 => [8] | 10 => [0, 1, 2, 3, 4, 5, 6, 7, 8, 9] | _ => []) (fun i => match i with | 0 => [10] | 1 => [10] | 2 => [10] | 3 => [10] | 4 => [10] | 5 => [10] | 6 => [10] | 7 => [10] | 8 => [10] | 9 => [10] | 10 => [] | _ => []) = true) (hl : l.length = 11)
    (h0 : pick l 0 = some (.move (.tmp 10), some 57))
    (h1 : pick l 1 = some (.move (.tmp 13), some 58))
    (h2 : pick l 2 = some (.slice 41 (.tmp 57) (some (.tmp 58)) none none, some 59))
    (h3 : pick l 3 = some (.move (.tmp 1), some 60))
    (h4 : pick l 4 = some (.move (.tmp 11), some 61))
    (h5 : pick l 5 = some (.move (.tmp 13), some 62))
    (h6 : pick l 6 = some (.indexAddr 41 (.tmp 61) (.tmp 62), some 63))
    (h7 : pick l 7 = some (.load 5 (.tmp 63), some 64))
    (h8 : pick l 8 = some (.build 92 #[(0, .tmp 8), (1, .tmp 64)], some 65))
    (h9 : pick l 9 = some (.makeFunc (.func 62) #[.tmp 65] #[], some 66))
    (h10 : pick l 10 = some (.call { callee := .value (.func 61), args := #[.tmp 59, .tmp 60, .tmp 66], argTypes := #[41, 9, 88] }, some 67))
    (hs : A.tmps.size = 74)
    (x1 : A.eval (.tmp 1) = .string q)
    (x8 : A.eval (.tmp 8) = .pointer (some ⟨tb, 0, none⟩))
    (x10 : A.eval (.tmp 10) = .slice (some ⟨sb, 0, none⟩) N C)
    (x11 : A.eval (.tmp 11) = .slice (some ⟨cb, 0, none⟩) m m)
    (x13 : A.eval (.tmp 13) = .int .i64 (i : Nat))
    (h : ∀ w1, R w1 → Q .normal (((((((((((A.put (some 57) (.slice (some ⟨sb, 0, none⟩) N C)).put (some 58) (.int .i64 (i : Nat))).put (some 59) (.slice (some ⟨sb, i, none⟩) (N - i) (C - i))).put (some 60) (.string q)).put (some 61) (.slice (some ⟨cb, 0, none⟩) m m)).put (some 62) (.int .i64 (i : Nat))).put (some 63) (.pointer (some ⟨cb, i, none⟩))).put (some 64) (.int .u8 (c.toNat : Nat))).put (some 65) (.agg #[.pointer (some ⟨tb, 0, none⟩), .int .u8 (c.toNat : Nat)])).put (some 66) (byTimes tb c)).put (some 67) (.tuple #[])) w1) :
    (Code.region id l.toArray d).wp Tryz.prog Q A w := by
  refine wp_region_invL (by kernel_rfl) _ _ hB (QuotRegion sb cb tb i N C m c q R A w) ⟨Off.refl _ _, fun _ => Below.refl _ _, by simp, by simp, by simp, by simp, by simp, by simp, by simp, by simp, by simp, by simp, by simp, by simp⟩ ⟨Off.refl _ _, fun _ => (Below.refl _ _).drew, by simp, by simp, by simp, by simp, by simp, by simp, by simp, by simp, by simp, by simp, by simp, by simp⟩ ?_ ?_
  · intro s a w' S i' o ho hsi hT K hK
    have sz : a.tmps.size = 74 := by rw [S.off.2.1]; exact hs
    have il : i' < 11 := by have := (List.getElem?_eq_some_iff.1 ho).1; omega
    have y1 : a.eval (.tmp 1) = .string q := by rw [S.off.eval (by decide)]; exact x1
    have y8 : a.eval (.tmp 8) = .pointer (some ⟨tb, 0, none⟩) := by rw [S.off.eval (by decide)]; exact x8
    have y10 : a.eval (.tmp 10) = .slice (some ⟨sb, 0, none⟩) N C := by rw [S.off.eval (by decide)]; exact x10
    have y11 : a.eval (.tmp 11) = .slice (some ⟨cb, 0, none⟩) m m := by rw [S.off.eval (by decide)]; exact x11
    have y13 : a.eval (.tmp 13) = .int .i64 (i : Nat) := by rw [S.off.eval (by decide)]; exact x13
    match i', il, ho, hsi, hT with
    | 0, _, ho, hsi, hT =>
      obtain ⟨e1, e2⟩ := pick_of h0 ho
      have NL : s 10 = false := list_neg hT (k := 10) (by decide)
      have BW := S.before NL
      refine step_val (v := .slice (some ⟨sb, 0, none⟩) N C) (by simp only [execOp, e1, y10]; go_simp) (hK _ _ ?_)
      rw [e2]
      exact ⟨S.off.put (by decide) _, fun _ => S.before NL, fun g => absurd g (by simp [NL]), fun g => absurd g (by simp [NL]), fun _ => (eval_put _ _ _ (by omega)).trans rfl, kp S.t1, kp S.t2, kp S.t3, kp S.t4, kp S.t5, kp S.t6, kp S.t7, kp S.t8, kp S.t9⟩
    | 1, _, ho, hsi, hT =>
      obtain ⟨e1, e2⟩ := pick_of h1 ho
      have NL : s 10 = false := list_neg hT (k := 10) (by decide)
      have BW := S.before NL
      refine step_val (v := .int .i64 (i : Nat)) (by simp only [execOp, e1, y13]; go_simp) (hK _ _ ?_)
      rw [e2]
      exact ⟨S.off.put (by decide) _, fun _ => S.before NL, fun g => absurd g (by simp [NL]), fun g => absurd g (by simp [NL]), kp S.t0, fun _ => (eval_put _ _ _ (by omega)).trans rfl, kp S.t2, kp S.t3, kp S.t4, kp S.t5, kp S.t6, kp S.t7, kp S.t8, kp S.t9⟩
    | 2, _, ho, hsi, hT =>
      obtain ⟨e1, e2⟩ := pick_of h2 ho
      have D0 : s 0 = true := list_pos hT (d := 0) (by decide)
      have D1 : s 1 = true := list_pos hT (d := 1) (by decide)
      have NL : s 10 = false := list_neg hT (k := 10) (by decide)
      have BW := S.before NL
      refine step_val (v := .slice (some ⟨sb, i, none⟩) (N - i) (C - i)) (by simp only [execOp, e1, Option.map_some, S.t0 D0, S.t1 D1]; go_simp; rw [if_pos (by omega), if_neg (by omega)]) (hK _ _ ?_)
      rw [e2]
      exact ⟨S.off.put (by decide) _, fun _ => S.before NL, fun g => absurd g (by simp [NL]), fun g => absurd g (by simp [NL]), kp S.t0, kp S.t1, fun _ => (eval_put _ _ _ (by omega)).trans rfl, kp S.t3, kp S.t4, kp S.t5, kp S.t6, kp S.t7, kp S.t8, kp S.t9⟩
    | 3, _, ho, hsi, hT =>
      obtain ⟨e1, e2⟩ := pick_of h3 ho
      have NL : s 10 = false := list_neg hT (k := 10) (by decide)
      have BW := S.before NL
      refine step_val (v := .string q) (by simp only [execOp, e1, y1]; go_simp) (hK _ _ ?_)
      rw [e2]
      exact ⟨S.off.put (by decide) _, fun _ => S.before NL, fun g => absurd g (by simp [NL]), fun g => absurd g (by simp [NL]), kp S.t0, kp S.t1, kp S.t2, fun _ => (eval_put _ _ _ (by omega)).trans rfl, kp S.t4, kp S.t5, kp S.t6, kp S.t7, kp S.t8, kp S.t9⟩
    | 4, _, ho, hsi, hT =>
      obtain ⟨e1, e2⟩ := pick_of h4 ho
      have NL : s 10 = false := list_neg hT (k := 10) (by decide)
      have BW := S.before NL
      refine step_val (v := .slice (some ⟨cb, 0, none⟩) m m) (by simp only [execOp, e1, y11]; go_simp) (hK _ _ ?_)
      rw [e2]
      exact ⟨S.off.put (by decide) _, fun _ => S.before NL, fun g => absurd g (by simp [NL]), fun g => absurd g (by simp [NL]), kp S.t0, kp S.t1, kp S.t2, kp S.t3, fun _ => (eval_put _ _ _ (by omega)).trans rfl, kp S.t5, kp S.t6, kp S.t7, kp S.t8, kp S.t9⟩
    | 5, _, ho, hsi, hT =>
      obtain ⟨e1, e2⟩ := pick_of h5 ho
      have NL : s 10 = false := list_neg hT (k := 10) (by decide)
      have BW := S.before NL
      refine step_val (v := .int .i64 (i : Nat)) (by simp only [execOp, e1, y13]; go_simp) (hK _ _ ?_)
      rw [e2]
      exact ⟨S.off.put (by decide) _, fun _ => S.before NL, fun g => absurd g (by simp [NL]), fun g => absurd g (by simp [NL]), kp S.t0, kp S.t1, kp S.t2, kp S.t3, kp S.t4, fun _ => (eval_put _ _ _ (by omega)).trans rfl, kp S.t6, kp S.t7, kp S.t8, kp S.t9⟩
    | 6, _, ho, hsi, hT =>
      obtain ⟨e1, e2⟩ := pick_of h6 ho
      have D4 : s 4 = true := list_pos hT (d := 4) (by decide)
      have D5 : s 5 = true := list_pos hT (d := 5) (by decide)
      have NL : s 10 = false := list_neg hT (k := 10) (by decide)
      have BW := S.before NL
      refine step_val (v := .pointer (some ⟨cb, i, none⟩)) (by simp only [execOp, e1, S.t4 D4, S.t5 D5]; go_simp) (hK _ _ ?_)
      rw [e2]
      exact ⟨S.off.put (by decide) _, fun _ => S.before NL, fun g => absurd g (by simp [NL]), fun g => absurd g (by simp [NL]), kp S.t0, kp S.t1, kp S.t2, kp S.t3, kp S.t4, kp S.t5, fun _ => (eval_put _ _ _ (by omega)).trans rfl, kp S.t7, kp S.t8, kp S.t9⟩
    | 7, _, ho, hsi, hT =>
      obtain ⟨e1, e2⟩ := pick_of h7 ho
      have D6 : s 6 = true := list_pos hT (d := 6) (by decide)
      have NL : s 10 = false := list_neg hT (k := 10) (by decide)
      have BW := S.before NL
      have cl := (hC.below BW).cell hm
      refine step_val (v := .int .u8 (c.toNat : Nat)) (by simp only [execOp, e1, S.t6 D6]; go_simp) (hK _ _ ?_)
      rw [e2]
      exact ⟨S.off.put (by decide) _, fun _ => S.before NL, fun g => absurd g (by simp [NL]), fun g => absurd g (by simp [NL]), kp S.t0, kp S.t1, kp S.t2, kp S.t3, kp S.t4, kp S.t5, kp S.t6, fun _ => (eval_put _ _ _ (by omega)).trans rfl, kp S.t8, kp S.t9⟩
    | 8, _, ho, hsi, hT =>
      obtain ⟨e1, e2⟩ := pick_of h8 ho
      have D7 : s 7 = true := list_pos hT (d := 7) (by decide)
      have NL : s 10 = false := list_neg hT (k := 10) (by decide)
      have BW := S.before NL
      refine step_val (v := .agg #[.pointer (some ⟨tb, 0, none⟩), .int .u8 (c.toNat : Nat)]) (by simp only [execOp, e1, List.map_toArray, List.map_cons, List.map_nil, y8, S.t7 D7]; go_simp) (hK _ _ ?_)
      rw [e2]
      exact ⟨S.off.put (by decide) _, fun _ => S.before NL, fun g => absurd g (by simp [NL]), fun g => absurd g (by simp [NL]), kp S.t0, kp S.t1, kp S.t2, kp S.t3, kp S.t4, kp S.t5, kp S.t6, kp S.t7, fun _ => (eval_put _ _ _ (by omega)).trans rfl, kp S.t9⟩
    | 9, _, ho, hsi, hT =>
      obtain ⟨e1, e2⟩ := pick_of h9 ho
      have D8 : s 8 = true := list_pos hT (d := 8) (by decide)
      have NL : s 10 = false := list_neg hT (k := 10) (by decide)
      have BW := S.before NL
      refine step_val (v := byTimes tb c) (by simp only [execOp, e1, List.map_toArray, List.map_cons, List.map_nil, Instr.makeFunc, S.t8 D8]; go_simp) (hK _ _ ?_)
      rw [e2]
      exact ⟨S.off.put (by decide) _, fun _ => S.before NL, fun g => absurd g (by simp [NL]), fun g => absurd g (by simp [NL]), kp S.t0, kp S.t1, kp S.t2, kp S.t3, kp S.t4, kp S.t5, kp S.t6, kp S.t7, kp S.t8, fun _ => (eval_put _ _ _ (by omega)).trans rfl⟩
    | 10, _, ho, hsi, hT =>
      obtain ⟨e1, e2⟩ := pick_of h10 ho
      have D0 : s 0 = true := list_pos hT (d := 0) (by decide)
      have D1 : s 1 = true := list_pos hT (d := 1) (by decide)
      have D2 : s 2 = true := list_pos hT (d := 2) (by decide)
      have D3 : s 3 = true := list_pos hT (d := 3) (by decide)
      have D4 : s 4 = true := list_pos hT (d := 4) (by decide)
      have D5 : s 5 = true := list_pos hT (d := 5) (by decide)
      have D6 : s 6 = true := list_pos hT (d := 6) (by decide)
      have D7 : s 7 = true := list_pos hT (d := 7) (by decide)
      have D8 : s 8 = true := list_pos hT (d := 8) (by decide)
      have D9 : s 9 = true := list_pos hT (d := 9) (by decide)
      have BW := S.before hsi
      refine step_call 61 (fun args w => by go_simp) _ _ e1 #[.slice (some ⟨sb, i, none⟩) (N - i) (C - i), .string q, byTimes tb c] (by simp only [List.map_toArray, List.map_cons, List.map_nil, S.t2 D2, S.t3 D3, S.t9 D9]) ((hadd _ BW).mono ?_)
      rintro e w2 ⟨rfl, BB⟩
      refine ⟨_, rfl, hK _ _ ?_⟩
      rw [e2]
      exact ⟨S.off.put (by decide) _, fun g => absurd g (by simp), fun _ => BB, fun _ => (eval_put _ _ _ (by omega)).trans rfl, kp S.t0, kp S.t1, kp S.t2, kp S.t3, kp S.t4, kp S.t5, kp S.t6, kp S.t7, kp S.t8, kp S.t9⟩
  · intro s a w' S hall
    have a0 := hall 0 (by omega)
    have a1 := hall 1 (by omega)
    have a2 := hall 2 (by omega)
    have a3 := hall 3 (by omega)
    have a4 := hall 4 (by omega)
    have a5 := hall 5 (by omega)
    have a6 := hall 6 (by omega)
    have a7 := hall 7 (by omega)
    have a8 := hall 8 (by omega)
    have a9 := hall 9 (by omega)
    have a10 := hall 10 (by omega)
    have e := off_norm _ (by intro d hd; simp at hd; omega) S.off
    simp only [List.foldl, S.t0 a0, S.t1 a1, S.t2 a2, S.t3 a3, S.t4 a4, S.t5 a5, S.t6 a6, S.t7 a7, S.t8 a8, S.t9 a9, S.tl a10] at e
    rw [e]
    exact h _ (S.behind a10)
theorem coefs_size (f : Nat → BitVec 8) (n : Nat) : (⟨(Gal.coefs f n).toArray⟩ : ByteArray).size = n := by
  show (Gal.coefs f n).toArray.size = _
  rw [List.size_toArray, Gal.coefs_length]
theorem pol_str (f : Nat → BitVec 8) (n : Nat) : (⟨(Gal.trim (⟨(Gal.coefs f n).toArray⟩ : ByteArray).data.toList).toArray⟩ : ByteArray) = ⟨(Gal.pol f n).toArray⟩ := rfl
theorem trimmedB (f : Nat → BitVec 8) (n : Nat) (hn : n ≤ 1000000) (w : World) :
    Calls Tryz.prog 57 #[.string ⟨(Gal.coefs f n).toArray⟩] w fun e w' => e = .returned (.string ⟨(Gal.pol f n).toArray⟩) ∧ Below w.heap.size w w' := by
  have h := trimmed_any (⟨(Gal.coefs f n).toArray⟩ : ByteArray) (by rw [coefs_size]; exact hn) w
  rw [pol_str] at h
  exact h.mono fun e w' ⟨h1, h2⟩ => ⟨h1, h2 ▸ Below.refl _ _⟩
theorem rtrimB (f : Nat → BitVec 8) (n : Nat) (hn : n ≤ 1000000) (w : World) :
    Calls Tryz.prog 43 #[.string ⟨(Gal.coefs f n).toArray⟩] w fun e w' => e = .returned (.string ⟨(Gal.pol f n).toArray⟩) ∧ Below w.heap.size w w' := by
  have h := rtrim_any (⟨(Gal.coefs f n).toArray⟩ : ByteArray) (by rw [coefs_size]; exact hn) w
  rw [pol_str] at h
  exact h.mono fun e w' ⟨h1, h2⟩ => ⟨h1, h2 ▸ Below.refl _ _⟩
structure QuotEnd (lb cb N C m M : Nat) (f g : Nat → BitVec 8) (A : Act) (w0 : World) (s : Nat → Bool) (a : Act) (w : World) : Prop where
  off : Off [69, 70, 71, 72, 73, 4, 5, 6] a A
  before : Below w0.heap.size w0 w
  t0 : s 0 = true → a.eval (.tmp 69) = .slice (some ⟨cb, 0, none⟩) m M
  t1 : s 1 = true → a.eval (.tmp 70) = .string ⟨(Gal.coefs g m).toArray⟩
  t2 : s 2 = true → a.eval (.tmp 71) = .slice (some ⟨lb, 0, none⟩) N C
  t3 : s 3 = true → a.eval (.tmp 72) = .string ⟨(Gal.coefs f N).toArray⟩
  t4 : s 4 = true → a.eval (.tmp 73) = .string ⟨(Gal.pol f N).toArray⟩
  t5 : s 5 = true → a.eval (.tmp 4) = .string ⟨(Gal.coefs g m).toArray⟩
  t6 : s 6 = true → a.eval (.tmp 5) = .string ⟨(Gal.pol f N).toArray⟩
  t7 : s 7 = true → a.eval (.tmp 6) = .int .i64 0
set_option maxHeartbeats 2000000 in
set_option maxRecDepth 100000 in
theorem quotEnd {id : Nat} {d : Bool} {l : List Oper} {A : Act} {w : World} {Q : Exit → Act → World → Prop} (lb cb N C m M : Nat) (f g : Nat → BitVec 8)
    (hN2 : N ≤ 1000000) (hm2 : m ≤ 1000000) (hL : NumsK .u8 w lb N (fun j => (f j).toNat)) (hC : NumsK .u8 w cb m (fun j => (g j).toNat))
    (hB : tableL d l.toArray (fun i => match i with | 0 => [] | 1 => [0] | 2 => [] | 3 => [2] | 4 => [3] | 5 => [1] | 6 => [4] | 7 => [] | _ => []) (fun i => match i with | 0 => [] | 1 => [] | 2 => [] | 3 => [] | 4 => [] | 5 => [] | 6 => [] | 7 => [] | _ => []) = true) (hl : l.length = 8)
    (h0 : pick l 0 = some (.move (.tmp 11), some 69))
    (h1 : pick l 1 = some (.convert 41 9 (.tmp 69), some 70))
    (h2 : pick l 2 = some (.move (.tmp 10), some 71))
    (h3 : pick l 3 = some (.convert 41 9 (.tmp 71), some 72))
    (h4 : pick l 4 = some (.call { callee := .value (.func 57), args := #[.tmp 72], argTypes := #[9] }, some 73))
    (h5 : pick l 5 = some (.assign (.tmp 70), some 4))
    (h6 : pick l 6 = some (.assign (.tmp 73), some 5))
    (h7 : pick l 7 = some (.assign (.const (.int .i64 0)), some 6))
    (hs : A.tmps.size = 74)
    (x11 : A.eval (.tmp 11) = .slice (some ⟨cb, 0, none⟩) m M)
    (x10 : A.eval (.tmp 10) = .slice (some ⟨lb, 0, none⟩) N C)
    (h : ∀ w1, Below w.heap.size w w1 → Q .normal ((((((((A.put (some 69) (.slice (some ⟨cb, 0, none⟩) m M)).put (some 70) (.string ⟨(Gal.coefs g m).toArray⟩)).put (some 71) (.slice (some ⟨lb, 0, none⟩) N C)).put (some 72) (.string ⟨(Gal.coefs f N).toArray⟩)).put (some 73) (.string ⟨(Gal.pol f N).toArray⟩)).put (some 4) (.string ⟨(Gal.coefs g m).toArray⟩)).put (some 5) (.string ⟨(Gal.pol f N).toArray⟩)).put (some 6) (.int .i64 0)) w1) :
    (Code.region id l.toArray d).wp Tryz.prog Q A w := by
  refine wp_region_invL (by kernel_rfl) _ _ hB (QuotEnd lb cb N C m M f g A w) ⟨Off.refl _ _, Below.refl _ _, by simp, by simp, by simp, by simp, by simp, by simp, by simp, by simp⟩ ⟨Off.refl _ _, (Below.refl _ _).drew, by simp, by simp, by simp, by simp, by simp, by simp, by simp, by simp⟩ ?_ ?_
  · intro s a w' S i' o ho hsi hT K hK
    have sz : a.tmps.size = 74 := by rw [S.off.2.1]; exact hs
    have il : i' < 8 := by have := (List.getElem?_eq_some_iff.1 ho).1; omega
    have y11 : a.eval (.tmp 11) = .slice (some ⟨cb, 0, none⟩) m M := by rw [S.off.eval (by decide)]; exact x11
    have y10 : a.eval (.tmp 10) = .slice (some ⟨lb, 0, none⟩) N C := by rw [S.off.eval (by decide)]; exact x10
    match i', il, ho, hsi, hT with
    | 0, _, ho, hsi, hT =>
      obtain ⟨e1, e2⟩ := pick_of h0 ho
      have BW := S.before
      refine step_val (v := .slice (some ⟨cb, 0, none⟩) m M) (by simp only [execOp, e1, y11]; go_simp) (hK _ _ ?_)
      rw [e2]
      exact ⟨S.off.put (by decide) _, S.before, fun _ => (eval_put _ _ _ (by omega)).trans rfl, kp S.t1, kp S.t2, kp S.t3, kp S.t4, kp S.t5, kp S.t6, kp S.t7⟩
    | 1, _, ho, hsi, hT =>
      obtain ⟨e1, e2⟩ := pick_of h1 ho
      have D0 : s 0 = true := list_pos hT (d := 0) (by decide)
      have BW := S.before
      have cv := nums_back M (hC.below BW)
      refine step_val (v := .string ⟨(Gal.coefs g m).toArray⟩) (by simp only [execOp, e1, S.t0 D0]; go_simp) (hK _ _ ?_)
      rw [e2]
      exact ⟨S.off.put (by decide) _, S.before, kp S.t0, fun _ => (eval_put _ _ _ (by omega)).trans rfl, kp S.t2, kp S.t3, kp S.t4, kp S.t5, kp S.t6, kp S.t7⟩
    | 2, _, ho, hsi, hT =>
      obtain ⟨e1, e2⟩ := pick_of h2 ho
      have BW := S.before
      refine step_val (v := .slice (some ⟨lb, 0, none⟩) N C) (by simp only [execOp, e1, y10]; go_simp) (hK _ _ ?_)
      rw [e2]
      exact ⟨S.off.put (by decide) _, S.before, kp S.t0, kp S.t1, fun _ => (eval_put _ _ _ (by omega)).trans rfl, kp S.t3, kp S.t4, kp S.t5, kp S.t6, kp S.t7⟩
    | 3, _, ho, hsi, hT =>
      obtain ⟨e1, e2⟩ := pick_of h3 ho
      have D2 : s 2 = true := list_pos hT (d := 2) (by decide)
      have BW := S.before
      have cv := nums_back C (hL.below BW)
      refine step_val (v := .string ⟨(Gal.coefs f N).toArray⟩) (by simp only [execOp, e1, S.t2 D2]; go_simp) (hK _ _ ?_)
      rw [e2]
      exact ⟨S.off.put (by decide) _, S.before, kp S.t0, kp S.t1, kp S.t2, fun _ => (eval_put _ _ _ (by omega)).trans rfl, kp S.t4, kp S.t5, kp S.t6, kp S.t7⟩
    | 4, _, ho, hsi, hT =>
      obtain ⟨e1, e2⟩ := pick_of h4 ho
      have D3 : s 3 = true := list_pos hT (d := 3) (by decide)
      have BW := S.before
      refine step_call 57 (fun args w => by go_simp) _ _ e1 #[.string ⟨(Gal.coefs f N).toArray⟩] (by simp only [List.map_toArray, List.map_cons, List.map_nil, S.t3 D3]) ((trimmedB f N hN2 _).mono ?_)
      rintro e w2 ⟨rfl, BB⟩
      refine ⟨_, rfl, hK _ _ ?_⟩
      rw [e2]
      exact ⟨S.off.put (by decide) _, bt BW BB, kp S.t0, kp S.t1, kp S.t2, kp S.t3, fun _ => (eval_put _ _ _ (by omega)).trans rfl, kp S.t5, kp S.t6, kp S.t7⟩
    | 5, _, ho, hsi, hT =>
      obtain ⟨e1, e2⟩ := pick_of h5 ho
      have D1 : s 1 = true := list_pos hT (d := 1) (by decide)
      have BW := S.before
      refine step_val (v := .string ⟨(Gal.coefs g m).toArray⟩) (by simp only [execOp, e1, S.t1 D1]; go_simp) (hK _ _ ?_)
      rw [e2]
      exact ⟨S.off.put (by decide) _, S.before, kp S.t0, kp S.t1, kp S.t2, kp S.t3, kp S.t4, fun _ => (eval_put _ _ _ (by omega)).trans rfl, kp S.t6, kp S.t7⟩
    | 6, _, ho, hsi, hT =>
      obtain ⟨e1, e2⟩ := pick_of h6 ho
      have D4 : s 4 = true := list_pos hT (d := 4) (by decide)
      have BW := S.before
      refine step_val (v := .string ⟨(Gal.pol f N).toArray⟩) (by simp only [execOp, e1, S.t4 D4]; go_simp) (hK _ _ ?_)
      rw [e2]
      exact ⟨S.off.put (by decide) _, S.before, kp S.t0, kp S.t1, kp S.t2, kp S.t3, kp S.t4, kp S.t5, fun _ => (eval_put _ _ _ (by omega)).trans rfl, kp S.t7⟩
    | 7, _, ho, hsi, hT =>
      obtain ⟨e1, e2⟩ := pick_of h7 ho
      have BW := S.before
      refine step_val (v := .int .i64 0) (by simp only [execOp, e1]; go_simp) (hK _ _ ?_)
      rw [e2]
      exact ⟨S.off.put (by decide) _, S.before, kp S.t0, kp S.t1, kp S.t2, kp S.t3, kp S.t4, kp S.t5, kp S.t6, fun _ => (eval_put _ _ _ (by omega)).trans rfl⟩
  · intro s a w' S hall
    have a0 := hall 0 (by omega)
    have a1 := hall 1 (by omega)
    have a2 := hall 2 (by omega)
    have a3 := hall 3 (by omega)
    have a4 := hall 4 (by omega)
    have a5 := hall 5 (by omega)
    have a6 := hall 6 (by omega)
    have a7 := hall 7 (by omega)
    have e := off_norm _ (by intro d hd; simp at hd; omega) S.off
    simp only [List.foldl, S.t0 a0, S.t1 a1, S.t2 a2, S.t3 a3, S.t4 a4, S.t5 a5, S.t6 a6, S.t7 a7] at e
    rw [e]
    exact h _ S.before
end Go.Proofs.YtlpjhmafplljaaaGreatDoor
