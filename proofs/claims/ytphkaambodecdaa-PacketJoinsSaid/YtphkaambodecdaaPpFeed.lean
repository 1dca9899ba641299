/- Layer 9, the landed program: New, made, Feed. -/
import Derived.Test.YtphkaambodecdaaPpJoin
namespace Go.Proofs.Ytphkaambodecdaa
open Go.RowKit
set_option linter.unusedVariables false
set_option maxRecDepth 100000

theorem pc_list (wh : Bool) (m : ByteArray) (mi : Int) (br : Bool) : ∀ j, j < 4 → ([.bool wh, .string m, .int .i64 mi, .bool br] : List Value)[j]? = some (pcC wh m mi br j) := fun j hj => by
  match j, hj with
  | 0, _ => rfl
  | 1, _ => rfl
  | 2, _ => rfl
  | 3, _ => rfl
theorem pc_cells (wh : Bool) (m : ByteArray) (mi : Int) (br : Bool) : ∀ j, j < 4 → (#[.bool wh, .string m, .int .i64 mi, .bool br] : Array Value)[j]? = some (pcC wh m mi br j) := fun j hj => by
  match j, hj with
  | 0, _ => rfl
  | 1, _ => rfl
  | 2, _ => rfl
  | 3, _ => rfl
theorem kn_list (x : Int) (sv : Value) : ∀ j, j < 2 → ([.int .i64 x, sv] : List Value)[j]? = some (knC x sv j) := fun j hj => by
  match j, hj with
  | 0, _ => rfl
  | 1, _ => rfl
theorem kn_cells (x : Int) (sv : Value) : ∀ j, j < 2 → (#[.int .i64 x, sv] : Array Value)[j]? = some (knC x sv j) := fun j hj => by
  match j, hj with
  | 0, _ => rfl
  | 1, _ => rfl
theorem pc_info : (Try.prog.info? 52).map (·.size) = some 4 := by kernel_rfl
theorem kn_info : (Try.prog.info? 75).map (·.size) = some 2 := by kernel_rfl
/-- A piece as a value. -/
def pcV (x : Pk.Pc) : Value := .agg #[.bool x.whole, .string (bs x.msg), .int .i64 x.missed, .bool x.broken]
def pc0 : Pk.Pc := ⟨false, [], 0, false⟩
theorem eqlJ_self (O : Addr) (w : World) : (binOp .eql 42 (.pointer (some O)) (.pointer (some O))).run Try.prog w = .ok (.bool true) w := by
  obtain ⟨j, hj⟩ := Option.isSome_iff_exists.1 (show (Try.prog.info? 50).isSome = true by kernel_rfl)
  exact run_eql_ptr_same w O Try.underlying42 hj
theorem eqlJ_none (O : Addr) (w : World) : (binOp .eql 42 (.pointer none) (.pointer (some O))).run Try.prog w = .ok (.bool false) w := by
  have h : ∀ d : Nat, (Op.equalIn (d + 1) 42 (.pointer none) (.pointer (some O))).run Try.prog w = .ok false w := fun d => by
    simp [Op.equalIn, run_underlying Try.underlying42]
  simp only [binOp]
  simp [Op.equal, Op.maxDepth, h 9999]
theorem neqJ_not (O : Addr) (w : World) : (binOp .neq 42 (.pointer (some O)) (.pointer none)).run Try.prog w = .ok (.bool true) w := by
  have h : ∀ d : Nat, (Op.equalIn (d + 1) 42 (.pointer (some O)) (.pointer none)).run Try.prog w = .ok false w := fun d => by
    simp [Op.equalIn, run_underlying Try.underlying42]
  simp only [binOp]
  simp [Op.equal, Op.maxDepth, h 9999]
theorem eqlJ_not (O : Addr) (w : World) : (binOp .eql 42 (.pointer (some O)) (.pointer none)).run Try.prog w = .ok (.bool false) w := by
  have h : ∀ d : Nat, (Op.equalIn (d + 1) 42 (.pointer (some O)) (.pointer none)).run Try.prog w = .ok false w := fun d => by
    simp [Op.equalIn, run_underlying Try.underlying42]
  simp only [binOp]
  simp [Op.equal, Op.maxDepth, h 9999]
theorem made_yes (j : Nat) (w : World) (c0 : w.cell? ⟨j, 0, none⟩ = some (.pointer (some ⟨j, 0, none⟩))) : Calls Try.prog 43 #[.pointer (some ⟨j, 0, none⟩)] w fun e w' => e = .returned (.bool true) ∧ w = w' := by
  have q1 := eqlJ_self ⟨j, 0, none⟩ w
  have q2 := neqJ_not ⟨j, 0, none⟩ w
  go_enter Try.func43, Try.ntmps43
  go_wp2_with fail
  go_ret
  exact ⟨rfl, rfl⟩
theorem made_nil (w : World) : Calls Try.prog 43 #[.pointer none] w fun e w' => e = .returned (.bool false) ∧ w = w' := by
  go_enter Try.func43, Try.ntmps43
  go_wp2_with fail
  go_ret
  exact ⟨rfl, rfl⟩
theorem made_none (j : Nat) (w : World) (c0 : w.cell? ⟨j, 0, none⟩ = some (.pointer none)) : Calls Try.prog 43 #[.pointer (some ⟨j, 0, none⟩)] w fun e w' => e = .returned (.bool false) ∧ w = w' := by
  have q1 := eqlJ_none ⟨j, 0, none⟩ w
  have q2 := neqJ_not ⟨j, 0, none⟩ w
  go_enter Try.func43, Try.ntmps43
  go_wp2_with fail
  go_ret
  exact ⟨rfl, rfl⟩
theorem cells_setCell {w : World} {b i : Nat} {cur : Array Value} {t : TypeId} {fr : Nat × Nat} {u : Value} (h : w.heap[b]? = some (.cells cur t fr)) : ∃ cur', (w.setCell ⟨b, i, none⟩ u).heap[b]? = some (.cells cur' t fr) := by
  unfold World.setCell
  simp [Array.getElem?_modify, h]
/-- A new joiner. -/
theorem pnew_any (w : World) : Calls Try.prog 24 #[] w fun e w' => ∃ j m, e = .returned (.pointer (some ⟨j, 0, none⟩)) ∧ PJ w' w.heap.size j m 0 (fun _ => none) (.map []) (fun _ => .slice none 0 0) ∧ Below w.heap.size w w' := by
  have hmm := @run_makeMap Try.prog
  obtain ⟨z, hz⟩ : ∃ z, w.heap.size = z := ⟨_, rfl⟩
  obtain ⟨w1, hw1⟩ : ∃ w1, w.alloc (.map #[] 0) = w1 := ⟨_, rfl⟩
  have sz1 : w1.heap.size = z + 1 := by rw [← hw1, World.size_alloc, hz]
  obtain ⟨w2, hw2⟩ : ∃ w2, w1.alloc (.cells #[.pointer none, .map (some z)] 50) = w2 := ⟨_, rfl⟩
  have sz2 : w2.heap.size = z + 2 := by rw [← hw2, World.size_alloc, sz1]
  have hj2 : w2.heap[z + 1]? = some (.cells #[.pointer none, .map (some z)] 50 (0, 0)) := by rw [← hw2, ← sz1]; exact heap_alloc_last w1 _
  have c02 : w2.cell? ⟨z + 1, 0, none⟩ = some (.pointer none) := by simp [World.cell?, hj2]
  have c12 : w2.cell? ⟨z + 1, 1, none⟩ = some (.map (some z)) := by simp [World.cell?, hj2]
  have f02 : w2.frozen? ⟨z + 1, 0, none⟩ = false := by simp [World.frozen?, hj2]
  have om : w1.ownsMap Try.prog 3 knR z 0 (.map []) := by rw [← hw1, ← hz]; exact World.ownsMap_made _ _ _ _
  have om2 : w2.ownsMap Try.prog 3 knR z 0 (.map []) := by rw [← hw2]; exact om.alloc _
  have B2 : Below z w w2 := by rw [← hw2, ← hw1]; exact ((Below.refl z w).alloc (by omega) _).alloc (by rw [World.size_alloc]; omega) _
  obtain ⟨w3, hw3⟩ : ∃ w3, w2.setCell ⟨z + 1, 0, none⟩ (.pointer (some ⟨z + 1, 0, none⟩)) = w3 := ⟨_, rfl⟩
  have PP := Lib.hid (show PJ w3 z (z + 1) z 0 (fun _ => none) (.map []) (fun _ => .slice none 0 0) from by
    refine ⟨by omega, Nat.le_refl _, ?_, ?_, ?_, ?_, ?_, ?_, ?_⟩
    · obtain ⟨cur, h⟩ := cells_setCell (i := 0) (u := .pointer (some ⟨z + 1, 0, none⟩)) hj2
      exact ⟨cur, _, hw3 ▸ h⟩
    · rw [← hw3]; simp [World.cell?, World.setCell, Array.getElem?_modify, hj2]
    · rw [← hw3]; simp [World.cell?, World.setCell, Array.getElem?_modify, hj2]
    · rw [← hw3]; exact om2.setCell (a := ⟨z + 1, 0, none⟩) (by show z ≠ z + 1; omega) _
    · intro kl hk; simp [Maps.has] at hk
    · intro a st e; cases e
    · intro a b ha; cases ha)
  have B3 := Lib.hid (show Below z w w3 from hw3 ▸ B2.setCell (p := ⟨z + 1, 0, none⟩) (by show z ≤ z + 1; omega) _)
  have HZ := Lib.hid hz
  have HW1 := Lib.hid hw1
  have HW2 := Lib.hid hw2
  have HW3 := Lib.hid hw3
  have S1 := Lib.hid sz1
  clear hz hw1 hw2 hw3 om om2 B2 sz1 sz2 hj2 c12
  go_enter Try.func24, Try.ntmps24
  go_wp2_with (simp only [HW1.out, HW2.out, HZ.out, S1.out])
  go_ret
  exact ⟨z + 1, z, rfl, by rw [HW3.out]; (first | exact PP.out | (rw [HZ.out]; exact PP.out)), by rw [HW3.out]; (first | exact B3.out | (rw [HZ.out]; exact B3.out))⟩
/-- A new known, and what is stored into it. -/
def AlK (n0 : Nat) (f0 f1 : Nat → Value) (b : Bool) (v : Value) (w : World) : Prop := ∃ g, v = .pointer (some ⟨g, 0, none⟩) ∧ n0 ≤ g ∧ Cel w g 2 (if b = true then f1 else f0)
theorem AlK.mono {n0 : Nat} {f0 f1 : Nat → Value} {b : Bool} {v : Value} {w w' : World} (h : AlK n0 f0 f1 b v w) (hb : Below w.heap.size w w') : AlK n0 f0 f1 b v w' := by
  obtain ⟨g, e, h1, h2⟩ := h
  exact ⟨g, e, h1, h2.below hb⟩
theorem alk_new {n0 : Nat} {f1 : Nat → Value} {b : Bool} (w : World) (h : n0 ≤ w.heap.size) (hb : b = false) : AlK n0 (knC 0 (.slice none 0 0)) f1 b (.pointer (some ⟨w.heap.size, 0, none⟩)) (w.alloc (.cells #[.int .i64 0, .slice none 0 0] 75)) := by
  subst hb
  exact ⟨_, rfl, h, Cel.new w _ _ (fun j hj => kn_cells 0 (.slice none 0 0) j hj)⟩
structure FdRegion (j X m n c n0 : Nat) (sa : Option Addr) (B : Bool) (ap nx : Int) (A : Act) (w0 : World) (s : Nat → Bool) (a : Act) (w : World) : Prop where
  off : Off [22, 23, 24, 25, 26, 27, 28, 21, 29, 30, 7] a A
  before : Below w0.heap.size w0 w
  t0 : s 0 = true → a.eval (.tmp 22) = .pointer (some ⟨j, 0, none⟩)
  t1 : s 1 = true → a.eval (.tmp 23) = .pointer (some ⟨j, 0, none⟩)
  t2 : s 2 = true → a.eval (.tmp 24) = .pointer (some ⟨j, 1, none⟩)
  t3 : s 3 = true → a.eval (.tmp 25) = .map (some m)
  t4 : s 4 = true → a.eval (.tmp 26) = .pointer (some ⟨X, 1, none⟩)
  t5 : s 5 = true → a.eval (.tmp 27) = .int .i64 ap
  t6 : s 6 = true → a.eval (.tmp 28) = .tuple #[knV nx (.slice sa n c), .bool B]
  t7 : s 7 = true → a.eval (.tmp 21) = .tuple #[knV nx (.slice sa n c), .bool B]
  t8 : s 8 = true → a.eval (.tmp 29) = knV nx (.slice sa n c)
  t9 : s 9 = true → a.eval (.tmp 30) = .bool B
  t10 : s 10 = true → ∃ v10, a.eval (.tmp 7) = v10 ∧ AlK n0 (knC 0 (.slice none 0 0)) (knC nx (.slice sa n c)) (s 11) v10 w
set_option maxHeartbeats 2000000 in
set_option maxRecDepth 100000 in
theorem fdRegion {id : Nat} {l : List Oper} {A : Act} {w : World} {Q : Exit → Act → World → Prop} (j X m n c n0 : Nat) (sa : Option Addr) (B : Bool) (ap nx : Int)
    (lj : j < w.heap.size) (lX : X < w.heap.size) (lm : m < w.heap.size) (hn0 : n0 ≤ w.heap.size) (hb0 : w.heap.size ≤ n0) (cj : w.cell? ⟨j, 1, none⟩ = some (.map (some m))) (cX : w.cell? ⟨X, 1, none⟩ = some (.int .i64 ap)) (hL : ∀ w', w'.heap[m]? = w.heap[m]? → (Instr.lookup 48 (.map (some m)) (.int .i64 ap) true).run Try.prog w' = .ok (.tuple #[knV nx (.slice sa n c), .bool B]) w')
    (hB : tableH l.toArray 12 (fun i => match i with | 0 => [] | 1 => [0] | 2 => [1] | 3 => [2] | 4 => [] | 5 => [4] | 6 => [3, 5] | 7 => [6] | 8 => [7] | 9 => [7] | 10 => [] | 11 => [8, 10] | _ => []) (fun i => match i with | 10 => [11] | _ => []) = true)
    (h0 : pick l 0 = some (.move (.tmp 0), some 22))
    (h1 : pick l 1 = some (.nilCheck (.tmp 22), some 23))
    (h2 : pick l 2 = some (.fieldAddr 50 (.tmp 23) 1, some 24))
    (h3 : pick l 3 = some (.load 48 (.tmp 24), some 25))
    (h4 : pick l 4 = some (.fieldAddr 23 (.tmp 3) 1, some 26))
    (h5 : pick l 5 = some (.load 3 (.tmp 26), some 27))
    (h6 : pick l 6 = some (.lookup 48 (.tmp 25) (.tmp 27) true, some 28))
    (h7 : pick l 7 = some (.move (.tmp 28), some 21))
    (h8 : pick l 8 = some (.extract (.tmp 21) 0, some 29))
    (h9 : pick l 9 = some (.extract (.tmp 21) 1, some 30))
    (h10 : pick l 10 = some (.alloc 75, some 7))
    (h11 : pick l 11 = some (.store 75 (.tmp 7) (.tmp 29), none))
    (hs : A.tmps.size = 54)
    (x0 : A.eval (.tmp 0) = .pointer (some ⟨j, 0, none⟩))
    (x3 : A.eval (.tmp 3) = .pointer (some ⟨X, 0, none⟩))
    (h : ∀ v10 w1, Below w.heap.size w w1 → AlK n0 (knC 0 (.slice none 0 0)) (knC nx (.slice sa n c)) true v10 w1 → wpList Try.prog l.toArray Q (l.drop 12) (((((((((((A.put (some 22) (.pointer (some ⟨j, 0, none⟩))).put (some 23) (.pointer (some ⟨j, 0, none⟩))).put (some 24) (.pointer (some ⟨j, 1, none⟩))).put (some 25) (.map (some m))).put (some 26) (.pointer (some ⟨X, 1, none⟩))).put (some 27) (.int .i64 ap)).put (some 28) (.tuple #[knV nx (.slice sa n c), .bool B])).put (some 21) (.tuple #[knV nx (.slice sa n c), .bool B])).put (some 29) (knV nx (.slice sa n c))).put (some 30) (.bool B)).put (some 7) (v10)) w1) :
    (Code.region id l.toArray true).wp Try.prog Q A w := by
  refine wp_region_head (by kernel_rfl) _ _ _ hB (FdRegion j X m n c n0 sa B ap nx A w) ⟨Off.refl _ _, (Below.refl _ _).drew, by simp, by simp, by simp, by simp, by simp, by simp, by simp, by simp, by simp, by simp, by simp⟩ ?_ ?_
  · intro s a w' S i' o il ho hsi hT K hK
    have sz : a.tmps.size = 54 := by rw [S.off.2.1]; exact hs
    have y0 : a.eval (.tmp 0) = .pointer (some ⟨j, 0, none⟩) := by rw [S.off.eval (by decide)]; exact x0
    have y3 : a.eval (.tmp 3) = .pointer (some ⟨X, 0, none⟩) := by rw [S.off.eval (by decide)]; exact x3
    match i', il, ho, hsi, hT with
    | 0, _, ho, hsi, hT =>
      obtain ⟨e1, e2⟩ := pick_of h0 ho
      have BW := S.before
      refine step_val (v := .pointer (some ⟨j, 0, none⟩)) (by simp only [execOp, e1, y0]; go_simp) (hK _ _ ?_)
      rw [e2]
      exact ⟨S.off.put (by decide) _, S.before, fun _ => (eval_put _ _ _ (by omega)).trans rfl, fun g => by rw [eval_put_ne _ _ _ _ (by decide)]; exact S.t1 (by simpa using g), fun g => by rw [eval_put_ne _ _ _ _ (by decide)]; exact S.t2 (by simpa using g), fun g => by rw [eval_put_ne _ _ _ _ (by decide)]; exact S.t3 (by simpa using g), fun g => by rw [eval_put_ne _ _ _ _ (by decide)]; exact S.t4 (by simpa using g), fun g => by rw [eval_put_ne _ _ _ _ (by decide)]; exact S.t5 (by simpa using g), fun g => by rw [eval_put_ne _ _ _ _ (by decide)]; exact S.t6 (by simpa using g), fun g => by rw [eval_put_ne _ _ _ _ (by decide)]; exact S.t7 (by simpa using g), fun g => by rw [eval_put_ne _ _ _ _ (by decide)]; exact S.t8 (by simpa using g), fun g => by rw [eval_put_ne _ _ _ _ (by decide)]; exact S.t9 (by simpa using g), fun g => (S.t10 (by simpa using g)).imp fun b hb => ⟨by rw [eval_put_ne _ _ _ _ (by decide)]; exact hb.1, hb.2⟩⟩
    | 1, _, ho, hsi, hT =>
      obtain ⟨e1, e2⟩ := pick_of h1 ho
      have D0 : s 0 = true := list_pos hT (d := 0) (by decide)
      have BW := S.before
      refine step_val (v := .pointer (some ⟨j, 0, none⟩)) (by simp only [execOp, e1, S.t0 D0]; go_simp) (hK _ _ ?_)
      rw [e2]
      exact ⟨S.off.put (by decide) _, S.before, fun g => by rw [eval_put_ne _ _ _ _ (by decide)]; exact S.t0 (by simpa using g), fun _ => (eval_put _ _ _ (by omega)).trans rfl, fun g => by rw [eval_put_ne _ _ _ _ (by decide)]; exact S.t2 (by simpa using g), fun g => by rw [eval_put_ne _ _ _ _ (by decide)]; exact S.t3 (by simpa using g), fun g => by rw [eval_put_ne _ _ _ _ (by decide)]; exact S.t4 (by simpa using g), fun g => by rw [eval_put_ne _ _ _ _ (by decide)]; exact S.t5 (by simpa using g), fun g => by rw [eval_put_ne _ _ _ _ (by decide)]; exact S.t6 (by simpa using g), fun g => by rw [eval_put_ne _ _ _ _ (by decide)]; exact S.t7 (by simpa using g), fun g => by rw [eval_put_ne _ _ _ _ (by decide)]; exact S.t8 (by simpa using g), fun g => by rw [eval_put_ne _ _ _ _ (by decide)]; exact S.t9 (by simpa using g), fun g => (S.t10 (by simpa using g)).imp fun b hb => ⟨by rw [eval_put_ne _ _ _ _ (by decide)]; exact hb.1, hb.2⟩⟩
    | 2, _, ho, hsi, hT =>
      obtain ⟨e1, e2⟩ := pick_of h2 ho
      have D1 : s 1 = true := list_pos hT (d := 1) (by decide)
      have BW := S.before
      refine step_val (v := .pointer (some ⟨j, 1, none⟩)) (by simp only [execOp, e1, S.t1 D1]; go_simp) (hK _ _ ?_)
      rw [e2]
      exact ⟨S.off.put (by decide) _, S.before, fun g => by rw [eval_put_ne _ _ _ _ (by decide)]; exact S.t0 (by simpa using g), fun g => by rw [eval_put_ne _ _ _ _ (by decide)]; exact S.t1 (by simpa using g), fun _ => (eval_put _ _ _ (by omega)).trans rfl, fun g => by rw [eval_put_ne _ _ _ _ (by decide)]; exact S.t3 (by simpa using g), fun g => by rw [eval_put_ne _ _ _ _ (by decide)]; exact S.t4 (by simpa using g), fun g => by rw [eval_put_ne _ _ _ _ (by decide)]; exact S.t5 (by simpa using g), fun g => by rw [eval_put_ne _ _ _ _ (by decide)]; exact S.t6 (by simpa using g), fun g => by rw [eval_put_ne _ _ _ _ (by decide)]; exact S.t7 (by simpa using g), fun g => by rw [eval_put_ne _ _ _ _ (by decide)]; exact S.t8 (by simpa using g), fun g => by rw [eval_put_ne _ _ _ _ (by decide)]; exact S.t9 (by simpa using g), fun g => (S.t10 (by simpa using g)).imp fun b hb => ⟨by rw [eval_put_ne _ _ _ _ (by decide)]; exact hb.1, hb.2⟩⟩
    | 3, _, ho, hsi, hT =>
      obtain ⟨e1, e2⟩ := pick_of h3 ho
      have D2 : s 2 = true := list_pos hT (d := 2) (by decide)
      have BW := S.before
      have cl := (BW.cell (p := ⟨j, 1, none⟩) lj).trans cj
      refine step_val (v := .map (some m)) (by simp only [execOp, e1, S.t2 D2]; go_simp) (hK _ _ ?_)
      rw [e2]
      exact ⟨S.off.put (by decide) _, S.before, fun g => by rw [eval_put_ne _ _ _ _ (by decide)]; exact S.t0 (by simpa using g), fun g => by rw [eval_put_ne _ _ _ _ (by decide)]; exact S.t1 (by simpa using g), fun g => by rw [eval_put_ne _ _ _ _ (by decide)]; exact S.t2 (by simpa using g), fun _ => (eval_put _ _ _ (by omega)).trans rfl, fun g => by rw [eval_put_ne _ _ _ _ (by decide)]; exact S.t4 (by simpa using g), fun g => by rw [eval_put_ne _ _ _ _ (by decide)]; exact S.t5 (by simpa using g), fun g => by rw [eval_put_ne _ _ _ _ (by decide)]; exact S.t6 (by simpa using g), fun g => by rw [eval_put_ne _ _ _ _ (by decide)]; exact S.t7 (by simpa using g), fun g => by rw [eval_put_ne _ _ _ _ (by decide)]; exact S.t8 (by simpa using g), fun g => by rw [eval_put_ne _ _ _ _ (by decide)]; exact S.t9 (by simpa using g), fun g => (S.t10 (by simpa using g)).imp fun b hb => ⟨by rw [eval_put_ne _ _ _ _ (by decide)]; exact hb.1, hb.2⟩⟩
    | 4, _, ho, hsi, hT =>
      obtain ⟨e1, e2⟩ := pick_of h4 ho
      have BW := S.before
      refine step_val (v := .pointer (some ⟨X, 1, none⟩)) (by simp only [execOp, e1, y3]; go_simp) (hK _ _ ?_)
      rw [e2]
      exact ⟨S.off.put (by decide) _, S.before, fun g => by rw [eval_put_ne _ _ _ _ (by decide)]; exact S.t0 (by simpa using g), fun g => by rw [eval_put_ne _ _ _ _ (by decide)]; exact S.t1 (by simpa using g), fun g => by rw [eval_put_ne _ _ _ _ (by decide)]; exact S.t2 (by simpa using g), fun g => by rw [eval_put_ne _ _ _ _ (by decide)]; exact S.t3 (by simpa using g), fun _ => (eval_put _ _ _ (by omega)).trans rfl, fun g => by rw [eval_put_ne _ _ _ _ (by decide)]; exact S.t5 (by simpa using g), fun g => by rw [eval_put_ne _ _ _ _ (by decide)]; exact S.t6 (by simpa using g), fun g => by rw [eval_put_ne _ _ _ _ (by decide)]; exact S.t7 (by simpa using g), fun g => by rw [eval_put_ne _ _ _ _ (by decide)]; exact S.t8 (by simpa using g), fun g => by rw [eval_put_ne _ _ _ _ (by decide)]; exact S.t9 (by simpa using g), fun g => (S.t10 (by simpa using g)).imp fun b hb => ⟨by rw [eval_put_ne _ _ _ _ (by decide)]; exact hb.1, hb.2⟩⟩
    | 5, _, ho, hsi, hT =>
      obtain ⟨e1, e2⟩ := pick_of h5 ho
      have D4 : s 4 = true := list_pos hT (d := 4) (by decide)
      have BW := S.before
      have cl := (BW.cell (p := ⟨X, 1, none⟩) lX).trans cX
      refine step_val (v := .int .i64 ap) (by simp only [execOp, e1, S.t4 D4]; go_simp) (hK _ _ ?_)
      rw [e2]
      exact ⟨S.off.put (by decide) _, S.before, fun g => by rw [eval_put_ne _ _ _ _ (by decide)]; exact S.t0 (by simpa using g), fun g => by rw [eval_put_ne _ _ _ _ (by decide)]; exact S.t1 (by simpa using g), fun g => by rw [eval_put_ne _ _ _ _ (by decide)]; exact S.t2 (by simpa using g), fun g => by rw [eval_put_ne _ _ _ _ (by decide)]; exact S.t3 (by simpa using g), fun g => by rw [eval_put_ne _ _ _ _ (by decide)]; exact S.t4 (by simpa using g), fun _ => (eval_put _ _ _ (by omega)).trans rfl, fun g => by rw [eval_put_ne _ _ _ _ (by decide)]; exact S.t6 (by simpa using g), fun g => by rw [eval_put_ne _ _ _ _ (by decide)]; exact S.t7 (by simpa using g), fun g => by rw [eval_put_ne _ _ _ _ (by decide)]; exact S.t8 (by simpa using g), fun g => by rw [eval_put_ne _ _ _ _ (by decide)]; exact S.t9 (by simpa using g), fun g => (S.t10 (by simpa using g)).imp fun b hb => ⟨by rw [eval_put_ne _ _ _ _ (by decide)]; exact hb.1, hb.2⟩⟩
    | 6, _, ho, hsi, hT =>
      obtain ⟨e1, e2⟩ := pick_of h6 ho
      have D3 : s 3 = true := list_pos hT (d := 3) (by decide)
      have D5 : s 5 = true := list_pos hT (d := 5) (by decide)
      have BW := S.before
      refine step_val (v := .tuple #[knV nx (.slice sa n c), .bool B]) (by simp only [execOp, e1, S.t3 D3, S.t5 D5, Sem.run_bind, hL w' (BW.block m lm), Result.andThen_ok, Sem.run_pure]) (hK _ _ ?_)
      rw [e2]
      exact ⟨S.off.put (by decide) _, S.before, fun g => by rw [eval_put_ne _ _ _ _ (by decide)]; exact S.t0 (by simpa using g), fun g => by rw [eval_put_ne _ _ _ _ (by decide)]; exact S.t1 (by simpa using g), fun g => by rw [eval_put_ne _ _ _ _ (by decide)]; exact S.t2 (by simpa using g), fun g => by rw [eval_put_ne _ _ _ _ (by decide)]; exact S.t3 (by simpa using g), fun g => by rw [eval_put_ne _ _ _ _ (by decide)]; exact S.t4 (by simpa using g), fun g => by rw [eval_put_ne _ _ _ _ (by decide)]; exact S.t5 (by simpa using g), fun _ => (eval_put _ _ _ (by omega)).trans rfl, fun g => by rw [eval_put_ne _ _ _ _ (by decide)]; exact S.t7 (by simpa using g), fun g => by rw [eval_put_ne _ _ _ _ (by decide)]; exact S.t8 (by simpa using g), fun g => by rw [eval_put_ne _ _ _ _ (by decide)]; exact S.t9 (by simpa using g), fun g => (S.t10 (by simpa using g)).imp fun b hb => ⟨by rw [eval_put_ne _ _ _ _ (by decide)]; exact hb.1, hb.2⟩⟩
    | 7, _, ho, hsi, hT =>
      obtain ⟨e1, e2⟩ := pick_of h7 ho
      have D6 : s 6 = true := list_pos hT (d := 6) (by decide)
      have BW := S.before
      refine step_val (v := .tuple #[knV nx (.slice sa n c), .bool B]) (by simp only [execOp, e1, S.t6 D6]; go_simp) (hK _ _ ?_)
      rw [e2]
      exact ⟨S.off.put (by decide) _, S.before, fun g => by rw [eval_put_ne _ _ _ _ (by decide)]; exact S.t0 (by simpa using g), fun g => by rw [eval_put_ne _ _ _ _ (by decide)]; exact S.t1 (by simpa using g), fun g => by rw [eval_put_ne _ _ _ _ (by decide)]; exact S.t2 (by simpa using g), fun g => by rw [eval_put_ne _ _ _ _ (by decide)]; exact S.t3 (by simpa using g), fun g => by rw [eval_put_ne _ _ _ _ (by decide)]; exact S.t4 (by simpa using g), fun g => by rw [eval_put_ne _ _ _ _ (by decide)]; exact S.t5 (by simpa using g), fun g => by rw [eval_put_ne _ _ _ _ (by decide)]; exact S.t6 (by simpa using g), fun _ => (eval_put _ _ _ (by omega)).trans rfl, fun g => by rw [eval_put_ne _ _ _ _ (by decide)]; exact S.t8 (by simpa using g), fun g => by rw [eval_put_ne _ _ _ _ (by decide)]; exact S.t9 (by simpa using g), fun g => (S.t10 (by simpa using g)).imp fun b hb => ⟨by rw [eval_put_ne _ _ _ _ (by decide)]; exact hb.1, hb.2⟩⟩
    | 8, _, ho, hsi, hT =>
      obtain ⟨e1, e2⟩ := pick_of h8 ho
      have D7 : s 7 = true := list_pos hT (d := 7) (by decide)
      have BW := S.before
      refine step_val (v := knV nx (.slice sa n c)) (by simp only [execOp, e1, S.t7 D7]; go_simp) (hK _ _ ?_)
      rw [e2]
      exact ⟨S.off.put (by decide) _, S.before, fun g => by rw [eval_put_ne _ _ _ _ (by decide)]; exact S.t0 (by simpa using g), fun g => by rw [eval_put_ne _ _ _ _ (by decide)]; exact S.t1 (by simpa using g), fun g => by rw [eval_put_ne _ _ _ _ (by decide)]; exact S.t2 (by simpa using g), fun g => by rw [eval_put_ne _ _ _ _ (by decide)]; exact S.t3 (by simpa using g), fun g => by rw [eval_put_ne _ _ _ _ (by decide)]; exact S.t4 (by simpa using g), fun g => by rw [eval_put_ne _ _ _ _ (by decide)]; exact S.t5 (by simpa using g), fun g => by rw [eval_put_ne _ _ _ _ (by decide)]; exact S.t6 (by simpa using g), fun g => by rw [eval_put_ne _ _ _ _ (by decide)]; exact S.t7 (by simpa using g), fun _ => (eval_put _ _ _ (by omega)).trans rfl, fun g => by rw [eval_put_ne _ _ _ _ (by decide)]; exact S.t9 (by simpa using g), fun g => (S.t10 (by simpa using g)).imp fun b hb => ⟨by rw [eval_put_ne _ _ _ _ (by decide)]; exact hb.1, hb.2⟩⟩
    | 9, _, ho, hsi, hT =>
      obtain ⟨e1, e2⟩ := pick_of h9 ho
      have D7 : s 7 = true := list_pos hT (d := 7) (by decide)
      have BW := S.before
      refine step_val (v := .bool B) (by simp only [execOp, e1, S.t7 D7]; go_simp) (hK _ _ ?_)
      rw [e2]
      exact ⟨S.off.put (by decide) _, S.before, fun g => by rw [eval_put_ne _ _ _ _ (by decide)]; exact S.t0 (by simpa using g), fun g => by rw [eval_put_ne _ _ _ _ (by decide)]; exact S.t1 (by simpa using g), fun g => by rw [eval_put_ne _ _ _ _ (by decide)]; exact S.t2 (by simpa using g), fun g => by rw [eval_put_ne _ _ _ _ (by decide)]; exact S.t3 (by simpa using g), fun g => by rw [eval_put_ne _ _ _ _ (by decide)]; exact S.t4 (by simpa using g), fun g => by rw [eval_put_ne _ _ _ _ (by decide)]; exact S.t5 (by simpa using g), fun g => by rw [eval_put_ne _ _ _ _ (by decide)]; exact S.t6 (by simpa using g), fun g => by rw [eval_put_ne _ _ _ _ (by decide)]; exact S.t7 (by simpa using g), fun g => by rw [eval_put_ne _ _ _ _ (by decide)]; exact S.t8 (by simpa using g), fun _ => (eval_put _ _ _ (by omega)).trans rfl, fun g => (S.t10 (by simpa using g)).imp fun b hb => ⟨by rw [eval_put_ne _ _ _ _ (by decide)]; exact hb.1, hb.2⟩⟩
    | 10, _, ho, hsi, hT =>
      obtain ⟨e1, e2⟩ := pick_of h10 ho
      have BW := S.before
      have NS : s 11 = false := list_neg hT (k := 11) (by decide)
      refine step_to1x (Fact := AlK n0 (knC 0 (.slice none 0 0)) (knC nx (.slice sa n c)) (s 11)) (v := .pointer (some ⟨w'.heap.size, 0, none⟩)) (w2 := w'.alloc (.cells #[.int .i64 0, .slice none 0 0] 75)) (alloc_known e1) (alk_new w' (Nat.le_trans hn0 BW.size) NS) (ba (Below.refl _ _) _) (fun v w2 FF BB => hK _ _ ?_)
      rw [e2]
      exact ⟨S.off.put (by decide) _, bt BW BB, fun g => by rw [eval_put_ne _ _ _ _ (by decide)]; exact S.t0 (by simpa using g), fun g => by rw [eval_put_ne _ _ _ _ (by decide)]; exact S.t1 (by simpa using g), fun g => by rw [eval_put_ne _ _ _ _ (by decide)]; exact S.t2 (by simpa using g), fun g => by rw [eval_put_ne _ _ _ _ (by decide)]; exact S.t3 (by simpa using g), fun g => by rw [eval_put_ne _ _ _ _ (by decide)]; exact S.t4 (by simpa using g), fun g => by rw [eval_put_ne _ _ _ _ (by decide)]; exact S.t5 (by simpa using g), fun g => by rw [eval_put_ne _ _ _ _ (by decide)]; exact S.t6 (by simpa using g), fun g => by rw [eval_put_ne _ _ _ _ (by decide)]; exact S.t7 (by simpa using g), fun g => by rw [eval_put_ne _ _ _ _ (by decide)]; exact S.t8 (by simpa using g), fun g => by rw [eval_put_ne _ _ _ _ (by decide)]; exact S.t9 (by simpa using g), fun _ => ⟨_, (eval_put _ _ _ (by omega)).trans rfl, FF⟩⟩
    | 11, _, ho, hsi, hT =>
      obtain ⟨e1, e2⟩ := pick_of h11 ho
      have D8 : s 8 = true := list_pos hT (d := 8) (by decide)
      have D10 : s 10 = true := list_pos hT (d := 10) (by decide)
      have BW := S.before
      obtain ⟨v10, M10, F10⟩ := S.t10 D10
      obtain ⟨g, rfl, hg, Cg⟩ := F10
      rw [hsi] at Cg
      refine wp_store_mid 75 (.tmp 7) (.tmp 29) e1 g 0 #[.int .i64 nx, .slice sa n c] M10 (S.t8 D8) (Cg.there 0 2 (by omega)) kn_info (by simp [Value.oneCell']) (hK _ _ ?_)
      have BW2 : Below w.heap.size w (w'.setCells g 0 [.int .i64 nx, .slice sa n c]) := below_setCells (Nat.le_trans hb0 hg) _ _ _ BW
      have C2 : Cel (w'.setCells g 0 [.int .i64 nx, .slice sa n c]) g 2 (knC nx (.slice sa n c)) := (Cg.setMany 0 [.int .i64 nx, .slice sa n c] (by simp) undef).congr (fun j hj => by match j, hj with | 0, _ => rfl | 1, _ => rfl)
      rw [e2]
      exact ⟨S.off.put_none _, BW2, fun g => S.t0 (by simpa using g), fun g => S.t1 (by simpa using g), fun g => S.t2 (by simpa using g), fun g => S.t3 (by simpa using g), fun g => S.t4 (by simpa using g), fun g => S.t5 (by simpa using g), fun g => S.t6 (by simpa using g), fun g => S.t7 (by simpa using g), fun g => S.t8 (by simpa using g), fun g => S.t9 (by simpa using g), fun _ => ⟨_, M10, g, rfl, hg, C2⟩⟩
    | _ + 12, il, _, _, _ => exact absurd il (by omega)
  · intro s a w' S hall
    have a0 := hall 0 (by omega)
    have a1 := hall 1 (by omega)
    have a2 := hall 2 (by omega)
    have a3 := hall 3 (by omega)
    have a4 := hall 4 (by omega)
    have a5 := hall 5 (by omega)
    have a6 := hall 6 (by omega)
    have a7 := hall 7 (by omega)
    have a8 := hall 8 (by omega)
    have a9 := hall 9 (by omega)
    have a10 := hall 10 (by omega)
    have a11 := hall 11 (by omega)
    have e := off_norm _ (by intro d hd; simp at hd; omega) S.off
    obtain ⟨v10, M10, F10⟩ := S.t10 a10
    rw [a11] at F10
    simp only [List.foldl, S.t0 a0, S.t1 a1, S.t2 a2, S.t3 a3, S.t4 a4, S.t5 a5, S.t6 a6, S.t7 a7, S.t8 a8, S.t9 a9, M10] at e
    rw [e]
    exact h _ _ S.before F10
structure MuRegion (j X m G n c : Nat) (sa : Option Addr) (ap nx : Int) (A : Act) (w0 : World) (s : Nat → Bool) (a : Act) (w : World) : Prop where
  off : Off [46, 47, 48, 49, 50, 51, 52] a A
  before : Below w0.heap.size w0 w
  t0 : s 0 = true → a.eval (.tmp 46) = .pointer (some ⟨j, 0, none⟩)
  t1 : s 1 = true → a.eval (.tmp 47) = .pointer (some ⟨j, 0, none⟩)
  t2 : s 2 = true → a.eval (.tmp 48) = .pointer (some ⟨j, 1, none⟩)
  t3 : s 3 = true → a.eval (.tmp 49) = .map (some m)
  t4 : s 4 = true → a.eval (.tmp 50) = .pointer (some ⟨X, 1, none⟩)
  t5 : s 5 = true → a.eval (.tmp 51) = .int .i64 ap
  t6 : s 6 = true → a.eval (.tmp 52) = .agg #[.int .i64 nx, .slice sa n c]
set_option maxHeartbeats 2000000 in
set_option maxRecDepth 100000 in
theorem muRegion {id : Nat} {l : List Oper} {A : Act} {w : World} {Q : Exit → Act → World → Prop} (j X m G n c : Nat) (sa : Option Addr) (ap nx : Int)
    (lj : j < w.heap.size) (lX : X < w.heap.size) (lG : G < w.heap.size) (cj : w.cell? ⟨j, 1, none⟩ = some (.map (some m))) (cX : w.cell? ⟨X, 1, none⟩ = some (.int .i64 ap)) (cG0 : w.cell? ⟨G, 0, none⟩ = some (.int .i64 nx)) (cG1 : w.cell? ⟨G, 1, none⟩ = some (.slice sa n c))
    (hB : tableH l.toArray 7 (fun i => match i with | 0 => [] | 1 => [0] | 2 => [1] | 3 => [2] | 4 => [] | 5 => [4] | 6 => [] | _ => []) (fun _ => []) = true)
    (h0 : pick l 0 = some (.move (.tmp 0), some 46))
    (h1 : pick l 1 = some (.nilCheck (.tmp 46), some 47))
    (h2 : pick l 2 = some (.fieldAddr 50 (.tmp 47) 1, some 48))
    (h3 : pick l 3 = some (.load 48 (.tmp 48), some 49))
    (h4 : pick l 4 = some (.fieldAddr 23 (.tmp 3) 1, some 50))
    (h5 : pick l 5 = some (.load 3 (.tmp 50), some 51))
    (h6 : pick l 6 = some (.load 75 (.tmp 7), some 52))
    (hs : A.tmps.size = 54)
    (x0 : A.eval (.tmp 0) = .pointer (some ⟨j, 0, none⟩))
    (x3 : A.eval (.tmp 3) = .pointer (some ⟨X, 0, none⟩))
    (x7 : A.eval (.tmp 7) = .pointer (some ⟨G, 0, none⟩))
    (h : ∀ w1, Below w.heap.size w w1 → wpList Try.prog l.toArray Q (l.drop 7) (((((((A.put (some 46) (.pointer (some ⟨j, 0, none⟩))).put (some 47) (.pointer (some ⟨j, 0, none⟩))).put (some 48) (.pointer (some ⟨j, 1, none⟩))).put (some 49) (.map (some m))).put (some 50) (.pointer (some ⟨X, 1, none⟩))).put (some 51) (.int .i64 ap)).put (some 52) (.agg #[.int .i64 nx, .slice sa n c])) w1) :
    (Code.region id l.toArray true).wp Try.prog Q A w := by
  refine wp_region_head (by kernel_rfl) _ _ _ hB (MuRegion j X m G n c sa ap nx A w) ⟨Off.refl _ _, (Below.refl _ _).drew, by simp, by simp, by simp, by simp, by simp, by simp, by simp⟩ ?_ ?_
  · intro s a w' S i' o il ho hsi hT K hK
    have sz : a.tmps.size = 54 := by rw [S.off.2.1]; exact hs
    have y0 : a.eval (.tmp 0) = .pointer (some ⟨j, 0, none⟩) := by rw [S.off.eval (by decide)]; exact x0
    have y3 : a.eval (.tmp 3) = .pointer (some ⟨X, 0, none⟩) := by rw [S.off.eval (by decide)]; exact x3
    have y7 : a.eval (.tmp 7) = .pointer (some ⟨G, 0, none⟩) := by rw [S.off.eval (by decide)]; exact x7
    match i', il, ho, hsi, hT with
    | 0, _, ho, hsi, hT =>
      obtain ⟨e1, e2⟩ := pick_of h0 ho
      have BW := S.before
      refine step_val (v := .pointer (some ⟨j, 0, none⟩)) (by simp only [execOp, e1, y0]; go_simp) (hK _ _ ?_)
      rw [e2]
      exact ⟨S.off.put (by decide) _, S.before, fun _ => (eval_put _ _ _ (by omega)).trans rfl, fun g => by rw [eval_put_ne _ _ _ _ (by decide)]; exact S.t1 (by simpa using g), fun g => by rw [eval_put_ne _ _ _ _ (by decide)]; exact S.t2 (by simpa using g), fun g => by rw [eval_put_ne _ _ _ _ (by decide)]; exact S.t3 (by simpa using g), fun g => by rw [eval_put_ne _ _ _ _ (by decide)]; exact S.t4 (by simpa using g), fun g => by rw [eval_put_ne _ _ _ _ (by decide)]; exact S.t5 (by simpa using g), fun g => by rw [eval_put_ne _ _ _ _ (by decide)]; exact S.t6 (by simpa using g)⟩
    | 1, _, ho, hsi, hT =>
      obtain ⟨e1, e2⟩ := pick_of h1 ho
      have D0 : s 0 = true := list_pos hT (d := 0) (by decide)
      have BW := S.before
      refine step_val (v := .pointer (some ⟨j, 0, none⟩)) (by simp only [execOp, e1, S.t0 D0]; go_simp) (hK _ _ ?_)
      rw [e2]
      exact ⟨S.off.put (by decide) _, S.before, fun g => by rw [eval_put_ne _ _ _ _ (by decide)]; exact S.t0 (by simpa using g), fun _ => (eval_put _ _ _ (by omega)).trans rfl, fun g => by rw [eval_put_ne _ _ _ _ (by decide)]; exact S.t2 (by simpa using g), fun g => by rw [eval_put_ne _ _ _ _ (by decide)]; exact S.t3 (by simpa using g), fun g => by rw [eval_put_ne _ _ _ _ (by decide)]; exact S.t4 (by simpa using g), fun g => by rw [eval_put_ne _ _ _ _ (by decide)]; exact S.t5 (by simpa using g), fun g => by rw [eval_put_ne _ _ _ _ (by decide)]; exact S.t6 (by simpa using g)⟩
    | 2, _, ho, hsi, hT =>
      obtain ⟨e1, e2⟩ := pick_of h2 ho
      have D1 : s 1 = true := list_pos hT (d := 1) (by decide)
      have BW := S.before
      refine step_val (v := .pointer (some ⟨j, 1, none⟩)) (by simp only [execOp, e1, S.t1 D1]; go_simp) (hK _ _ ?_)
      rw [e2]
      exact ⟨S.off.put (by decide) _, S.before, fun g => by rw [eval_put_ne _ _ _ _ (by decide)]; exact S.t0 (by simpa using g), fun g => by rw [eval_put_ne _ _ _ _ (by decide)]; exact S.t1 (by simpa using g), fun _ => (eval_put _ _ _ (by omega)).trans rfl, fun g => by rw [eval_put_ne _ _ _ _ (by decide)]; exact S.t3 (by simpa using g), fun g => by rw [eval_put_ne _ _ _ _ (by decide)]; exact S.t4 (by simpa using g), fun g => by rw [eval_put_ne _ _ _ _ (by decide)]; exact S.t5 (by simpa using g), fun g => by rw [eval_put_ne _ _ _ _ (by decide)]; exact S.t6 (by simpa using g)⟩
    | 3, _, ho, hsi, hT =>
      obtain ⟨e1, e2⟩ := pick_of h3 ho
      have D2 : s 2 = true := list_pos hT (d := 2) (by decide)
      have BW := S.before
      have cl := (BW.cell (p := ⟨j, 1, none⟩) lj).trans cj
      refine step_val (v := .map (some m)) (by simp only [execOp, e1, S.t2 D2]; go_simp) (hK _ _ ?_)
      rw [e2]
      exact ⟨S.off.put (by decide) _, S.before, fun g => by rw [eval_put_ne _ _ _ _ (by decide)]; exact S.t0 (by simpa using g), fun g => by rw [eval_put_ne _ _ _ _ (by decide)]; exact S.t1 (by simpa using g), fun g => by rw [eval_put_ne _ _ _ _ (by decide)]; exact S.t2 (by simpa using g), fun _ => (eval_put _ _ _ (by omega)).trans rfl, fun g => by rw [eval_put_ne _ _ _ _ (by decide)]; exact S.t4 (by simpa using g), fun g => by rw [eval_put_ne _ _ _ _ (by decide)]; exact S.t5 (by simpa using g), fun g => by rw [eval_put_ne _ _ _ _ (by decide)]; exact S.t6 (by simpa using g)⟩
    | 4, _, ho, hsi, hT =>
      obtain ⟨e1, e2⟩ := pick_of h4 ho
      have BW := S.before
      refine step_val (v := .pointer (some ⟨X, 1, none⟩)) (by simp only [execOp, e1, y3]; go_simp) (hK _ _ ?_)
      rw [e2]
      exact ⟨S.off.put (by decide) _, S.before, fun g => by rw [eval_put_ne _ _ _ _ (by decide)]; exact S.t0 (by simpa using g), fun g => by rw [eval_put_ne _ _ _ _ (by decide)]; exact S.t1 (by simpa using g), fun g => by rw [eval_put_ne _ _ _ _ (by decide)]; exact S.t2 (by simpa using g), fun g => by rw [eval_put_ne _ _ _ _ (by decide)]; exact S.t3 (by simpa using g), fun _ => (eval_put _ _ _ (by omega)).trans rfl, fun g => by rw [eval_put_ne _ _ _ _ (by decide)]; exact S.t5 (by simpa using g), fun g => by rw [eval_put_ne _ _ _ _ (by decide)]; exact S.t6 (by simpa using g)⟩
    | 5, _, ho, hsi, hT =>
      obtain ⟨e1, e2⟩ := pick_of h5 ho
      have D4 : s 4 = true := list_pos hT (d := 4) (by decide)
      have BW := S.before
      have cl := (BW.cell (p := ⟨X, 1, none⟩) lX).trans cX
      refine step_val (v := .int .i64 ap) (by simp only [execOp, e1, S.t4 D4]; go_simp) (hK _ _ ?_)
      rw [e2]
      exact ⟨S.off.put (by decide) _, S.before, fun g => by rw [eval_put_ne _ _ _ _ (by decide)]; exact S.t0 (by simpa using g), fun g => by rw [eval_put_ne _ _ _ _ (by decide)]; exact S.t1 (by simpa using g), fun g => by rw [eval_put_ne _ _ _ _ (by decide)]; exact S.t2 (by simpa using g), fun g => by rw [eval_put_ne _ _ _ _ (by decide)]; exact S.t3 (by simpa using g), fun g => by rw [eval_put_ne _ _ _ _ (by decide)]; exact S.t4 (by simpa using g), fun _ => (eval_put _ _ _ (by omega)).trans rfl, fun g => by rw [eval_put_ne _ _ _ _ (by decide)]; exact S.t6 (by simpa using g)⟩
    | 6, _, ho, hsi, hT =>
      obtain ⟨e1, e2⟩ := pick_of h6 ho
      have BW := S.before
      have cl0 := (BW.cell (p := ⟨G, 0, none⟩) lG).trans cG0
      have cl1 := (BW.cell (p := ⟨G, 1, none⟩) lG).trans cG1
      refine step_val (v := .agg #[.int .i64 nx, .slice sa n c]) (by simp only [execOp, e1, y7]; go_simp) (hK _ _ ?_)
      rw [e2]
      exact ⟨S.off.put (by decide) _, S.before, fun g => by rw [eval_put_ne _ _ _ _ (by decide)]; exact S.t0 (by simpa using g), fun g => by rw [eval_put_ne _ _ _ _ (by decide)]; exact S.t1 (by simpa using g), fun g => by rw [eval_put_ne _ _ _ _ (by decide)]; exact S.t2 (by simpa using g), fun g => by rw [eval_put_ne _ _ _ _ (by decide)]; exact S.t3 (by simpa using g), fun g => by rw [eval_put_ne _ _ _ _ (by decide)]; exact S.t4 (by simpa using g), fun g => by rw [eval_put_ne _ _ _ _ (by decide)]; exact S.t5 (by simpa using g), fun _ => (eval_put _ _ _ (by omega)).trans rfl⟩
    | _ + 7, il, _, _, _ => exact absurd il (by omega)
  · intro s a w' S hall
    have a0 := hall 0 (by omega)
    have a1 := hall 1 (by omega)
    have a2 := hall 2 (by omega)
    have a3 := hall 3 (by omega)
    have a4 := hall 4 (by omega)
    have a5 := hall 5 (by omega)
    have a6 := hall 6 (by omega)
    have e := off_norm _ (by intro d hd; simp at hd; omega) S.off
    simp only [List.foldl, S.t0 a0, S.t1 a1, S.t2 a2, S.t3 a3, S.t4 a4, S.t5 a5, S.t6 a6] at e
    rw [e]
    exact h _ S.before
theorem nextCount_int (x : Int) (h : 0 ≤ x ∧ x ≤ 16383) (w : World) : Calls Try.prog 42 #[.int .i64 x] w fun e w' => e = .returned (.int .i64 ((x + 1) % 16384)) ∧ w = w' := by
  obtain ⟨n, rfl⟩ := Int.eq_ofNat_of_zero_le h.1
  have h2 := nextCount_any n (by omega) w
  rw [show ((n : Int) + 1) % 16384 = (((n + 1) % 16384 : Nat) : Int) by omega]
  exact h2
/-- What changes in the map and in one row of bytes alone. -/
theorem Kp.of_buts {n0 m : Nat} {w w' : World} {sv : Value} {tx : List UInt8} (U : Buts (fun b => b = m ∨ sv.ownBlock = some b) w w') (hm : ∃ es c, w.heap[m]? = some (.map es c)) (R : Txt w n0 sv tx) (h0 : n0 ≤ m) (hn : n0 ≤ w.heap.size) : Kp n0 [5] true w w' := by
  have row : ∀ k, sv.ownBlock = some k → n0 ≤ k ∧ ∃ cur fr, w.heap[k]? = some (Obj.cells cur 5 fr) := fun k hk => by
    obtain ⟨_, R⟩ := R
    rcases R with ⟨q, _⟩ | ⟨g, c, cur, q1, q2, q3, _⟩
    · rw [q] at hk; cases hk
    · rw [q1] at hk
      cases hk
      exact ⟨q2, cur, _, q3⟩
  refine ⟨Buts.below (Below.refl n0 w) U (fun c hc => ?_) hn, fun b cur t fr e ht => ?_, fun h => by cases h⟩
  · rcases hc with rfl | hc
    · exact h0
    · exact (row c hc).1
  · refine U.block b (Array.getElem?_eq_some_iff.1 e).1 (fun hb => ?_)
    rcases hb with rfl | hb
    · obtain ⟨es, c, e2⟩ := hm
      rw [e2] at e
      cases e
    · obtain ⟨_, cur2, fr2, e2⟩ := row b hb
      rw [e2] at e
      cases e
      exact ht (by simp)
set_option maxHeartbeats 16000000 in
theorem pfeed_seen {w : World} {n0 j m cnt : Nat} {F : Int → Option Pk.St} {D : DataW Value} {S : Int → Value} (h : PJ w n0 j m cnt F D S) (hn0 : n0 ≤ w.heap.size) (hcnt : cnt < 1000000) (p : Pkt) (ho : Pk.Ok p) (hi : p.ap ≠ 2047)
    (nx : Int) (sa : Option Addr) (n c : Nat) (tx : List UInt8) (mi : Int) (hL : ∀ w', w'.heap[m]? = w.heap[m]? → (Instr.lookup 48 (.map (some m)) (.int .i64 p.ap) true).run Try.prog w' = .ok (.tuple #[knV nx (.slice sa n c), .bool true]) w')
    (hT : Txt w n0 (.slice sa n c) tx) (hn : tx.length = n) (hl : n ≤ 16384) (hap : ∀ b, (F b).isSome = true → b ≠ p.ap → ∀ k, (Value.slice sa n c).ownBlock = some k → (S b).ownBlock ≠ some k)
    (hx : 0 ≤ nx ∧ nx ≤ 16383) (hmi : (p.ct - nx + 16384) % 16384 = mi) : Calls Try.prog 25 #[.pointer (some ⟨j, 0, none⟩), pkVal p] w fun e w' => ∃ D' S', e = .returned (.tuple #[pcV (Pk.addP tx mi p), .int .i64 0]) ∧ PJ w' n0 j m (cnt + 1) (upd F p.ap (some ⟨(p.ct + 1) % 16384, Pk.toOp (Pk.addT tx mi p)⟩)) D' S' ∧ Kp n0 [5] true w w' := by
  have HJ := Lib.hid h
  have HL := Lib.hid hL
  have HT := Lib.hid hT
  have HN := Lib.hid hn
  have HAP := Lib.hid hap
  have HO := Lib.hid ho
  have HN0 := Lib.hid hn0
  have VAL := Lib.hid (fun w => pvalid_any p (by have := ho.2.2.2.2; unfold maxLen; omega) w)
  rw [decide_eq_true ho] at VAL
  have NC := Lib.hid (fun w => nextCount_int p.ct ho.2.2.1 w)
  obtain ⟨nx2, hnx2⟩ : ∃ x, (p.ct + 1) % 16384 = x := ⟨_, rfl⟩
  rw [hnx2] at NC
  have N2 := Lib.hid hnx2
  have N2b := Lib.hid (show 0 ≤ nx2 ∧ nx2 ≤ 16383 by omega)
  have t1 : (p.ap == 2047) = false := by simp; exact hi
  have AP := Lib.hid (show 0 ≤ p.ap ∧ p.ap ≤ 2046 by have := ho.1; omega)
  have WF := Lib.hid (wf_ap (show 0 ≤ p.ap ∧ p.ap ≤ 2047 from ho.1))
  have pc := ho.2.2.1
  obtain ⟨d1, hd1⟩ : ∃ d, p.ct - nx = d := ⟨_, rfl⟩
  obtain ⟨d2, hd2⟩ : ∃ d, d1 + 16384 = d := ⟨_, rfl⟩
  have e1 : IntKind.i64.wrap (p.ct - nx) = d1 := by rw [IntKind.wrap_i64]; omega
  have e2 : IntKind.i64.wrap (d1 + 16384) = d2 := by rw [IntKind.wrap_i64]; omega
  have e3 : d2.tmod 16384 = mi := by rw [Int.tmod_eq_emod_of_nonneg (by omega), ← hd2, ← hd1]; exact hmi
  have e4 : d2 % 16384 = mi := by rw [← hd2, ← hd1]; exact hmi
  have e5 : wrap64 d1 = d1 := by unfold wrap64; omega
  have e6 : wrap64 d2 = d2 := by unfold wrap64; omega
  have e7 : wrap64 (d1 + 16384) = d2 := by unfold wrap64; omega
  clear hmi
  have lj := HJ.out.jlt
  have lm := HJ.out.own.lt
  clear h hL hT hn hap ho hn0 hnx2 pc hx
  go_enter Try.func25, Try.ntmps25
  go_wp2_with (first
    | (refine wpList_new rfl (.box 23 (.tmp 1)) rfl (some 3) rfl #[.bool p.cmd, .int .i64 p.ap, .int .i64 p.fl, .int .i64 p.ct, .string p.da] 23 (fun X => .pointer (some ⟨X, 0, none⟩)) 5 (pkCel p) (pk_cells p) (box_pk rfl rfl) ?_; intro X w1 HX Sw1 CX1 Bw1; have B1 := Bw1)
    | (refine wpList_new rfl (.alloc 52) rfl (some 4) rfl #[.bool false, .string ⟨#[]⟩, .int .i64 0, .bool false] 52 (fun X => .pointer (some ⟨X, 0, none⟩)) 4 (pcC false ⟨#[]⟩ 0 false) (pc_cells false ⟨#[]⟩ 0 false) (alloc_piece rfl) ?_; intro R w2 HR Sw2 CR2 Bw2; have CX2 := Lib.hid (CX1.out.below Bw2.out); have J2 := Lib.hid ((HJ.out.below Bw1.out).below Bw2.out); have c02 := J2.out.c0; have c12 := J2.out.c1; have B2 := Lib.hid (bt Bw1.out Bw2.out)))
  (with_reducible refine (made_yes j _ c02).mono ?_)
  rintro e w' ⟨rfl, rfl⟩
  go_wp2_with (refine wpList_getAll rfl 23 (.tmp 3) rfl X 5 [.bool p.cmd, .int .i64 p.ap, .int .i64 p.fl, .int .i64 p.ct, .string p.da] _ _ CX2.out rfl (pk_list p) rfl Try.underlying23 rfl pk_info ?_)
  (refine (VAL.out _).mono ?_)
  rintro e w3 ⟨rfl, h3⟩
  have CX3 := Lib.hid (CX2.out.below h3)
  have CR3 := Lib.hid (CR2.out.below h3)
  have B3 := Lib.hid (bt B2.out h3)
  have x31 : w3.cell? ⟨X, 1, none⟩ = some (.int .i64 p.ap) := CX3.out.cell (j := 1) (by omega)
  clear h3 c02 c12
  go_upto_region 8 with (refine wpList_new rfl (.alloc 52) rfl (some 6) rfl #[.bool false, .string ⟨#[]⟩, .int .i64 0, .bool false] 52 (fun X => .pointer (some ⟨X, 0, none⟩)) 4 (pcC false ⟨#[]⟩ 0 false) (pc_cells false ⟨#[]⟩ 0 false) (alloc_piece rfl) ?_; intro Q w4 HQ Sw4 CQ4 Bw4)
  have B4 := Lib.hid (bt B3.out Bw4.out)
  have CX4 := Lib.hid (CX3.out.below Bw4.out)
  have CR4 := Lib.hid (CR3.out.below Bw4.out)
  have ZZ := Lib.hid (show X = w.heap.size ∧ R = w.heap.size + 1 ∧ R < Q ∧ Q < w4.heap.size from by
    have := HX.out
    have := Sw1.out
    have := HR.out
    have := HQ.out
    have := Sw4.out
    have := CR3.out.1
    omega)
  refine fdRegion j X m n c w4.heap.size sa true p.ap nx (Nat.lt_of_lt_of_le lj B4.out.size) CX4.out.1 (Nat.lt_of_lt_of_le lm B4.out.size) (Nat.le_refl _) (Nat.le_refl _) ((B4.out.cell (p := ⟨j, 1, none⟩) lj).trans HJ.out.c1) (CX4.out.cell (j := 1) (by omega)) (fun w' hw => HL.out w' (hw.trans (B4.out.block m lm))) (by kernel_rfl) rfl rfl rfl rfl rfl rfl rfl rfl rfl rfl rfl rfl rfl rfl rfl ?_
  rintro v10 w5 h5 ⟨G, rfl, hG, CG⟩
  simp only [Act.put, List.setIfInBounds_toArray, List.set_cons_succ, List.set_cons_zero, List.drop_succ_cons, List.drop_zero]
  have C5 := Lib.hid (show Cel w5 G 2 (knC nx (.slice sa n c)) from CG)
  have B5 := Lib.hid (bt B4.out h5)
  have CX5 := Lib.hid (CX4.out.below h5)
  have CR5 := Lib.hid (CR4.out.below h5)
  have CQ5 := Lib.hid (show Cel w5 Q 4 (pcC false ⟨#[]⟩ 0 false) from CQ4.out.below h5)
  have GQ := Lib.hid (show G ≠ Q ∧ G ≠ X ∧ G ≠ R ∧ w.heap.size ≤ G from by have := ZZ.out; omega)
  have T5 := Lib.hid (show Txt w5 n0 (.slice sa n c) tx from own_below HT.out B5.out)
  have U5 := Lib.hid (Buts.of_below (S := fun b => (Value.slice sa n c).ownBlock = some b) B5.out)
  have x53 : w5.cell? ⟨X, 3, none⟩ = some (.int .i64 p.ct) := CX5.out.cell (j := 3) (by omega)
  have g50 : w5.cell? ⟨G, 0, none⟩ = some (.int .i64 nx) := C5.out.cell (j := 0) (by omega)
  have NG := Lib.hid (show (Value.slice sa n c).ownBlock ≠ some G ∧ (Value.slice sa n c).ownBlock ≠ some Q ∧ (Value.slice sa n c).ownBlock ≠ some R ∧ (Value.slice sa n c).ownBlock ≠ some X from ⟨fun e => by have := own_block_lt HT.out e; have := GQ.out; omega, fun e => by have := own_block_lt HT.out e; have := ZZ.out; omega, fun e => by have := own_block_lt HT.out e; have := ZZ.out; omega, fun e => by have := own_block_lt HT.out e; have := ZZ.out; omega⟩)
  clear h5 hG CG x31
  go_wp2_with (refine wpList_set rfl (.store 3 (.tmp 39) (.tmp 38)) rfl Q 2 4 (.int .i64 mi) _ (pcC false ⟨#[]⟩ mi false) CQ5.out (by omega) (fun j hj => by match j, hj with | 0, _ => rfl | 1, _ => rfl | 2, _ => rfl | 3, _ => rfl) (store_int rfl rfl rfl (CQ5.out.cell (j := 2) (by omega)) (CQ5.out.frozen (j := 2) (by omega))) ?_; intro w6 CQ6 V6 S6; have C6 := Lib.hid (C5.out.but V6.out GQ.out.1); have CX6 := Lib.hid (CX5.out.but V6.out (by have := ZZ.out; omega)); have CR6 := Lib.hid (CR5.out.but V6.out (by have := ZZ.out; omega)); have T6 := Lib.hid (own_but T5.out V6.out NG.out.2.1); have U6 := Lib.hid (U5.out.then_new (Buts.of_but (S := fun b => b = Q) V6.out rfl) (fun c hc e => by have := ZZ.out; omega)); have x63 : w6.cell? ⟨X, 3, none⟩ = some (.int .i64 p.ct) := CX6.out.cell (j := 3) (by omega))
  (with_reducible refine (NC.out _).mono ?_)
  rintro e w' ⟨rfl, rfl⟩
  go_wp2_with (first
    | (refine wpList_set rfl (.store 3 (.tmp 43) (.tmp 42)) rfl G 0 2 (.int .i64 nx2) _ (knC nx2 (.slice sa n c)) C6.out (by omega) (fun j hj => by match j, hj with | 0, _ => rfl | 1, _ => rfl) (store_int rfl rfl rfl (C6.out.cell (j := 0) (by omega)) (C6.out.frozen (j := 0) (by omega))) ?_; intro w7 C7 V7 S7; have CQ7 := Lib.hid (CQ6.out.but V7.out (fun e => GQ.out.1 e.symm)); have CX7 := Lib.hid (CX6.out.but V7.out (fun e => GQ.out.2.1 e.symm)); have CR7 := Lib.hid (CR6.out.but V7.out (fun e => GQ.out.2.2.1 e.symm)); have T7 := Lib.hid (own_but T6.out V7.out NG.out.1); have U7 := Lib.hid (U6.out.then_new (Buts.of_but (S := fun b => b = G) V7.out rfl) (fun c hc e => by have := GQ.out; omega)))
    | (refine wpList_getAll rfl 23 (.tmp 3) rfl X 5 [.bool p.cmd, .int .i64 p.ap, .int .i64 p.fl, .int .i64 p.ct, .string p.da] _ _ CX7.out rfl (pk_list p) rfl Try.underlying23 rfl pk_info ?_))
  (refine (padd_any n0 G Q nx2 sa n c tx mi p HO.out HN.out hl GQ.out.1 _ (Nat.le_trans HN0.out U7.out.size) NG.out.1 NG.out.2.1 C7.out CQ7.out T7.out).mono ?_)
  rintro e w8 ⟨rfl, ⟨a8, n8, c8, c8G, t8, l8, k8⟩, c8Q, u8⟩
  have C8 := Lib.hid c8G
  have CQ8 := Lib.hid c8Q
  have T8 := Lib.hid t8
  have L8 := Lib.hid l8
  have U8 := Lib.hid (U7.out.then_new u8 (fun c hc e => by
    rcases e with e | e | e
    · have := GQ.out; omega
    · have := ZZ.out; omega
    · exact e))
  have CX8 := Lib.hid (CX7.out.of_block (u8.block X CX7.out.1 (fun e => by
    rcases e with e | e | e
    · exact GQ.out.2.1 e.symm
    · have := ZZ.out; omega
    · exact NG.out.2.2.2 e)))
  have CR8 := Lib.hid (CR7.out.of_block (u8.block R CR7.out.1 (fun e => by
    rcases e with e | e | e
    · exact GQ.out.2.2.1 e.symm
    · have := ZZ.out; omega
    · exact NG.out.2.2.1 e)))
  have K8 := Lib.hid (show ∀ k, (Value.slice a8 n8 c8).ownBlock = some k → ((Value.slice sa n c).ownBlock = some k ∨ (w.heap.size ≤ k ∧ k ≠ R)) from fun k hk => by
    rcases k8 k hk with e | e
    · exact .inl e
    · have := CR7.out.1
      have := U7.out.size
      exact .inr ⟨by omega, by omega⟩)
  have JB := Lib.hid (show w8.heap[j]? = w.heap[j]? from U8.out.block j lj (fun e => by
    obtain ⟨cur, fr, e1⟩ := HJ.out.jt
    obtain ⟨_, R⟩ := HT.out
    rcases R with ⟨q, _⟩ | ⟨g, c, cur, q1, q2, q3, _⟩
    · rw [q] at e; cases e
    · rw [q1] at e
      cases e
      rw [e1] at q3
      cases q3))
  have MB := Lib.hid (show w8.heap[m]? = w.heap[m]? from U8.out.block m lm (fun e => by
    obtain ⟨es, cl, e1, _⟩ := HJ.out.own
    obtain ⟨_, R⟩ := HT.out
    rcases R with ⟨q, _⟩ | ⟨g, c, cur, q1, q2, q3, _⟩
    · rw [q] at e; cases e
    · rw [q1] at e
      cases e
      rw [e1] at q3
      cases q3))
  have g80 : w8.cell? ⟨G, 0, none⟩ = some (.int .i64 nx2) := C8.out.cell (j := 0) (by omega)
  have g81 : w8.cell? ⟨G, 1, none⟩ = some (.slice a8 n8 c8) := C8.out.cell (j := 1) (by omega)
  clear c8G c8Q t8 l8 u8 k8 x53 g50 x63
  go_upto_region 13 with fail
  refine muRegion j X m G n8 c8 a8 p.ap nx2 (Nat.lt_of_lt_of_le lj U8.out.size) CX8.out.1 C8.out.1 ((World.cell?_of_block (a := ⟨j, 1, none⟩) JB.out).trans HJ.out.c1) (CX8.out.cell (j := 1) (by omega)) g80 g81 (by kernel_rfl) rfl rfl rfl rfl rfl rfl rfl rfl rfl rfl rfl ?_
  rintro w9 h9
  simp only [Act.put, List.setIfInBounds_toArray, List.set_cons_succ, List.set_cons_zero, List.drop_succ_cons, List.drop_zero]
  have OW := Lib.hid (show w9.ownsMap Try.prog 3 knR m cnt D from by
    obtain ⟨es, cl, e1, r⟩ := HJ.out.own
    exact ⟨es, cl, (h9.block m (Nat.lt_of_lt_of_le lm U8.out.size)).trans (MB.out.trans e1), r⟩)
  have CQ9 := Lib.hid (CQ8.out.below h9)
  have CR9 := Lib.hid (CR8.out.below h9)
  have T9 := Lib.hid (show Txt w9 n0 (.slice a8 n8 c8) _ from own_below T8.out h9)
  have JB9 := Lib.hid ((h9.block j (Nat.lt_of_lt_of_le lj U8.out.size)).trans JB.out)
  have MB9 := Lib.hid ((h9.block m (Nat.lt_of_lt_of_le lm U8.out.size)).trans MB.out)
  have U9 := Lib.hid (U8.out.trans (Buts.of_below (S := fun b => (Value.slice sa n c).ownBlock = some b) h9))
  have NN8 := Lib.hid (show n8 ≤ 16384 from by
    rw [L8.out]
    unfold Pk.addT
    split
    · exact Nat.zero_le _
    · split
      · exact Nat.zero_le _
      · split
        · exact Nat.zero_le _
        · omega)
  have FIN := Lib.hid (show ∀ w10, w10.ownsMap Try.prog 3 knR m (cnt + 1) (D.put (.int .i64 p.ap) (.held (knV nx2 (.slice a8 n8 c8)))) → w9.grownBy w10 (some m) → PJ w10 n0 j m (cnt + 1) (upd F p.ap (some ⟨(p.ct + 1) % 16384, Pk.toOp (Pk.addT tx mi p)⟩)) (D.put (.int .i64 p.ap) (.held (knV nx2 (.slice a8 n8 c8)))) (upd S p.ap (.slice a8 n8 c8)) from fun w10 ow g => by
    rw [N2.out]
    exact HJ.out.put JB9.out MB9.out (fun b k hs hb hk => U9.out.block k (by
      obtain ⟨st, e⟩ := Option.isSome_iff_exists.1 hs
      exact own_block_lt (HJ.out.elt b st e).2.2.2.2.2.2 hk) (fun e => HAP.out b hs hb k e hk)) AP.out N2b.out L8.out NN8.out T9.out (fun b hs hb k hk e => by
        rcases K8.out k hk with q | ⟨q, _⟩
        · exact HAP.out b hs hb k q e
        · obtain ⟨st, e2⟩ := Option.isSome_iff_exists.1 hs
          have := own_block_lt (HJ.out.elt b st e2).2.2.2.2.2.2 e
          omega) ow g)
  clear h9
  go_wp2_with (first
    | (at_mapUpdate; refine wpList_mapUpdate_own _ rfl _ _ _ 48 rfl 3 75 keyLaw Try.underlying48 knR m cnt D rfl OW.out (by unfold maxLen; omega) _ _ (.int .i64 p.ap) rfl rfl (keyOf_i p.ap WF.out) (.held (knV nx2 (.slice a8 n8 c8))) [] (knR_mk nx2 a8 n8 c8) ?_; intro w10 ow10 g10; have J10 := Lib.hid (FIN.out w10 ow10 g10); have lQ9 := CQ9.out.1; have lR9 := CR9.out.1; have CQ10 := Lib.hid (CQ9.out.of_block (g10.block Q lQ9 (fun e => by have := Option.some.inj e; have := ZZ.out; omega))); have CR10 := Lib.hid (CR9.out.of_block (g10.block R lR9 (fun e => by have := Option.some.inj e; have := ZZ.out; omega))); have G10 := Lib.hid g10; clear ow10 g10 lQ9 lR9)
    | (refine wpList_getAll rfl 52 (.tmp 6) rfl Q 4 [.bool (Pk.addP tx mi p).whole, .string (bs (Pk.addP tx mi p).msg), .int .i64 mi, .bool (Pk.addP tx mi p).broken] _ _ CQ10.out rfl (pc_list _ _ _ _) rfl Try.underlying52 rfl pc_info ?_)
    | (refine wpList_setAll rfl 52 (.tmp 4) (.tmp 53) rfl R 4 [.bool (Pk.addP tx mi p).whole, .string (bs (Pk.addP tx mi p).msg), .int .i64 mi, .bool (Pk.addP tx mi p).broken] _ (pcC (Pk.addP tx mi p).whole (bs (Pk.addP tx mi p).msg) mi (Pk.addP tx mi p).broken) CR10.out rfl (pc_list _ _ _ _) rfl rfl pc_info (by simp [Value.oneCell']) ?_; intro w11 C11 V11 S11))
  have J11 := Lib.hid (show PJ w11 n0 j m (cnt + 1) _ _ _ from J10.out.stay (V11.out.rest j J10.out.jlt (by have := ZZ.out; omega)) (V11.out.rest m J10.out.own.lt (by have := ZZ.out; omega)) (fun a k hs hk => by
    obtain ⟨st, e⟩ := Option.isSome_iff_exists.1 hs
    refine V11.out.rest k (own_block_lt (J10.out.elt a st e).2.2.2.2.2.2 hk) (fun q => ?_)
    subst q
    by_cases ea : a = p.ap
    · subst ea
      rw [upd_same] at hk
      rcases K8.out _ hk with q | ⟨_, q⟩
      · exact NG.out.2.2.1 q
      · exact q rfl
    · rw [upd_ne _ _ ea] at hk
      rw [upd_ne _ _ ea] at e
      have := own_block_lt (HJ.out.elt a st e).2.2.2.2.2.2 hk
      have := ZZ.out
      omega))
  have KK := Lib.hid (show Kp n0 [5] true w w11 from Kp.of_buts (m := m) (sv := .slice sa n c) (((U9.out.mono (fun b hb => .inr hb)).trans (Buts.of_grown (S := fun b => b = m ∨ (Value.slice sa n c).ownBlock = some b) G10.out (fun k hk => .inl (Option.some.inj hk).symm))).then_new (Buts.of_but (S := fun b => b = R) V11.out rfl) (fun c hc e => by have := ZZ.out; omega)) (by obtain ⟨es, cl, e1, _⟩ := HJ.out.own; exact ⟨es, cl, e1⟩) HT.out HJ.out.ml HN0.out)
  have MS := Lib.hid (addP_missed tx mi p)
  refine bodyPost_ret (v := .tuple #[.agg #[.bool (Pk.addP tx mi p).whole, .string (bs (Pk.addP tx mi p).msg), .int .i64 mi, .bool (Pk.addP tx mi p).broken], .int .i64 0]) (results_cell_t1 Try.results25 _ _ R [.bool (Pk.addP tx mi p).whole, .string (bs (Pk.addP tx mi p).msg), .int .i64 mi, .bool (Pk.addP tx mi p).broken] _ rfl (C11.out.rangeAll _ rfl (pc_list _ _ _ _)) Try.underlying52 rfl pc_info) rfl ⟨_, _, ?_, J11.out, KK.out⟩
  unfold pcV
  rw [MS.out]
set_option maxHeartbeats 16000000 in
theorem pfeed_new {w : World} {n0 j m cnt : Nat} {F : Int → Option Pk.St} {D : DataW Value} {S : Int → Value} (h : PJ w n0 j m cnt F D S) (hn0 : n0 ≤ w.heap.size) (hcnt : cnt < 1000000) (p : Pkt) (ho : Pk.Ok p) (hi : p.ap ≠ 2047)
    (nx : Int) (sa : Option Addr) (n c : Nat) (tx : List UInt8) (mi : Int) (hL : ∀ w', w'.heap[m]? = w.heap[m]? → (Instr.lookup 48 (.map (some m)) (.int .i64 p.ap) true).run Try.prog w' = .ok (.tuple #[knV nx (.slice sa n c), .bool false]) w')
    (hT : Txt w n0 (.slice sa n c) tx) (hn : tx.length = n) (hl : n ≤ 16384) (hap : ∀ b, (F b).isSome = true → b ≠ p.ap → ∀ k, (Value.slice sa n c).ownBlock = some k → (S b).ownBlock ≠ some k)
    (hmi : mi = 0) : Calls Try.prog 25 #[.pointer (some ⟨j, 0, none⟩), pkVal p] w fun e w' => ∃ D' S', e = .returned (.tuple #[pcV (Pk.addP tx mi p), .int .i64 0]) ∧ PJ w' n0 j m (cnt + 1) (upd F p.ap (some ⟨(p.ct + 1) % 16384, Pk.toOp (Pk.addT tx mi p)⟩)) D' S' ∧ Kp n0 [5] true w w' := by
  have HJ := Lib.hid h
  have HL := Lib.hid hL
  have HT := Lib.hid hT
  have HN := Lib.hid hn
  have HAP := Lib.hid hap
  have HO := Lib.hid ho
  have HN0 := Lib.hid hn0
  have VAL := Lib.hid (fun w => pvalid_any p (by have := ho.2.2.2.2; unfold maxLen; omega) w)
  rw [decide_eq_true ho] at VAL
  have NC := Lib.hid (fun w => nextCount_int p.ct ho.2.2.1 w)
  obtain ⟨nx2, hnx2⟩ : ∃ x, (p.ct + 1) % 16384 = x := ⟨_, rfl⟩
  rw [hnx2] at NC
  have N2 := Lib.hid hnx2
  have N2b := Lib.hid (show 0 ≤ nx2 ∧ nx2 ≤ 16383 by omega)
  have t1 : (p.ap == 2047) = false := by simp; exact hi
  have AP := Lib.hid (show 0 ≤ p.ap ∧ p.ap ≤ 2046 by have := ho.1; omega)
  have WF := Lib.hid (wf_ap (show 0 ≤ p.ap ∧ p.ap ≤ 2047 from ho.1))
  have HMI := Lib.hid hmi
  clear hmi
  have lj := HJ.out.jlt
  have lm := HJ.out.own.lt
  clear h hL hT hn hap ho hn0 hnx2
  go_enter Try.func25, Try.ntmps25
  go_wp2_with (first
    | (refine wpList_new rfl (.box 23 (.tmp 1)) rfl (some 3) rfl #[.bool p.cmd, .int .i64 p.ap, .int .i64 p.fl, .int .i64 p.ct, .string p.da] 23 (fun X => .pointer (some ⟨X, 0, none⟩)) 5 (pkCel p) (pk_cells p) (box_pk rfl rfl) ?_; intro X w1 HX Sw1 CX1 Bw1; have B1 := Bw1)
    | (refine wpList_new rfl (.alloc 52) rfl (some 4) rfl #[.bool false, .string ⟨#[]⟩, .int .i64 0, .bool false] 52 (fun X => .pointer (some ⟨X, 0, none⟩)) 4 (pcC false ⟨#[]⟩ 0 false) (pc_cells false ⟨#[]⟩ 0 false) (alloc_piece rfl) ?_; intro R w2 HR Sw2 CR2 Bw2; have CX2 := Lib.hid (CX1.out.below Bw2.out); have J2 := Lib.hid ((HJ.out.below Bw1.out).below Bw2.out); have c02 := J2.out.c0; have c12 := J2.out.c1; have B2 := Lib.hid (bt Bw1.out Bw2.out)))
  (with_reducible refine (made_yes j _ c02).mono ?_)
  rintro e w' ⟨rfl, rfl⟩
  go_wp2_with (refine wpList_getAll rfl 23 (.tmp 3) rfl X 5 [.bool p.cmd, .int .i64 p.ap, .int .i64 p.fl, .int .i64 p.ct, .string p.da] _ _ CX2.out rfl (pk_list p) rfl Try.underlying23 rfl pk_info ?_)
  (refine (VAL.out _).mono ?_)
  rintro e w3 ⟨rfl, h3⟩
  have CX3 := Lib.hid (CX2.out.below h3)
  have CR3 := Lib.hid (CR2.out.below h3)
  have B3 := Lib.hid (bt B2.out h3)
  have x31 : w3.cell? ⟨X, 1, none⟩ = some (.int .i64 p.ap) := CX3.out.cell (j := 1) (by omega)
  clear h3 c02 c12
  go_upto_region 8 with (refine wpList_new rfl (.alloc 52) rfl (some 6) rfl #[.bool false, .string ⟨#[]⟩, .int .i64 0, .bool false] 52 (fun X => .pointer (some ⟨X, 0, none⟩)) 4 (pcC false ⟨#[]⟩ 0 false) (pc_cells false ⟨#[]⟩ 0 false) (alloc_piece rfl) ?_; intro Q w4 HQ Sw4 CQ4 Bw4)
  have B4 := Lib.hid (bt B3.out Bw4.out)
  have CX4 := Lib.hid (CX3.out.below Bw4.out)
  have CR4 := Lib.hid (CR3.out.below Bw4.out)
  have ZZ := Lib.hid (show X = w.heap.size ∧ R = w.heap.size + 1 ∧ R < Q ∧ Q < w4.heap.size from by
    have := HX.out
    have := Sw1.out
    have := HR.out
    have := HQ.out
    have := Sw4.out
    have := CR3.out.1
    omega)
  refine fdRegion j X m n c w4.heap.size sa false p.ap nx (Nat.lt_of_lt_of_le lj B4.out.size) CX4.out.1 (Nat.lt_of_lt_of_le lm B4.out.size) (Nat.le_refl _) (Nat.le_refl _) ((B4.out.cell (p := ⟨j, 1, none⟩) lj).trans HJ.out.c1) (CX4.out.cell (j := 1) (by omega)) (fun w' hw => HL.out w' (hw.trans (B4.out.block m lm))) (by kernel_rfl) rfl rfl rfl rfl rfl rfl rfl rfl rfl rfl rfl rfl rfl rfl rfl ?_
  rintro v10 w5 h5 ⟨G, rfl, hG, CG⟩
  simp only [Act.put, List.setIfInBounds_toArray, List.set_cons_succ, List.set_cons_zero, List.drop_succ_cons, List.drop_zero]
  have C5 := Lib.hid (show Cel w5 G 2 (knC nx (.slice sa n c)) from CG)
  have B5 := Lib.hid (bt B4.out h5)
  have CX5 := Lib.hid (CX4.out.below h5)
  have CR5 := Lib.hid (CR4.out.below h5)
  have CQ5 := Lib.hid (show Cel w5 Q 4 (pcC false ⟨#[]⟩ mi false) from (by rw [HMI.out]; exact CQ4.out.below h5))
  have GQ := Lib.hid (show G ≠ Q ∧ G ≠ X ∧ G ≠ R ∧ w.heap.size ≤ G from by have := ZZ.out; omega)
  have T5 := Lib.hid (show Txt w5 n0 (.slice sa n c) tx from own_below HT.out B5.out)
  have U5 := Lib.hid (Buts.of_below (S := fun b => (Value.slice sa n c).ownBlock = some b) B5.out)
  have x53 : w5.cell? ⟨X, 3, none⟩ = some (.int .i64 p.ct) := CX5.out.cell (j := 3) (by omega)
  have g50 : w5.cell? ⟨G, 0, none⟩ = some (.int .i64 nx) := C5.out.cell (j := 0) (by omega)
  have NG := Lib.hid (show (Value.slice sa n c).ownBlock ≠ some G ∧ (Value.slice sa n c).ownBlock ≠ some Q ∧ (Value.slice sa n c).ownBlock ≠ some R ∧ (Value.slice sa n c).ownBlock ≠ some X from ⟨fun e => by have := own_block_lt HT.out e; have := GQ.out; omega, fun e => by have := own_block_lt HT.out e; have := ZZ.out; omega, fun e => by have := own_block_lt HT.out e; have := ZZ.out; omega, fun e => by have := own_block_lt HT.out e; have := ZZ.out; omega⟩)
  clear h5 hG CG x31
  go_wp2_with fail
  (with_reducible refine (NC.out _).mono ?_)
  rintro e w' ⟨rfl, rfl⟩
  go_wp2_with (first
    | (refine wpList_set rfl (.store 3 (.tmp 43) (.tmp 42)) rfl G 0 2 (.int .i64 nx2) _ (knC nx2 (.slice sa n c)) C5.out (by omega) (fun j hj => by match j, hj with | 0, _ => rfl | 1, _ => rfl) (store_int rfl rfl rfl (C5.out.cell (j := 0) (by omega)) (C5.out.frozen (j := 0) (by omega))) ?_; intro w7 C7 V7 S7; have CQ7 := Lib.hid (CQ5.out.but V7.out (fun e => GQ.out.1 e.symm)); have CX7 := Lib.hid (CX5.out.but V7.out (fun e => GQ.out.2.1 e.symm)); have CR7 := Lib.hid (CR5.out.but V7.out (fun e => GQ.out.2.2.1 e.symm)); have T7 := Lib.hid (own_but T5.out V7.out NG.out.1); have U7 := Lib.hid (U5.out.then_new (Buts.of_but (S := fun b => b = G) V7.out rfl) (fun c hc e => by have := GQ.out; omega)))
    | (refine wpList_getAll rfl 23 (.tmp 3) rfl X 5 [.bool p.cmd, .int .i64 p.ap, .int .i64 p.fl, .int .i64 p.ct, .string p.da] _ _ CX7.out rfl (pk_list p) rfl Try.underlying23 rfl pk_info ?_))
  (refine (padd_any n0 G Q nx2 sa n c tx mi p HO.out HN.out hl GQ.out.1 _ (Nat.le_trans HN0.out U7.out.size) NG.out.1 NG.out.2.1 C7.out CQ7.out T7.out).mono ?_)
  rintro e w8 ⟨rfl, ⟨a8, n8, c8, c8G, t8, l8, k8⟩, c8Q, u8⟩
  have C8 := Lib.hid c8G
  have CQ8 := Lib.hid c8Q
  have T8 := Lib.hid t8
  have L8 := Lib.hid l8
  have U8 := Lib.hid (U7.out.then_new u8 (fun c hc e => by
    rcases e with e | e | e
    · have := GQ.out; omega
    · have := ZZ.out; omega
    · exact e))
  have CX8 := Lib.hid (CX7.out.of_block (u8.block X CX7.out.1 (fun e => by
    rcases e with e | e | e
    · exact GQ.out.2.1 e.symm
    · have := ZZ.out; omega
    · exact NG.out.2.2.2 e)))
  have CR8 := Lib.hid (CR7.out.of_block (u8.block R CR7.out.1 (fun e => by
    rcases e with e | e | e
    · exact GQ.out.2.2.1 e.symm
    · have := ZZ.out; omega
    · exact NG.out.2.2.1 e)))
  have K8 := Lib.hid (show ∀ k, (Value.slice a8 n8 c8).ownBlock = some k → ((Value.slice sa n c).ownBlock = some k ∨ (w.heap.size ≤ k ∧ k ≠ R)) from fun k hk => by
    rcases k8 k hk with e | e
    · exact .inl e
    · have := CR7.out.1
      have := U7.out.size
      exact .inr ⟨by omega, by omega⟩)
  have JB := Lib.hid (show w8.heap[j]? = w.heap[j]? from U8.out.block j lj (fun e => by
    obtain ⟨cur, fr, e1⟩ := HJ.out.jt
    obtain ⟨_, R⟩ := HT.out
    rcases R with ⟨q, _⟩ | ⟨g, c, cur, q1, q2, q3, _⟩
    · rw [q] at e; cases e
    · rw [q1] at e
      cases e
      rw [e1] at q3
      cases q3))
  have MB := Lib.hid (show w8.heap[m]? = w.heap[m]? from U8.out.block m lm (fun e => by
    obtain ⟨es, cl, e1, _⟩ := HJ.out.own
    obtain ⟨_, R⟩ := HT.out
    rcases R with ⟨q, _⟩ | ⟨g, c, cur, q1, q2, q3, _⟩
    · rw [q] at e; cases e
    · rw [q1] at e
      cases e
      rw [e1] at q3
      cases q3))
  have g80 : w8.cell? ⟨G, 0, none⟩ = some (.int .i64 nx2) := C8.out.cell (j := 0) (by omega)
  have g81 : w8.cell? ⟨G, 1, none⟩ = some (.slice a8 n8 c8) := C8.out.cell (j := 1) (by omega)
  clear c8G c8Q t8 l8 u8 k8 x53 g50
  go_upto_region 13 with fail
  refine muRegion j X m G n8 c8 a8 p.ap nx2 (Nat.lt_of_lt_of_le lj U8.out.size) CX8.out.1 C8.out.1 ((World.cell?_of_block (a := ⟨j, 1, none⟩) JB.out).trans HJ.out.c1) (CX8.out.cell (j := 1) (by omega)) g80 g81 (by kernel_rfl) rfl rfl rfl rfl rfl rfl rfl rfl rfl rfl rfl ?_
  rintro w9 h9
  simp only [Act.put, List.setIfInBounds_toArray, List.set_cons_succ, List.set_cons_zero, List.drop_succ_cons, List.drop_zero]
  have OW := Lib.hid (show w9.ownsMap Try.prog 3 knR m cnt D from by
    obtain ⟨es, cl, e1, r⟩ := HJ.out.own
    exact ⟨es, cl, (h9.block m (Nat.lt_of_lt_of_le lm U8.out.size)).trans (MB.out.trans e1), r⟩)
  have CQ9 := Lib.hid (CQ8.out.below h9)
  have CR9 := Lib.hid (CR8.out.below h9)
  have T9 := Lib.hid (show Txt w9 n0 (.slice a8 n8 c8) _ from own_below T8.out h9)
  have JB9 := Lib.hid ((h9.block j (Nat.lt_of_lt_of_le lj U8.out.size)).trans JB.out)
  have MB9 := Lib.hid ((h9.block m (Nat.lt_of_lt_of_le lm U8.out.size)).trans MB.out)
  have U9 := Lib.hid (U8.out.trans (Buts.of_below (S := fun b => (Value.slice sa n c).ownBlock = some b) h9))
  have NN8 := Lib.hid (show n8 ≤ 16384 from by
    rw [L8.out]
    unfold Pk.addT
    split
    · exact Nat.zero_le _
    · split
      · exact Nat.zero_le _
      · split
        · exact Nat.zero_le _
        · omega)
  have FIN := Lib.hid (show ∀ w10, w10.ownsMap Try.prog 3 knR m (cnt + 1) (D.put (.int .i64 p.ap) (.held (knV nx2 (.slice a8 n8 c8)))) → w9.grownBy w10 (some m) → PJ w10 n0 j m (cnt + 1) (upd F p.ap (some ⟨(p.ct + 1) % 16384, Pk.toOp (Pk.addT tx mi p)⟩)) (D.put (.int .i64 p.ap) (.held (knV nx2 (.slice a8 n8 c8)))) (upd S p.ap (.slice a8 n8 c8)) from fun w10 ow g => by
    rw [N2.out]
    exact HJ.out.put JB9.out MB9.out (fun b k hs hb hk => U9.out.block k (by
      obtain ⟨st, e⟩ := Option.isSome_iff_exists.1 hs
      exact own_block_lt (HJ.out.elt b st e).2.2.2.2.2.2 hk) (fun e => HAP.out b hs hb k e hk)) AP.out N2b.out L8.out NN8.out T9.out (fun b hs hb k hk e => by
        rcases K8.out k hk with q | ⟨q, _⟩
        · exact HAP.out b hs hb k q e
        · obtain ⟨st, e2⟩ := Option.isSome_iff_exists.1 hs
          have := own_block_lt (HJ.out.elt b st e2).2.2.2.2.2.2 e
          omega) ow g)
  clear h9
  go_wp2_with (first
    | (at_mapUpdate; refine wpList_mapUpdate_own _ rfl _ _ _ 48 rfl 3 75 keyLaw Try.underlying48 knR m cnt D rfl OW.out (by unfold maxLen; omega) _ _ (.int .i64 p.ap) rfl rfl (keyOf_i p.ap WF.out) (.held (knV nx2 (.slice a8 n8 c8))) [] (knR_mk nx2 a8 n8 c8) ?_; intro w10 ow10 g10; have J10 := Lib.hid (FIN.out w10 ow10 g10); have lQ9 := CQ9.out.1; have lR9 := CR9.out.1; have CQ10 := Lib.hid (CQ9.out.of_block (g10.block Q lQ9 (fun e => by have := Option.some.inj e; have := ZZ.out; omega))); have CR10 := Lib.hid (CR9.out.of_block (g10.block R lR9 (fun e => by have := Option.some.inj e; have := ZZ.out; omega))); have G10 := Lib.hid g10; clear ow10 g10 lQ9 lR9)
    | (refine wpList_getAll rfl 52 (.tmp 6) rfl Q 4 [.bool (Pk.addP tx mi p).whole, .string (bs (Pk.addP tx mi p).msg), .int .i64 mi, .bool (Pk.addP tx mi p).broken] _ _ CQ10.out rfl (pc_list _ _ _ _) rfl Try.underlying52 rfl pc_info ?_)
    | (refine wpList_setAll rfl 52 (.tmp 4) (.tmp 53) rfl R 4 [.bool (Pk.addP tx mi p).whole, .string (bs (Pk.addP tx mi p).msg), .int .i64 mi, .bool (Pk.addP tx mi p).broken] _ (pcC (Pk.addP tx mi p).whole (bs (Pk.addP tx mi p).msg) mi (Pk.addP tx mi p).broken) CR10.out rfl (pc_list _ _ _ _) rfl rfl pc_info (by simp [Value.oneCell']) ?_; intro w11 C11 V11 S11))
  have J11 := Lib.hid (show PJ w11 n0 j m (cnt + 1) _ _ _ from J10.out.stay (V11.out.rest j J10.out.jlt (by have := ZZ.out; omega)) (V11.out.rest m J10.out.own.lt (by have := ZZ.out; omega)) (fun a k hs hk => by
    obtain ⟨st, e⟩ := Option.isSome_iff_exists.1 hs
    refine V11.out.rest k (own_block_lt (J10.out.elt a st e).2.2.2.2.2.2 hk) (fun q => ?_)
    subst q
    by_cases ea : a = p.ap
    · subst ea
      rw [upd_same] at hk
      rcases K8.out _ hk with q | ⟨_, q⟩
      · exact NG.out.2.2.1 q
      · exact q rfl
    · rw [upd_ne _ _ ea] at hk
      rw [upd_ne _ _ ea] at e
      have := own_block_lt (HJ.out.elt a st e).2.2.2.2.2.2 hk
      have := ZZ.out
      omega))
  have KK := Lib.hid (show Kp n0 [5] true w w11 from Kp.of_buts (m := m) (sv := .slice sa n c) (((U9.out.mono (fun b hb => .inr hb)).trans (Buts.of_grown (S := fun b => b = m ∨ (Value.slice sa n c).ownBlock = some b) G10.out (fun k hk => .inl (Option.some.inj hk).symm))).then_new (Buts.of_but (S := fun b => b = R) V11.out rfl) (fun c hc e => by have := ZZ.out; omega)) (by obtain ⟨es, cl, e1, _⟩ := HJ.out.own; exact ⟨es, cl, e1⟩) HT.out HJ.out.ml HN0.out)
  have MS := Lib.hid (addP_missed tx mi p)
  refine bodyPost_ret (v := .tuple #[.agg #[.bool (Pk.addP tx mi p).whole, .string (bs (Pk.addP tx mi p).msg), .int .i64 mi, .bool (Pk.addP tx mi p).broken], .int .i64 0]) (results_cell_t1 Try.results25 _ _ R [.bool (Pk.addP tx mi p).whole, .string (bs (Pk.addP tx mi p).msg), .int .i64 mi, .bool (Pk.addP tx mi p).broken] _ rfl (C11.out.rangeAll _ rfl (pc_list _ _ _ _)) Try.underlying52 rfl pc_info) rfl ⟨_, _, ?_, J11.out, KK.out⟩
  unfold pcV
  rw [MS.out]
end Go.Proofs.Ytphkaambodecdaa
