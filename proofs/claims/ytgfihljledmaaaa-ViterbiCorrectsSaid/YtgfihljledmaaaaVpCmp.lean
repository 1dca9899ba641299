/- The contracts of cmp.Compare, cmp.Or and survivor.compare over this program. -/
import Derived.Test.YtgfihljledmaaaaVitRef
import Derived.Test.YtgfihljledmaaaaRegH
import Derived.Deep.MidRow
namespace Go.Proofs.Ytgfihljledmaaaa
open Go.RowKit
set_option linter.unusedVariables false

theorem isNaN_any (x : Int) (w : World) : Calls Try.prog 48 #[.int .i64 x] w fun e w' => e = .returned (.bool false) ∧ w = w' := by
  have x2 : ((x : Int) != (x : Int)) = false := by simp
  go_enter Try.func48, Try.ntmps48
  go_wp2_with fail
  go_ret
  exact ⟨rfl, rfl⟩
/-- What Compare returns. -/
def cmpI (x y : Int) : Int := if x < y then -1 else if y < x then 1 else 0
set_option maxRecDepth 100000 in
theorem compareI_any (x y : Int) (w : World) : Calls Try.prog 46 #[.int .i64 x, .int .i64 y] w fun e w' => e = .returned (.int .i64 (cmpI x y)) ∧ w = w' := by
  have N := Lib.hid (fun x w => isNaN_any x w)
  by_cases h1 : x < y
  · have V := Lib.hid (show cmpI x y = -1 from if_pos h1)
    have d1 : decide (x < y) = true := by simpa using h1
    clear h1
    go_enter Try.func46, Try.ntmps46
    go_wp2_with fail
    (with_reducible refine (N.out _ _).mono ?_)
    rintro e w1 ⟨rfl, rfl⟩
    go_wp2_with fail
    (with_reducible refine (N.out _ _).mono ?_)
    rintro e w1 ⟨rfl, rfl⟩
    go_wp2_with fail
    go_ret
    exact ⟨by rw [V.out]; rfl, rfl⟩
  · have d1 : decide (x < y) = false := by simpa using h1
    by_cases h2 : y < x
    · have V := Lib.hid (show cmpI x y = 1 from (if_neg h1).trans (if_pos h2))
      have d2 : decide (y < x) = true := by simpa using h2
      clear h1 h2
      go_enter Try.func46, Try.ntmps46
      go_wp2_with fail
      (with_reducible refine (N.out _ _).mono ?_)
      rintro e w1 ⟨rfl, rfl⟩
      go_wp2_with fail
      (with_reducible refine (N.out _ _).mono ?_)
      rintro e w1 ⟨rfl, rfl⟩
      go_wp2_with fail
      go_ret
      exact ⟨by rw [V.out]; rfl, rfl⟩
    · have V := Lib.hid (show cmpI x y = 0 from (if_neg h1).trans (if_neg h2))
      have d2 : decide (y < x) = false := by simpa using h2
      clear h1 h2
      go_enter Try.func46, Try.ntmps46
      go_wp2_with fail
      (with_reducible refine (N.out _ _).mono ?_)
      rintro e w1 ⟨rfl, rfl⟩
      go_wp2_with fail
      (with_reducible refine (N.out _ _).mono ?_)
      rintro e w1 ⟨rfl, rfl⟩
      go_wp2_with fail
      go_ret
      exact ⟨by rw [V.out]; rfl, rfl⟩
/-- What Or returns. -/
def orI (x y : Int) : Int := if x = 0 then y else x
set_option maxRecDepth 100000 in
theorem orI_any (b : Nat) (x y : Int) (w : World) (h0 : w.cell? ⟨b, 0, none⟩ = some (.int .i64 x)) (h1 : w.cell? ⟨b, 0 + 1, none⟩ = some (.int .i64 y)) :
    Calls Try.prog 45 #[.slice (some ⟨b, 0, none⟩) 2 2] w fun e w' => e = .returned (.int .i64 (orI x y)) ∧ w = w' := by
  have n0 : ((0 : Int) != 0) = false := rfl
  go_enter Try.func45, Try.ntmps45
  go_wp2_with fail
  go_loop [8] (fun i => ∃ k : Nat, k ≤ 2 ∧ i = .int .i64 (k : Nat) ∧ (0 < k → x = 0) ∧ (1 < k → y = 0)) (fun i => 2 - (intOf i).toNat)
  case atStart => exact ⟨0, by omega, rfl, fun h => absurd h (by omega), fun h => absurd h (by omega)⟩
  case round =>
    obtain ⟨k, hk, rfl, kx, ky⟩ := hrel
    have KX := Lib.hid kx
    have KY := Lib.hid ky
    clear kx ky
    match k, hk with
    | 0, _ =>
      by_cases q : x = 0
      · have hq : (x != 0) = false := by simp [q]
        have Q := Lib.hid q
        clear q
        go_wp2_with fail
        go_round
        case rel => exact ⟨1, by omega, rfl, fun _ => Q.out, fun h => absurd h (by omega)⟩
        case measure => simp [intOf]
      · have hq : (x != 0) = true := by simp [q]
        have Q := Lib.hid q
        clear q
        go_wp2_with fail
        go_ret
        exact ⟨by rw [show orI x y = x from if_neg Q.out]; rfl, rfl⟩
    | 1, _ =>
      by_cases q : y = 0
      · have hq : (y != 0) = false := by simp [q]
        have Q := Lib.hid q
        clear q
        go_wp2_with fail
        go_round
        case rel => exact ⟨2, by omega, rfl, fun _ => KX.out (by omega), fun _ => Q.out⟩
        case measure => simp [intOf]
      · have hq : (y != 0) = true := by simp [q]
        have Q := Lib.hid q
        clear q
        go_wp2_with fail
        go_ret
        exact ⟨by rw [show orI x y = y from if_pos (KX.out (by omega))]; rfl, rfl⟩
    | 2, _ =>
      have Q := Lib.hid (show orI x y = 0 from (if_pos (KX.out (by omega))).trans (KY.out (by omega)))
      go_wp2_with fail
      go_ret
      exact ⟨by rw [Q.out]; rfl, rfl⟩
theorem calledC (x y r : Int) (w : World) (h : cmpI x y = r) : Calls Try.prog 46 #[.int .i64 x, .int .i64 y] w fun e w' => e = .returned (.int .i64 r) ∧ Below w.heap.size w w' := by
  subst h
  refine (compareI_any x y w).mono ?_
  rintro e w' ⟨rfl, rfl⟩
  exact ⟨rfl, Below.refl _ _⟩
structure CmpRegion (P O : Nat) (pb ps ob os u v : Int) (A : Act) (w0 : World) (s : Nat → Bool) (a : Act) (w : World) : Prop where
  off : Off [5, 6, 7, 8, 9, 10, 11, 12, 13, 14] a A
  before : Below w0.heap.size w0 w
  t0 : s 0 = true → a.eval (.tmp 5) = .pointer (some ⟨O, 1, none⟩)
  t1 : s 1 = true → a.eval (.tmp 6) = .int .i64 os
  t2 : s 2 = true → a.eval (.tmp 7) = .pointer (some ⟨P, 1, none⟩)
  t3 : s 3 = true → a.eval (.tmp 8) = .int .i64 ps
  t4 : s 4 = true → a.eval (.tmp 9) = .int .i64 u
  t5 : s 5 = true → a.eval (.tmp 10) = .pointer (some ⟨P, 0, none⟩)
  t6 : s 6 = true → a.eval (.tmp 11) = .int .i64 pb
  t7 : s 7 = true → a.eval (.tmp 12) = .pointer (some ⟨O, 0, none⟩)
  t8 : s 8 = true → a.eval (.tmp 13) = .int .i64 ob
  t9 : s 9 = true → a.eval (.tmp 14) = .int .i64 v
set_option maxHeartbeats 2000000 in
set_option maxRecDepth 100000 in
theorem cmpRegion {id : Nat} {l : List Oper} {A : Act} {w : World} {Q : Exit → Act → World → Prop} (P O : Nat) (pb ps ob os u v : Int)
    (hu : cmpI os ps = u) (hv : cmpI pb ob = v)
    (lP : P < w.heap.size) (lO : O < w.heap.size)
    (cP0 : w.cell? ⟨P, 0, none⟩ = some (.int .i64 pb)) (cP1 : w.cell? ⟨P, 1, none⟩ = some (.int .i64 ps)) (cO0 : w.cell? ⟨O, 0, none⟩ = some (.int .i64 ob)) (cO1 : w.cell? ⟨O, 1, none⟩ = some (.int .i64 os))
    (hB : tableH l.toArray 10 (fun i => match i with | 0 => [] | 1 => [0] | 2 => [] | 3 => [2] | 4 => [1, 3] | 5 => [] | 6 => [5] | 7 => [] | 8 => [7] | 9 => [6, 8] | _ => []) (fun _ => []) = true)
    (h0 : pick l 0 = some (.fieldAddr 68 (.tmp 3) 1, some 5))
    (h1 : pick l 1 = some (.load 3 (.tmp 5), some 6))
    (h2 : pick l 2 = some (.fieldAddr 68 (.tmp 2) 1, some 7))
    (h3 : pick l 3 = some (.load 3 (.tmp 7), some 8))
    (h4 : pick l 4 = some (.call { callee := .value (.func 46), args := #[.tmp 6, .tmp 8], argTypes := #[3, 3] }, some 9))
    (h5 : pick l 5 = some (.fieldAddr 68 (.tmp 2) 0, some 10))
    (h6 : pick l 6 = some (.load 3 (.tmp 10), some 11))
    (h7 : pick l 7 = some (.fieldAddr 68 (.tmp 3) 0, some 12))
    (h8 : pick l 8 = some (.load 3 (.tmp 12), some 13))
    (h9 : pick l 9 = some (.call { callee := .value (.func 46), args := #[.tmp 11, .tmp 13], argTypes := #[3, 3] }, some 14))
    (hs : A.tmps.size = 17)
    (x2 : A.eval (.tmp 2) = .pointer (some ⟨P, 0, none⟩))
    (x3 : A.eval (.tmp 3) = .pointer (some ⟨O, 0, none⟩))
    (h : ∀ w1, Below w.heap.size w w1 → wpList Try.prog l.toArray Q (l.drop 10) ((((((((((A.put (some 5) (.pointer (some ⟨O, 1, none⟩))).put (some 6) (.int .i64 os)).put (some 7) (.pointer (some ⟨P, 1, none⟩))).put (some 8) (.int .i64 ps)).put (some 9) (.int .i64 u)).put (some 10) (.pointer (some ⟨P, 0, none⟩))).put (some 11) (.int .i64 pb)).put (some 12) (.pointer (some ⟨O, 0, none⟩))).put (some 13) (.int .i64 ob)).put (some 14) (.int .i64 v)) w1) :
    (Code.region id l.toArray true).wp Try.prog Q A w := by
  refine wp_region_head (by kernel_rfl) _ _ _ hB (CmpRegion P O pb ps ob os u v A w) ⟨Off.refl _ _, (Below.refl _ _).drew, by simp, by simp, by simp, by simp, by simp, by simp, by simp, by simp, by simp, by simp⟩ ?_ ?_
  · intro s a w' S i' o il ho hsi hT K hK
    have sz : a.tmps.size = 17 := by rw [S.off.2.1]; exact hs
    have y2 : a.eval (.tmp 2) = .pointer (some ⟨P, 0, none⟩) := by rw [S.off.eval (by decide)]; exact x2
    have y3 : a.eval (.tmp 3) = .pointer (some ⟨O, 0, none⟩) := by rw [S.off.eval (by decide)]; exact x3
    match i', il, ho, hsi, hT with
    | 0, _, ho, hsi, hT =>
      obtain ⟨e1, e2⟩ := pick_of h0 ho
      have BW := S.before
      refine step_val (v := .pointer (some ⟨O, 1, none⟩)) (by simp only [execOp, e1, y3]; go_simp) (hK _ _ ?_)
      rw [e2]
      exact ⟨S.off.put (by decide) _, S.before, fun _ => (eval_put _ _ _ (by omega)).trans rfl, fun g => by rw [eval_put_ne _ _ _ _ (by decide)]; exact S.t1 (by simpa using g), fun g => by rw [eval_put_ne _ _ _ _ (by decide)]; exact S.t2 (by simpa using g), fun g => by rw [eval_put_ne _ _ _ _ (by decide)]; exact S.t3 (by simpa using g), fun g => by rw [eval_put_ne _ _ _ _ (by decide)]; exact S.t4 (by simpa using g), fun g => by rw [eval_put_ne _ _ _ _ (by decide)]; exact S.t5 (by simpa using g), fun g => by rw [eval_put_ne _ _ _ _ (by decide)]; exact S.t6 (by simpa using g), fun g => by rw [eval_put_ne _ _ _ _ (by decide)]; exact S.t7 (by simpa using g), fun g => by rw [eval_put_ne _ _ _ _ (by decide)]; exact S.t8 (by simpa using g), fun g => by rw [eval_put_ne _ _ _ _ (by decide)]; exact S.t9 (by simpa using g)⟩
    | 1, _, ho, hsi, hT =>
      obtain ⟨e1, e2⟩ := pick_of h1 ho
      have D0 : s 0 = true := list_pos hT (d := 0) (by decide)
      have BW := S.before
      have cl := (BW.cell (p := ⟨O, 1, none⟩) lO).trans cO1
      refine step_val (v := .int .i64 os) (by simp only [execOp, e1, S.t0 D0]; go_simp) (hK _ _ ?_)
      rw [e2]
      exact ⟨S.off.put (by decide) _, S.before, fun g => by rw [eval_put_ne _ _ _ _ (by decide)]; exact S.t0 (by simpa using g), fun _ => (eval_put _ _ _ (by omega)).trans rfl, fun g => by rw [eval_put_ne _ _ _ _ (by decide)]; exact S.t2 (by simpa using g), fun g => by rw [eval_put_ne _ _ _ _ (by decide)]; exact S.t3 (by simpa using g), fun g => by rw [eval_put_ne _ _ _ _ (by decide)]; exact S.t4 (by simpa using g), fun g => by rw [eval_put_ne _ _ _ _ (by decide)]; exact S.t5 (by simpa using g), fun g => by rw [eval_put_ne _ _ _ _ (by decide)]; exact S.t6 (by simpa using g), fun g => by rw [eval_put_ne _ _ _ _ (by decide)]; exact S.t7 (by simpa using g), fun g => by rw [eval_put_ne _ _ _ _ (by decide)]; exact S.t8 (by simpa using g), fun g => by rw [eval_put_ne _ _ _ _ (by decide)]; exact S.t9 (by simpa using g)⟩
    | 2, _, ho, hsi, hT =>
      obtain ⟨e1, e2⟩ := pick_of h2 ho
      have BW := S.before
      refine step_val (v := .pointer (some ⟨P, 1, none⟩)) (by simp only [execOp, e1, y2]; go_simp) (hK _ _ ?_)
      rw [e2]
      exact ⟨S.off.put (by decide) _, S.before, fun g => by rw [eval_put_ne _ _ _ _ (by decide)]; exact S.t0 (by simpa using g), fun g => by rw [eval_put_ne _ _ _ _ (by decide)]; exact S.t1 (by simpa using g), fun _ => (eval_put _ _ _ (by omega)).trans rfl, fun g => by rw [eval_put_ne _ _ _ _ (by decide)]; exact S.t3 (by simpa using g), fun g => by rw [eval_put_ne _ _ _ _ (by decide)]; exact S.t4 (by simpa using g), fun g => by rw [eval_put_ne _ _ _ _ (by decide)]; exact S.t5 (by simpa using g), fun g => by rw [eval_put_ne _ _ _ _ (by decide)]; exact S.t6 (by simpa using g), fun g => by rw [eval_put_ne _ _ _ _ (by decide)]; exact S.t7 (by simpa using g), fun g => by rw [eval_put_ne _ _ _ _ (by decide)]; exact S.t8 (by simpa using g), fun g => by rw [eval_put_ne _ _ _ _ (by decide)]; exact S.t9 (by simpa using g)⟩
    | 3, _, ho, hsi, hT =>
      obtain ⟨e1, e2⟩ := pick_of h3 ho
      have D2 : s 2 = true := list_pos hT (d := 2) (by decide)
      have BW := S.before
      have cl := (BW.cell (p := ⟨P, 1, none⟩) lP).trans cP1
      refine step_val (v := .int .i64 ps) (by simp only [execOp, e1, S.t2 D2]; go_simp) (hK _ _ ?_)
      rw [e2]
      exact ⟨S.off.put (by decide) _, S.before, fun g => by rw [eval_put_ne _ _ _ _ (by decide)]; exact S.t0 (by simpa using g), fun g => by rw [eval_put_ne _ _ _ _ (by decide)]; exact S.t1 (by simpa using g), fun g => by rw [eval_put_ne _ _ _ _ (by decide)]; exact S.t2 (by simpa using g), fun _ => (eval_put _ _ _ (by omega)).trans rfl, fun g => by rw [eval_put_ne _ _ _ _ (by decide)]; exact S.t4 (by simpa using g), fun g => by rw [eval_put_ne _ _ _ _ (by decide)]; exact S.t5 (by simpa using g), fun g => by rw [eval_put_ne _ _ _ _ (by decide)]; exact S.t6 (by simpa using g), fun g => by rw [eval_put_ne _ _ _ _ (by decide)]; exact S.t7 (by simpa using g), fun g => by rw [eval_put_ne _ _ _ _ (by decide)]; exact S.t8 (by simpa using g), fun g => by rw [eval_put_ne _ _ _ _ (by decide)]; exact S.t9 (by simpa using g)⟩
    | 4, _, ho, hsi, hT =>
      obtain ⟨e1, e2⟩ := pick_of h4 ho
      have D1 : s 1 = true := list_pos hT (d := 1) (by decide)
      have D3 : s 3 = true := list_pos hT (d := 3) (by decide)
      have BW := S.before
      refine step_call 46 (fun args w => by go_simp) _ _ e1 #[.int .i64 os, .int .i64 ps] (by simp only [List.map_toArray, List.map_cons, List.map_nil, S.t1 D1, S.t3 D3]) ((calledC os ps u _ (by assumption)).mono ?_)
      rintro e w2 ⟨rfl, BB⟩
      refine ⟨_, rfl, hK _ _ ?_⟩
      rw [e2]
      exact ⟨S.off.put (by decide) _, bt BW BB, fun g => by rw [eval_put_ne _ _ _ _ (by decide)]; exact S.t0 (by simpa using g), fun g => by rw [eval_put_ne _ _ _ _ (by decide)]; exact S.t1 (by simpa using g), fun g => by rw [eval_put_ne _ _ _ _ (by decide)]; exact S.t2 (by simpa using g), fun g => by rw [eval_put_ne _ _ _ _ (by decide)]; exact S.t3 (by simpa using g), fun _ => (eval_put _ _ _ (by omega)).trans rfl, fun g => by rw [eval_put_ne _ _ _ _ (by decide)]; exact S.t5 (by simpa using g), fun g => by rw [eval_put_ne _ _ _ _ (by decide)]; exact S.t6 (by simpa using g), fun g => by rw [eval_put_ne _ _ _ _ (by decide)]; exact S.t7 (by simpa using g), fun g => by rw [eval_put_ne _ _ _ _ (by decide)]; exact S.t8 (by simpa using g), fun g => by rw [eval_put_ne _ _ _ _ (by decide)]; exact S.t9 (by simpa using g)⟩
    | 5, _, ho, hsi, hT =>
      obtain ⟨e1, e2⟩ := pick_of h5 ho
      have BW := S.before
      refine step_val (v := .pointer (some ⟨P, 0, none⟩)) (by simp only [execOp, e1, y2]; go_simp) (hK _ _ ?_)
      rw [e2]
      exact ⟨S.off.put (by decide) _, S.before, fun g => by rw [eval_put_ne _ _ _ _ (by decide)]; exact S.t0 (by simpa using g), fun g => by rw [eval_put_ne _ _ _ _ (by decide)]; exact S.t1 (by simpa using g), fun g => by rw [eval_put_ne _ _ _ _ (by decide)]; exact S.t2 (by simpa using g), fun g => by rw [eval_put_ne _ _ _ _ (by decide)]; exact S.t3 (by simpa using g), fun g => by rw [eval_put_ne _ _ _ _ (by decide)]; exact S.t4 (by simpa using g), fun _ => (eval_put _ _ _ (by omega)).trans rfl, fun g => by rw [eval_put_ne _ _ _ _ (by decide)]; exact S.t6 (by simpa using g), fun g => by rw [eval_put_ne _ _ _ _ (by decide)]; exact S.t7 (by simpa using g), fun g => by rw [eval_put_ne _ _ _ _ (by decide)]; exact S.t8 (by simpa using g), fun g => by rw [eval_put_ne _ _ _ _ (by decide)]; exact S.t9 (by simpa using g)⟩
    | 6, _, ho, hsi, hT =>
      obtain ⟨e1, e2⟩ := pick_of h6 ho
      have D5 : s 5 = true := list_pos hT (d := 5) (by decide)
      have BW := S.before
      have cl := (BW.cell (p := ⟨P, 0, none⟩) lP).trans cP0
      refine step_val (v := .int .i64 pb) (by simp only [execOp, e1, S.t5 D5]; go_simp) (hK _ _ ?_)
      rw [e2]
      exact ⟨S.off.put (by decide) _, S.before, fun g => by rw [eval_put_ne _ _ _ _ (by decide)]; exact S.t0 (by simpa using g), fun g => by rw [eval_put_ne _ _ _ _ (by decide)]; exact S.t1 (by simpa using g), fun g => by rw [eval_put_ne _ _ _ _ (by decide)]; exact S.t2 (by simpa using g), fun g => by rw [eval_put_ne _ _ _ _ (by decide)]; exact S.t3 (by simpa using g), fun g => by rw [eval_put_ne _ _ _ _ (by decide)]; exact S.t4 (by simpa using g), fun g => by rw [eval_put_ne _ _ _ _ (by decide)]; exact S.t5 (by simpa using g), fun _ => (eval_put _ _ _ (by omega)).trans rfl, fun g => by rw [eval_put_ne _ _ _ _ (by decide)]; exact S.t7 (by simpa using g), fun g => by rw [eval_put_ne _ _ _ _ (by decide)]; exact S.t8 (by simpa using g), fun g => by rw [eval_put_ne _ _ _ _ (by decide)]; exact S.t9 (by simpa using g)⟩
    | 7, _, ho, hsi, hT =>
      obtain ⟨e1, e2⟩ := pick_of h7 ho
      have BW := S.before
      refine step_val (v := .pointer (some ⟨O, 0, none⟩)) (by simp only [execOp, e1, y3]; go_simp) (hK _ _ ?_)
      rw [e2]
      exact ⟨S.off.put (by decide) _, S.before, fun g => by rw [eval_put_ne _ _ _ _ (by decide)]; exact S.t0 (by simpa using g), fun g => by rw [eval_put_ne _ _ _ _ (by decide)]; exact S.t1 (by simpa using g), fun g => by rw [eval_put_ne _ _ _ _ (by decide)]; exact S.t2 (by simpa using g), fun g => by rw [eval_put_ne _ _ _ _ (by decide)]; exact S.t3 (by simpa using g), fun g => by rw [eval_put_ne _ _ _ _ (by decide)]; exact S.t4 (by simpa using g), fun g => by rw [eval_put_ne _ _ _ _ (by decide)]; exact S.t5 (by simpa using g), fun g => by rw [eval_put_ne _ _ _ _ (by decide)]; exact S.t6 (by simpa using g), fun _ => (eval_put _ _ _ (by omega)).trans rfl, fun g => by rw [eval_put_ne _ _ _ _ (by decide)]; exact S.t8 (by simpa using g), fun g => by rw [eval_put_ne _ _ _ _ (by decide)]; exact S.t9 (by simpa using g)⟩
    | 8, _, ho, hsi, hT =>
      obtain ⟨e1, e2⟩ := pick_of h8 ho
      have D7 : s 7 = true := list_pos hT (d := 7) (by decide)
      have BW := S.before
      have cl := (BW.cell (p := ⟨O, 0, none⟩) lO).trans cO0
      refine step_val (v := .int .i64 ob) (by simp only [execOp, e1, S.t7 D7]; go_simp) (hK _ _ ?_)
      rw [e2]
      exact ⟨S.off.put (by decide) _, S.before, fun g => by rw [eval_put_ne _ _ _ _ (by decide)]; exact S.t0 (by simpa using g), fun g => by rw [eval_put_ne _ _ _ _ (by decide)]; exact S.t1 (by simpa using g), fun g => by rw [eval_put_ne _ _ _ _ (by decide)]; exact S.t2 (by simpa using g), fun g => by rw [eval_put_ne _ _ _ _ (by decide)]; exact S.t3 (by simpa using g), fun g => by rw [eval_put_ne _ _ _ _ (by decide)]; exact S.t4 (by simpa using g), fun g => by rw [eval_put_ne _ _ _ _ (by decide)]; exact S.t5 (by simpa using g), fun g => by rw [eval_put_ne _ _ _ _ (by decide)]; exact S.t6 (by simpa using g), fun g => by rw [eval_put_ne _ _ _ _ (by decide)]; exact S.t7 (by simpa using g), fun _ => (eval_put _ _ _ (by omega)).trans rfl, fun g => by rw [eval_put_ne _ _ _ _ (by decide)]; exact S.t9 (by simpa using g)⟩
    | 9, _, ho, hsi, hT =>
      obtain ⟨e1, e2⟩ := pick_of h9 ho
      have D6 : s 6 = true := list_pos hT (d := 6) (by decide)
      have D8 : s 8 = true := list_pos hT (d := 8) (by decide)
      have BW := S.before
      refine step_call 46 (fun args w => by go_simp) _ _ e1 #[.int .i64 pb, .int .i64 ob] (by simp only [List.map_toArray, List.map_cons, List.map_nil, S.t6 D6, S.t8 D8]) ((calledC pb ob v _ (by assumption)).mono ?_)
      rintro e w2 ⟨rfl, BB⟩
      refine ⟨_, rfl, hK _ _ ?_⟩
      rw [e2]
      exact ⟨S.off.put (by decide) _, bt BW BB, fun g => by rw [eval_put_ne _ _ _ _ (by decide)]; exact S.t0 (by simpa using g), fun g => by rw [eval_put_ne _ _ _ _ (by decide)]; exact S.t1 (by simpa using g), fun g => by rw [eval_put_ne _ _ _ _ (by decide)]; exact S.t2 (by simpa using g), fun g => by rw [eval_put_ne _ _ _ _ (by decide)]; exact S.t3 (by simpa using g), fun g => by rw [eval_put_ne _ _ _ _ (by decide)]; exact S.t4 (by simpa using g), fun g => by rw [eval_put_ne _ _ _ _ (by decide)]; exact S.t5 (by simpa using g), fun g => by rw [eval_put_ne _ _ _ _ (by decide)]; exact S.t6 (by simpa using g), fun g => by rw [eval_put_ne _ _ _ _ (by decide)]; exact S.t7 (by simpa using g), fun g => by rw [eval_put_ne _ _ _ _ (by decide)]; exact S.t8 (by simpa using g), fun _ => (eval_put _ _ _ (by omega)).trans rfl⟩
    | _ + 10, il, _, _, _ => exact absurd il (by omega)
  · intro s a w' S hall
    have a0 := hall 0 (by omega)
    have a1 := hall 1 (by omega)
    have a2 := hall 2 (by omega)
    have a3 := hall 3 (by omega)
    have a4 := hall 4 (by omega)
    have a5 := hall 5 (by omega)
    have a6 := hall 6 (by omega)
    have a7 := hall 7 (by omega)
    have a8 := hall 8 (by omega)
    have a9 := hall 9 (by omega)
    have e := off_norm _ (by intro d hd; simp at hd; omega) S.off
    simp only [List.foldl, S.t0 a0, S.t1 a1, S.t2 a2, S.t3 a3, S.t4 a4, S.t5 a5, S.t6 a6, S.t7 a7, S.t8 a8, S.t9 a9] at e
    rw [e]
    exact h _ S.before
/-- What compare returns. -/
def cmpS (pb ps ob os : Int) : Int := orI (cmpI os ps) (cmpI pb ob)
set_option maxRecDepth 100000 in
set_option maxHeartbeats 1000000 in
theorem compare_any (pb ps ob os : Int) (w : World) :
    Calls Try.prog 42 #[.agg #[.int .i64 pb, .int .i64 ps], .agg #[.int .i64 ob, .int .i64 os]] w fun e w' => e = .returned (.int .i64 (cmpS pb ps ob os)) ∧ Below w.heap.size w w' := by
  obtain ⟨u, hu⟩ : ∃ u, cmpI os ps = u := ⟨_, rfl⟩
  obtain ⟨v, hv⟩ : ∃ v, cmpI pb ob = v := ⟨_, rfl⟩
  have V := Lib.hid (show cmpS pb ps ob os = orI u v by unfold cmpS; rw [hu, hv])
  have HU := Lib.hid hu
  have HV := Lib.hid hv
  have B1 := Lib.hid (ba (ba (Below.refl w.heap.size w) (.cells #[.int .i64 pb, .int .i64 ps] 68)) (.cells #[.int .i64 ob, .int .i64 os] 68))
  clear hu hv
  go_enter Try.func42, Try.ntmps42
  go_upto_region 1 with fail
  have lP : w.heap.size < (w.alloc (.cells #[.int .i64 pb, .int .i64 ps] 68)).heap.size := by rw [World.size_alloc]; omega
  have cP : ∀ j v, (#[Value.int .i64 pb, Value.int .i64 ps] : Array Value)[j]? = some v → ((w.alloc (.cells #[.int .i64 pb, .int .i64 ps] 68)).alloc (.cells #[.int .i64 ob, .int .i64 os] 68)).cell? ⟨w.heap.size, j, none⟩ = some v := fun j v hv => by
    rw [World.cell?_alloc_lt _ _ _ (show (⟨w.heap.size, j, none⟩ : Addr).block < _ from lP), World.cell?_alloc_new]
    exact hv
  have cO : ∀ j v, (#[Value.int .i64 ob, Value.int .i64 os] : Array Value)[j]? = some v → ((w.alloc (.cells #[.int .i64 pb, .int .i64 ps] 68)).alloc (.cells #[.int .i64 ob, .int .i64 os] 68)).cell? ⟨w.heap.size + 1, j, none⟩ = some v := fun j v hv => by
    have := World.cell?_alloc_new (w.alloc (.cells #[.int .i64 pb, .int .i64 ps] 68)) #[.int .i64 ob, .int .i64 os] 68 j
    rw [World.size_alloc] at this
    rw [this]
    exact hv
  refine cmpRegion w.heap.size (w.heap.size + 1) pb ps ob os u v HU.out HV.out (by rw [World.size_alloc, World.size_alloc]; omega) (by rw [World.size_alloc, World.size_alloc]; omega) (cP 0 _ rfl) (cP 1 _ rfl) (cO 0 _ rfl) (cO 1 _ rfl) (by kernel_rfl) rfl rfl rfl rfl rfl rfl rfl rfl rfl rfl rfl rfl rfl ?_
  intro w1 D1
  simp only [Act.put, List.setIfInBounds_toArray, List.set_cons_succ, List.set_cons_zero, List.drop_succ_cons, List.drop_zero]
  have B2 := Lib.hid (ba (bt B1.out D1) (.cells #[.int .i64 u, .int .i64 v] 3))
  have OR := Lib.hid (orI_any w1.heap.size u v (w1.alloc (.cells #[.int .i64 u, .int .i64 v] 3)) (World.cell?_alloc_new w1 _ _ 0) (World.cell?_alloc_new w1 _ _ 1))
  clear D1 B1 lP cP cO
  go_wp2_with fail
  (with_reducible refine OR.out.mono ?_)
  rintro e w2 ⟨rfl, rfl⟩
  go_wp2_with fail
  go_ret
  exact ⟨by rw [V.out]; rfl, B2.out⟩
end Go.Proofs.Ytgfihljledmaaaa
