/- TmFlR -/
import Derived.Test.YtgcjfiablcjfgaaTmDuo
import Derived.Test.YtgcjfiablcjfgaaTmOps
/- TmframeFills' region in which both fillers are given a packet, in any order. -/
namespace Go.Proofs.Ytgcjfiablcjfgaa
open Go.RowKit
set_option linter.unusedVariables false
set_option maxRecDepth 100000

structure TfaRegion (X Y V : Nat) (c : Int) (p : ByteArray) (W : Bool → Bool → World → Prop) (A : Act) (w0 : World) (s : Nat → Bool) (a : Act) (w : World) : Prop where
  off : Off [116, 117, 118, 119, 120, 121, 122, 123] a A
  before : W (s 3) (s 7) w
  t0 : s 0 = true → a.eval (.tmp 116) = .pointer (some ⟨X, 0, none⟩)
  t1 : s 1 = true → a.eval (.tmp 117) = .pointer (some ⟨V, 1, none⟩)
  t2 : s 2 = true → a.eval (.tmp 118) = .string p
  t3 : s 3 = true → a.eval (.tmp 119) = .int .i64 c
  t4 : s 4 = true → a.eval (.tmp 120) = .pointer (some ⟨Y, 0, none⟩)
  t5 : s 5 = true → a.eval (.tmp 121) = .pointer (some ⟨V, 1, none⟩)
  t6 : s 6 = true → a.eval (.tmp 122) = .string p
  t7 : s 7 = true → a.eval (.tmp 123) = .int .i64 c
set_option maxHeartbeats 2000000 in
set_option maxRecDepth 100000 in
theorem tfaRegion {id : Nat} {l : List Oper} {A : Act} {w : World} {Q : Exit → Act → World → Prop} (X Y V : Nat) (c : Int) (p : ByteArray) (W : Bool → Bool → World → Prop)
    (hW0 : W false false w.drew)
    (hV : ∀ a b w', W a b w' → w'.cell? ⟨V, 1, none⟩ = some (.string p))
    (hX : ∀ b w', W false b w' → Calls Try.prog 17 #[.pointer (some ⟨X, 0, none⟩), .string p] w' fun e w2 => e = .returned (.int .i64 c) ∧ W true b w2)
    (hY : ∀ b w', W b false w' → Calls Try.prog 24 #[.pointer (some ⟨Y, 0, none⟩), .string p] w' fun e w2 => e = .returned (.int .i64 c) ∧ W b true w2)
    (hB : tableH l.toArray 8 (fun i => match i with | 0 => [] | 1 => [] | 2 => [1] | 3 => [0, 2] | 4 => [] | 5 => [] | 6 => [5] | 7 => [4, 6] | _ => []) (fun _ => []) = true)
    (h0 : pick l 0 = some (.move (.tmp 5), some 116))
    (h1 : pick l 1 = some (.fieldAddr 52 (.tmp 18) 1, some 117))
    (h2 : pick l 2 = some (.load 9 (.tmp 117), some 118))
    (h3 : pick l 3 = some (.call { callee := .value (.func 17), args := #[.tmp 116, .tmp 118], argTypes := #[34, 9] }, some 119))
    (h4 : pick l 4 = some (.move (.tmp 7), some 120))
    (h5 : pick l 5 = some (.fieldAddr 52 (.tmp 18) 1, some 121))
    (h6 : pick l 6 = some (.load 9 (.tmp 121), some 122))
    (h7 : pick l 7 = some (.call { callee := .value (.func 24), args := #[.tmp 120, .tmp 122], argTypes := #[37, 9] }, some 123))
    (hs : A.tmps.size = 167)
    (x5 : A.eval (.tmp 5) = .pointer (some ⟨X, 0, none⟩))
    (x7 : A.eval (.tmp 7) = .pointer (some ⟨Y, 0, none⟩))
    (x18 : A.eval (.tmp 18) = .pointer (some ⟨V, 0, none⟩))
    (h : ∀ w1, W true true w1 → wpList Try.prog l.toArray Q (l.drop 8) ((((((((A.put (some 116) (.pointer (some ⟨X, 0, none⟩))).put (some 117) (.pointer (some ⟨V, 1, none⟩))).put (some 118) (.string p)).put (some 119) (.int .i64 c)).put (some 120) (.pointer (some ⟨Y, 0, none⟩))).put (some 121) (.pointer (some ⟨V, 1, none⟩))).put (some 122) (.string p)).put (some 123) (.int .i64 c)) w1) :
    (Code.region id l.toArray true).wp Try.prog Q A w := by
  refine wp_region_head (by kernel_rfl) _ _ _ hB (TfaRegion X Y V c p W A w) ⟨Off.refl _ _, hW0, by simp, by simp, by simp, by simp, by simp, by simp, by simp, by simp⟩ ?_ ?_
  · intro s a w' S i' o il ho hsi hT K hK
    have sz : a.tmps.size = 167 := by rw [S.off.2.1]; exact hs
    have y5 : a.eval (.tmp 5) = .pointer (some ⟨X, 0, none⟩) := by rw [S.off.eval (by decide)]; exact x5
    have y7 : a.eval (.tmp 7) = .pointer (some ⟨Y, 0, none⟩) := by rw [S.off.eval (by decide)]; exact x7
    have y18 : a.eval (.tmp 18) = .pointer (some ⟨V, 0, none⟩) := by rw [S.off.eval (by decide)]; exact x18
    match i', il, ho, hsi, hT with
    | 0, _, ho, hsi, hT =>
      obtain ⟨e1, e2⟩ := pick_of h0 ho
      have BW := S.before
      refine step_val (v := .pointer (some ⟨X, 0, none⟩)) (by simp only [execOp, e1, y5]; go_simp) (hK _ _ ?_)
      rw [e2]
      exact ⟨S.off.put (by decide) _, by simpa using S.before, fun _ => (eval_put _ _ _ (by omega)).trans rfl, kp S.t1, kp S.t2, kp S.t3, kp S.t4, kp S.t5, kp S.t6, kp S.t7⟩
    | 1, _, ho, hsi, hT =>
      obtain ⟨e1, e2⟩ := pick_of h1 ho
      have BW := S.before
      refine step_val (v := .pointer (some ⟨V, 1, none⟩)) (by simp only [execOp, e1, y18]; go_simp) (hK _ _ ?_)
      rw [e2]
      exact ⟨S.off.put (by decide) _, by simpa using S.before, kp S.t0, fun _ => (eval_put _ _ _ (by omega)).trans rfl, kp S.t2, kp S.t3, kp S.t4, kp S.t5, kp S.t6, kp S.t7⟩
    | 2, _, ho, hsi, hT =>
      obtain ⟨e1, e2⟩ := pick_of h2 ho
      have D1 : s 1 = true := list_pos hT (d := 1) (by decide)
      have BW := S.before
      have cl := hV _ _ _ BW
      refine step_val (v := .string p) (by simp only [execOp, e1, S.t1 D1]; go_simp) (hK _ _ ?_)
      rw [e2]
      exact ⟨S.off.put (by decide) _, by simpa using S.before, kp S.t0, kp S.t1, fun _ => (eval_put _ _ _ (by omega)).trans rfl, kp S.t3, kp S.t4, kp S.t5, kp S.t6, kp S.t7⟩
    | 3, _, ho, hsi, hT =>
      obtain ⟨e1, e2⟩ := pick_of h3 ho
      have D0 : s 0 = true := list_pos hT (d := 0) (by decide)
      have D2 : s 2 = true := list_pos hT (d := 2) (by decide)
      have BW := S.before
      rw [hsi] at BW
      refine step_call 17 (fun args w => by go_simp) _ _ e1 #[.pointer (some ⟨X, 0, none⟩), .string p] (by simp only [List.map_toArray, List.map_cons, List.map_nil, S.t0 D0, S.t2 D2] <;> rfl) ((hX _ w' BW).mono ?_)
      rintro e w2 ⟨rfl, WW0⟩
      have WW : W (if 3 = 3 then true else s 3) (if 7 = 3 then true else s 7) w2 := by simpa using WW0
      refine ⟨_, rfl, hK _ _ ?_⟩
      rw [e2]
      exact ⟨S.off.put (by decide) _, WW, kp S.t0, kp S.t1, kp S.t2, fun _ => (eval_put _ _ _ (by omega)).trans rfl, kp S.t4, kp S.t5, kp S.t6, kp S.t7⟩
    | 4, _, ho, hsi, hT =>
      obtain ⟨e1, e2⟩ := pick_of h4 ho
      have BW := S.before
      refine step_val (v := .pointer (some ⟨Y, 0, none⟩)) (by simp only [execOp, e1, y7]; go_simp) (hK _ _ ?_)
      rw [e2]
      exact ⟨S.off.put (by decide) _, by simpa using S.before, kp S.t0, kp S.t1, kp S.t2, kp S.t3, fun _ => (eval_put _ _ _ (by omega)).trans rfl, kp S.t5, kp S.t6, kp S.t7⟩
    | 5, _, ho, hsi, hT =>
      obtain ⟨e1, e2⟩ := pick_of h5 ho
      have BW := S.before
      refine step_val (v := .pointer (some ⟨V, 1, none⟩)) (by simp only [execOp, e1, y18]; go_simp) (hK _ _ ?_)
      rw [e2]
      exact ⟨S.off.put (by decide) _, by simpa using S.before, kp S.t0, kp S.t1, kp S.t2, kp S.t3, kp S.t4, fun _ => (eval_put _ _ _ (by omega)).trans rfl, kp S.t6, kp S.t7⟩
    | 6, _, ho, hsi, hT =>
      obtain ⟨e1, e2⟩ := pick_of h6 ho
      have D5 : s 5 = true := list_pos hT (d := 5) (by decide)
      have BW := S.before
      have cl := hV _ _ _ BW
      refine step_val (v := .string p) (by simp only [execOp, e1, S.t5 D5]; go_simp) (hK _ _ ?_)
      rw [e2]
      exact ⟨S.off.put (by decide) _, by simpa using S.before, kp S.t0, kp S.t1, kp S.t2, kp S.t3, kp S.t4, kp S.t5, fun _ => (eval_put _ _ _ (by omega)).trans rfl, kp S.t7⟩
    | 7, _, ho, hsi, hT =>
      obtain ⟨e1, e2⟩ := pick_of h7 ho
      have D4 : s 4 = true := list_pos hT (d := 4) (by decide)
      have D6 : s 6 = true := list_pos hT (d := 6) (by decide)
      have BW := S.before
      rw [hsi] at BW
      refine step_call 24 (fun args w => by go_simp) _ _ e1 #[.pointer (some ⟨Y, 0, none⟩), .string p] (by simp only [List.map_toArray, List.map_cons, List.map_nil, S.t4 D4, S.t6 D6] <;> rfl) ((hY _ w' BW).mono ?_)
      rintro e w2 ⟨rfl, WW0⟩
      have WW : W (if 3 = 7 then true else s 3) (if 7 = 7 then true else s 7) w2 := by simpa using WW0
      refine ⟨_, rfl, hK _ _ ?_⟩
      rw [e2]
      exact ⟨S.off.put (by decide) _, WW, kp S.t0, kp S.t1, kp S.t2, kp S.t3, kp S.t4, kp S.t5, kp S.t6, fun _ => (eval_put _ _ _ (by omega)).trans rfl⟩
    | _ + 8, il, _, _, _ => exact absurd il (by omega)
  · intro s a w' S hall
    have a0 := hall 0 (by omega)
    have a1 := hall 1 (by omega)
    have a2 := hall 2 (by omega)
    have a3 := hall 3 (by omega)
    have a4 := hall 4 (by omega)
    have a5 := hall 5 (by omega)
    have a6 := hall 6 (by omega)
    have a7 := hall 7 (by omega)
    have e := off_norm _ (by intro d hd; simp at hd; omega) S.off
    simp only [List.foldl, S.t0 a0, S.t1 a1, S.t2 a2, S.t3 a3, S.t4 a4, S.t5 a5, S.t6 a6, S.t7 a7] at e
    have BW := S.before
    rw [a3, a7] at BW
    rw [e]
    exact h _ BW
end Go.Proofs.Ytgcjfiablcjfgaa
