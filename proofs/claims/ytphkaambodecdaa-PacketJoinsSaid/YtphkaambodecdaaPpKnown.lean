/- Layer 9, the landed program: what a joiner knows of an APID: open, giveUp, add. -/
import Derived.Test.YtphkaambodecdaaPpSplit
import Derived.Test.YtphkaambodecdaaPkAdd
import Derived.Test.YtphkaambodecdaaOwnStr
namespace Go.Proofs.Ytphkaambodecdaa
open Go.RowKit
set_option linter.unusedVariables false
set_option maxRecDepth 100000

/-- The cells of a known; of a piece. -/
def knC (x : Int) (sv : Value) : Nat → Value
  | 0 => .int .i64 x
  | _ => sv
def pcC (wh : Bool) (m : ByteArray) (mi : Int) (br : Bool) : Nat → Value
  | 0 => .bool wh
  | 1 => .string m
  | 2 => .int .i64 mi
  | _ => .bool br
theorem info_byte : (Try.prog.info? 5).map (fun i => (i.zero, i.size, i.bytes)) = some (some (.int .u8 0), 1, 1) := by kernel_rfl
/-- A slice that owns a text. -/
def Txt (w : World) (n0 : Nat) (sv : Value) (tx : List UInt8) : Prop := w.ownsRow n0 5 1 sv tx.length (tx.map fun b => Value.int .u8 b.toNat)
theorem Txt.nil (w : World) (n0 : Nat) : Txt w n0 (.slice none 0 0) [] := ⟨rfl, .inl ⟨rfl, rfl⟩⟩
theorem kopen_any (G : Nat) (x : Int) (a : Option Addr) (n c : Nat) (b : Bool) (hb : decide (0 < n) = b) (w : World) (C : Cel w G 2 (knC x (.slice a n c))) : Calls Try.prog 46 #[.pointer (some ⟨G, 0, none⟩)] w fun e w' => e = .returned (.bool b) ∧ w = w' := by
  have c1 : w.cell? ⟨G, 1, none⟩ = some (.slice a n c) := C.cell (j := 1) (by omega)
  have t : decide ((0 : Int) < (n : Int)) = b := by rw [← hb]; apply decide_eq_decide.2; omega
  clear C
  go_enter Try.func46, Try.ntmps46
  go_wp2_with fail
  go_ret
  exact ⟨by first | rfl | rw [t] | rw [hb], rfl⟩
theorem giveUp_any (G Q : Nat) (x : Int) (sv : Value) (wh : Bool) (m : ByteArray) (mi : Int) (br : Bool) (a : Option Addr) (n c : Nat) (hs : sv = .slice a n c) (hGQ : G ≠ Q) (w : World) (C : Cel w G 2 (knC x sv)) (D : Cel w Q 4 (pcC wh m mi br)) :
    Calls Try.prog 58 #[.pointer (some ⟨G, 0, none⟩), .pointer (some ⟨Q, 0, none⟩)] w fun e w' => e = .returned (.tuple #[]) ∧ Cel w' G 2 (knC x (.slice none 0 0)) ∧ Cel w' Q 4 (pcC wh m mi true) ∧ Buts (fun b => b = G ∨ b = Q) w w' := by
  have HC := Lib.hid C
  have HD := Lib.hid D
  have HN := Lib.hid hGQ
  clear C D hGQ
  go_enter Try.func58, Try.ntmps58
  go_wp2_with (first
    | (refine wpList_set rfl (.store 4 (.tmp 6) (.const (.bool true))) rfl Q 3 4 (.bool true) _ (pcC wh m mi true) HD.out (by omega) (fun j hj => by match j, hj with | 0, _ => rfl | 1, _ => rfl | 2, _ => rfl | 3, _ => rfl) (store_bool rfl rfl rfl (HD.out.cell (j := 3) (by omega)) (HD.out.frozen (j := 3) (by omega))) ?_; intro w1 D1 U1 S1; have C1 := Lib.hid (HC.out.but U1.out HN.out))
    | (refine wpList_set rfl (.store 73 (.tmp 9) (.const (.slice none 0 0))) rfl G 1 2 (.slice none 0 0) _ (knC x (.slice none 0 0)) C1.out (by omega) (fun j hj => by match j, hj with | 0, _ => rfl | 1, _ => rfl) (store_bytes rfl rfl rfl (C1.out.cell (j := 1) (by omega)) (C1.out.frozen (j := 1) (by omega))) ?_; intro w2 C2 U2 S2; have D2 := Lib.hid (D1.out.but U2.out (fun e => HN.out e.symm))))
  go_end0
  exact ⟨rfl, C2.out, D2.out, (Buts.of_but U1.out (.inr rfl)).trans (Buts.of_but U2.out (.inl rfl))⟩
theorem meaning_0 (w : World) : Calls Try.prog 57 #[.int .i64 0] w fun e w' => e = .returned (.tuple #[.bool false, .bool false]) ∧ w = w' := by
  go_enter Try.func57, Try.ntmps57
  go_wp2_with fail
  go_ret2
  exact ⟨rfl, rfl⟩
theorem meaning_1 (w : World) : Calls Try.prog 57 #[.int .i64 1] w fun e w' => e = .returned (.tuple #[.bool true, .bool false]) ∧ w = w' := by
  go_enter Try.func57, Try.ntmps57
  go_wp2_with fail
  go_ret2
  exact ⟨rfl, rfl⟩
theorem meaning_2 (w : World) : Calls Try.prog 57 #[.int .i64 2] w fun e w' => e = .returned (.tuple #[.bool false, .bool true]) ∧ w = w' := by
  go_enter Try.func57, Try.ntmps57
  go_wp2_with fail
  go_ret2
  exact ⟨rfl, rfl⟩
theorem meaning_3 (w : World) : Calls Try.prog 57 #[.int .i64 3] w fun e w' => e = .returned (.tuple #[.bool true, .bool true]) ∧ w = w' := by
  go_enter Try.func57, Try.ntmps57
  go_wp2_with fail
  go_ret2
  exact ⟨rfl, rfl⟩
theorem meaning_any (p : Pkt) (h : 0 ≤ p.fl ∧ p.fl ≤ 3) (w : World) : Calls Try.prog 57 #[.int .i64 p.fl] w fun e w' => e = .returned (.tuple #[.bool (Pk.fstF p), .bool (Pk.lstF p)]) ∧ w = w' := by
  unfold Pk.fstF Pk.lstF
  obtain ⟨f, hf⟩ : ∃ f, p.fl = f := ⟨_, rfl⟩
  rw [hf] at h ⊢
  rcases (show f = 0 ∨ f = 1 ∨ f = 2 ∨ f = 3 by omega) with rfl | rfl | rfl | rfl
  · exact meaning_0 w
  · exact meaning_1 w
  · exact meaning_2 w
  · exact meaning_3 w
/-- What an append leaves: the slice, and where it lies. -/
def AppR (n0 : Nat) (sv : Value) (n : Nat) (xs : List Value) (s : ByteArray) (w0 : World) (v : Value) (w : World) : Prop :=
  w.ownsRow n0 5 1 v (n + s.size) (xs ++ Lib.strCells s) ∧ w0.grownBy w sv.ownBlock ∧ (v.ownBlock = sv.ownBlock ∨ v.ownBlock = some w0.heap.size)
structure ApRegion (G X n sc n0 : Nat) (sa : Option Addr) (xs : List Value) (da : ByteArray) (A : Act) (w0 : World) (s : Nat → Bool) (a : Act) (w : World) : Prop where
  off : Off [36, 37, 38, 39, 40, 41, 42, 43] a A
  before : s 7 = false → w = w0.drew
  t0 : s 0 = true → a.eval (.tmp 36) = .pointer (some ⟨G, 0, none⟩)
  t1 : s 1 = true → a.eval (.tmp 37) = .pointer (some ⟨G, 0, none⟩)
  t2 : s 2 = true → a.eval (.tmp 38) = .pointer (some ⟨G, 0, none⟩)
  t3 : s 3 = true → a.eval (.tmp 39) = .pointer (some ⟨G, 1, none⟩)
  t4 : s 4 = true → a.eval (.tmp 40) = .slice sa n sc
  t5 : s 5 = true → a.eval (.tmp 41) = .pointer (some ⟨X, 4, none⟩)
  t6 : s 6 = true → a.eval (.tmp 42) = .string da
  t7 : s 7 = true → ∃ v7, a.eval (.tmp 43) = v7 ∧ AppR n0 (.slice sa n sc) n xs da w0.drew v7 w
set_option maxHeartbeats 2000000 in
set_option maxRecDepth 100000 in
theorem apRegion {id : Nat} {l : List Oper} {A : Act} {w : World} {Q : Exit → Act → World → Prop} (G X n sc n0 : Nat) (sa : Option Addr) (xs : List Value) (da : ByteArray)
    (i0 : TypeInfo) (hi0 : Try.prog.info? 5 = some i0) (hz0 : i0.zero = some (.int .u8 0)) (hz1 : i0.size = 1) (hz2 : i0.bytes = 1) (hl : n + da.size ≤ 1000000) (hG : w.cell? ⟨G, 1, none⟩ = some (.slice sa n sc)) (hX : w.cell? ⟨X, 4, none⟩ = some (.string da)) (hown : w.drew.ownsRow n0 5 1 (.slice sa n sc) n xs) (hn0 : n0 ≤ w.drew.heap.size)
    (hB : tableH l.toArray 8 (fun i => match i with | 0 => [] | 1 => [] | 2 => [1] | 3 => [2] | 4 => [3] | 5 => [] | 6 => [5] | 7 => [4, 6] | _ => []) (fun i => match i with | 2 => [7] | 3 => [7] | 4 => [7] | 6 => [7] | _ => []) = true)
    (h0 : pick l 0 = some (.move (.tmp 0), some 36))
    (h1 : pick l 1 = some (.move (.tmp 0), some 37))
    (h2 : pick l 2 = some (.nilCheck (.tmp 37), some 38))
    (h3 : pick l 3 = some (.fieldAddr 75 (.tmp 38) 1, some 39))
    (h4 : pick l 4 = some (.load 73 (.tmp 39), some 40))
    (h5 : pick l 5 = some (.fieldAddr 23 (.tmp 4) 4, some 41))
    (h6 : pick l 6 = some (.load 9 (.tmp 41), some 42))
    (h7 : pick l 7 = some (.call { callee := .builtin .append, args := #[.tmp 40, .tmp 42], argTypes := #[73, 9] }, some 43))
    (hs : A.tmps.size = 70)
    (x0 : A.eval (.tmp 0) = .pointer (some ⟨G, 0, none⟩))
    (x4 : A.eval (.tmp 4) = .pointer (some ⟨X, 0, none⟩))
    (h : ∀ v7 w1, AppR n0 (.slice sa n sc) n xs da w.drew v7 w1 → wpList Try.prog l.toArray Q (l.drop 8) ((((((((A.put (some 36) (.pointer (some ⟨G, 0, none⟩))).put (some 37) (.pointer (some ⟨G, 0, none⟩))).put (some 38) (.pointer (some ⟨G, 0, none⟩))).put (some 39) (.pointer (some ⟨G, 1, none⟩))).put (some 40) (.slice sa n sc)).put (some 41) (.pointer (some ⟨X, 4, none⟩))).put (some 42) (.string da)).put (some 43) (v7)) w1) :
    (Code.region id l.toArray true).wp Try.prog Q A w := by
  refine wp_region_head (by kernel_rfl) _ _ _ hB (ApRegion G X n sc n0 sa xs da A w) ⟨Off.refl _ _, fun _ => rfl, by simp, by simp, by simp, by simp, by simp, by simp, by simp, by simp⟩ ?_ ?_
  · intro s a w' S i' o il ho hsi hT K hK
    have sz : a.tmps.size = 70 := by rw [S.off.2.1]; exact hs
    have y0 : a.eval (.tmp 0) = .pointer (some ⟨G, 0, none⟩) := by rw [S.off.eval (by decide)]; exact x0
    have y4 : a.eval (.tmp 4) = .pointer (some ⟨X, 0, none⟩) := by rw [S.off.eval (by decide)]; exact x4
    match i', il, ho, hsi, hT with
    | 0, _, ho, hsi, hT =>
      obtain ⟨e1, e2⟩ := pick_of h0 ho
      refine step_val (v := .pointer (some ⟨G, 0, none⟩)) (by simp only [execOp, e1, y0]; go_simp) (hK _ _ ?_)
      rw [e2]
      exact ⟨S.off.put (by decide) _, fun g => S.before (by simpa using g), fun _ => (eval_put _ _ _ (by omega)).trans rfl, fun g => by rw [eval_put_ne _ _ _ _ (by decide)]; exact S.t1 (by simpa using g), fun g => by rw [eval_put_ne _ _ _ _ (by decide)]; exact S.t2 (by simpa using g), fun g => by rw [eval_put_ne _ _ _ _ (by decide)]; exact S.t3 (by simpa using g), fun g => by rw [eval_put_ne _ _ _ _ (by decide)]; exact S.t4 (by simpa using g), fun g => by rw [eval_put_ne _ _ _ _ (by decide)]; exact S.t5 (by simpa using g), fun g => by rw [eval_put_ne _ _ _ _ (by decide)]; exact S.t6 (by simpa using g), fun g => (S.t7 (by simpa using g)).imp fun b hb => ⟨by rw [eval_put_ne _ _ _ _ (by decide)]; exact hb.1, hb.2⟩⟩
    | 1, _, ho, hsi, hT =>
      obtain ⟨e1, e2⟩ := pick_of h1 ho
      refine step_val (v := .pointer (some ⟨G, 0, none⟩)) (by simp only [execOp, e1, y0]; go_simp) (hK _ _ ?_)
      rw [e2]
      exact ⟨S.off.put (by decide) _, fun g => S.before (by simpa using g), fun g => by rw [eval_put_ne _ _ _ _ (by decide)]; exact S.t0 (by simpa using g), fun _ => (eval_put _ _ _ (by omega)).trans rfl, fun g => by rw [eval_put_ne _ _ _ _ (by decide)]; exact S.t2 (by simpa using g), fun g => by rw [eval_put_ne _ _ _ _ (by decide)]; exact S.t3 (by simpa using g), fun g => by rw [eval_put_ne _ _ _ _ (by decide)]; exact S.t4 (by simpa using g), fun g => by rw [eval_put_ne _ _ _ _ (by decide)]; exact S.t5 (by simpa using g), fun g => by rw [eval_put_ne _ _ _ _ (by decide)]; exact S.t6 (by simpa using g), fun g => (S.t7 (by simpa using g)).imp fun b hb => ⟨by rw [eval_put_ne _ _ _ _ (by decide)]; exact hb.1, hb.2⟩⟩
    | 2, _, ho, hsi, hT =>
      obtain ⟨e1, e2⟩ := pick_of h2 ho
      have D1 : s 1 = true := list_pos hT (d := 1) (by decide)
      have NL : s 7 = false := list_neg hT (k := 7) (by decide)
      have WE := S.before NL
      refine step_val (v := .pointer (some ⟨G, 0, none⟩)) (by simp only [execOp, e1, S.t1 D1]; go_simp) (hK _ _ ?_)
      rw [e2]
      exact ⟨S.off.put (by decide) _, fun g => S.before (by simpa using g), fun g => by rw [eval_put_ne _ _ _ _ (by decide)]; exact S.t0 (by simpa using g), fun g => by rw [eval_put_ne _ _ _ _ (by decide)]; exact S.t1 (by simpa using g), fun _ => (eval_put _ _ _ (by omega)).trans rfl, fun g => by rw [eval_put_ne _ _ _ _ (by decide)]; exact S.t3 (by simpa using g), fun g => by rw [eval_put_ne _ _ _ _ (by decide)]; exact S.t4 (by simpa using g), fun g => by rw [eval_put_ne _ _ _ _ (by decide)]; exact S.t5 (by simpa using g), fun g => by rw [eval_put_ne _ _ _ _ (by decide)]; exact S.t6 (by simpa using g), fun g => (S.t7 (by simpa using g)).imp fun b hb => ⟨by rw [eval_put_ne _ _ _ _ (by decide)]; exact hb.1, hb.2⟩⟩
    | 3, _, ho, hsi, hT =>
      obtain ⟨e1, e2⟩ := pick_of h3 ho
      have D2 : s 2 = true := list_pos hT (d := 2) (by decide)
      have NL : s 7 = false := list_neg hT (k := 7) (by decide)
      have WE := S.before NL
      refine step_val (v := .pointer (some ⟨G, 1, none⟩)) (by simp only [execOp, e1, S.t2 D2]; go_simp) (hK _ _ ?_)
      rw [e2]
      exact ⟨S.off.put (by decide) _, fun g => S.before (by simpa using g), fun g => by rw [eval_put_ne _ _ _ _ (by decide)]; exact S.t0 (by simpa using g), fun g => by rw [eval_put_ne _ _ _ _ (by decide)]; exact S.t1 (by simpa using g), fun g => by rw [eval_put_ne _ _ _ _ (by decide)]; exact S.t2 (by simpa using g), fun _ => (eval_put _ _ _ (by omega)).trans rfl, fun g => by rw [eval_put_ne _ _ _ _ (by decide)]; exact S.t4 (by simpa using g), fun g => by rw [eval_put_ne _ _ _ _ (by decide)]; exact S.t5 (by simpa using g), fun g => by rw [eval_put_ne _ _ _ _ (by decide)]; exact S.t6 (by simpa using g), fun g => (S.t7 (by simpa using g)).imp fun b hb => ⟨by rw [eval_put_ne _ _ _ _ (by decide)]; exact hb.1, hb.2⟩⟩
    | 4, _, ho, hsi, hT =>
      obtain ⟨e1, e2⟩ := pick_of h4 ho
      have D3 : s 3 = true := list_pos hT (d := 3) (by decide)
      have NL : s 7 = false := list_neg hT (k := 7) (by decide)
      have WE := S.before NL
      have cl : w'.cell? ⟨G, 1, none⟩ = some (.slice sa n sc) := by rw [WE]; exact hG
      refine step_val (v := .slice sa n sc) (by simp only [execOp, e1, S.t3 D3]; go_simp) (hK _ _ ?_)
      rw [e2]
      exact ⟨S.off.put (by decide) _, fun g => S.before (by simpa using g), fun g => by rw [eval_put_ne _ _ _ _ (by decide)]; exact S.t0 (by simpa using g), fun g => by rw [eval_put_ne _ _ _ _ (by decide)]; exact S.t1 (by simpa using g), fun g => by rw [eval_put_ne _ _ _ _ (by decide)]; exact S.t2 (by simpa using g), fun g => by rw [eval_put_ne _ _ _ _ (by decide)]; exact S.t3 (by simpa using g), fun _ => (eval_put _ _ _ (by omega)).trans rfl, fun g => by rw [eval_put_ne _ _ _ _ (by decide)]; exact S.t5 (by simpa using g), fun g => by rw [eval_put_ne _ _ _ _ (by decide)]; exact S.t6 (by simpa using g), fun g => (S.t7 (by simpa using g)).imp fun b hb => ⟨by rw [eval_put_ne _ _ _ _ (by decide)]; exact hb.1, hb.2⟩⟩
    | 5, _, ho, hsi, hT =>
      obtain ⟨e1, e2⟩ := pick_of h5 ho
      refine step_val (v := .pointer (some ⟨X, 4, none⟩)) (by simp only [execOp, e1, y4]; go_simp) (hK _ _ ?_)
      rw [e2]
      exact ⟨S.off.put (by decide) _, fun g => S.before (by simpa using g), fun g => by rw [eval_put_ne _ _ _ _ (by decide)]; exact S.t0 (by simpa using g), fun g => by rw [eval_put_ne _ _ _ _ (by decide)]; exact S.t1 (by simpa using g), fun g => by rw [eval_put_ne _ _ _ _ (by decide)]; exact S.t2 (by simpa using g), fun g => by rw [eval_put_ne _ _ _ _ (by decide)]; exact S.t3 (by simpa using g), fun g => by rw [eval_put_ne _ _ _ _ (by decide)]; exact S.t4 (by simpa using g), fun _ => (eval_put _ _ _ (by omega)).trans rfl, fun g => by rw [eval_put_ne _ _ _ _ (by decide)]; exact S.t6 (by simpa using g), fun g => (S.t7 (by simpa using g)).imp fun b hb => ⟨by rw [eval_put_ne _ _ _ _ (by decide)]; exact hb.1, hb.2⟩⟩
    | 6, _, ho, hsi, hT =>
      obtain ⟨e1, e2⟩ := pick_of h6 ho
      have D5 : s 5 = true := list_pos hT (d := 5) (by decide)
      have NL : s 7 = false := list_neg hT (k := 7) (by decide)
      have WE := S.before NL
      have cl : w'.cell? ⟨X, 4, none⟩ = some (.string da) := by rw [WE]; exact hX
      refine step_val (v := .string da) (by simp only [execOp, e1, S.t5 D5]; go_simp) (hK _ _ ?_)
      rw [e2]
      exact ⟨S.off.put (by decide) _, fun g => S.before (by simpa using g), fun g => by rw [eval_put_ne _ _ _ _ (by decide)]; exact S.t0 (by simpa using g), fun g => by rw [eval_put_ne _ _ _ _ (by decide)]; exact S.t1 (by simpa using g), fun g => by rw [eval_put_ne _ _ _ _ (by decide)]; exact S.t2 (by simpa using g), fun g => by rw [eval_put_ne _ _ _ _ (by decide)]; exact S.t3 (by simpa using g), fun g => by rw [eval_put_ne _ _ _ _ (by decide)]; exact S.t4 (by simpa using g), fun g => by rw [eval_put_ne _ _ _ _ (by decide)]; exact S.t5 (by simpa using g), fun _ => (eval_put _ _ _ (by omega)).trans rfl, fun g => (S.t7 (by simpa using g)).imp fun b hb => ⟨by rw [eval_put_ne _ _ _ _ (by decide)]; exact hb.1, hb.2⟩⟩
    | 7, _, ho, hsi, hT =>
      obtain ⟨e1, e2⟩ := pick_of h7 ho
      have D4 : s 4 = true := list_pos hT (d := 4) (by decide)
      have D6 : s 6 = true := list_pos hT (d := 6) (by decide)
      have WE := S.before hsi
      subst WE
      refine step_append_string (.tmp 40) (.tmp 42) 73 9 e1 n0 5 i0 Try.underlying73 Try.underlying9 hi0 hz0 hz1 hz2 (.slice sa n sc) n xs (S.t4 D4) hown da (S.t6 D6) (by unfold maxLen; omega) (by omega) hn0 (fun v w2 FF => hK _ _ ?_)
      rw [e2]
      exact ⟨S.off.put (by decide) _, fun g => absurd g (by simp), fun g => by rw [eval_put_ne _ _ _ _ (by decide)]; exact S.t0 (by simpa using g), fun g => by rw [eval_put_ne _ _ _ _ (by decide)]; exact S.t1 (by simpa using g), fun g => by rw [eval_put_ne _ _ _ _ (by decide)]; exact S.t2 (by simpa using g), fun g => by rw [eval_put_ne _ _ _ _ (by decide)]; exact S.t3 (by simpa using g), fun g => by rw [eval_put_ne _ _ _ _ (by decide)]; exact S.t4 (by simpa using g), fun g => by rw [eval_put_ne _ _ _ _ (by decide)]; exact S.t5 (by simpa using g), fun g => by rw [eval_put_ne _ _ _ _ (by decide)]; exact S.t6 (by simpa using g), fun _ => ⟨_, (eval_put _ _ _ (by omega)).trans rfl, FF⟩⟩
    | _ + 8, il, _, _, _ => exact absurd il (by omega)
  · intro s a w' S hall
    have a0 := hall 0 (by omega)
    have a1 := hall 1 (by omega)
    have a2 := hall 2 (by omega)
    have a3 := hall 3 (by omega)
    have a4 := hall 4 (by omega)
    have a5 := hall 5 (by omega)
    have a6 := hall 6 (by omega)
    have a7 := hall 7 (by omega)
    have e := off_norm _ (by intro d hd; simp at hd; omega) S.off
    obtain ⟨v7, M7, F7⟩ := S.t7 a7
    simp only [List.foldl, S.t0 a0, S.t1 a1, S.t2 a2, S.t3 a3, S.t4 a4, S.t5 a5, S.t6 a6, M7] at e
    rw [e]
    exact h _ _ F7
/-- What add leaves. -/
structure AddP (n0 G Q : Nat) (x : Int) (sv : Value) (tx : List UInt8) (mi : Int) (p : Pkt) (w : World) (e : Ending) (w' : World) : Prop where
  ret : e = .returned (.tuple #[])
  res : ∃ a n c, Cel w' G 2 (knC x (.slice a n c)) ∧ Txt w' n0 (.slice a n c) (Pk.addT tx mi p) ∧ n = (Pk.addT tx mi p).length ∧ (∀ k, (Value.slice a n c).ownBlock = some k → sv.ownBlock = some k ∨ w.heap.size ≤ k)
  pc : Cel w' Q 4 (pcC (Pk.addP tx mi p).whole (bs (Pk.addP tx mi p).msg) mi (Pk.addP tx mi p).broken)
  buts : Buts (fun b => b = G ∨ b = Q ∨ sv.ownBlock = some b) w w'
theorem addP_missed (tx : List UInt8) (mi : Int) (p : Pkt) : (Pk.addP tx mi p).missed = mi := by
  unfold Pk.addP
  split
  · rfl
  · split
    · rfl
    · split <;> rfl
end Go.Proofs.Ytphkaambodecdaa
