/- BlkSp, BlkPt, BlkWr, BlkUn, BlkAwake, BlkLaw as one text. -/
import Derived.Test.YtlpjhmafplljaaaGreatDoorBlkSt
import Derived.Test.YtlpjhmafplljaaaGreatDoorRowKit
import Derived.Test.YtlpjhmafplljaaaGreatDoorCards
import Derived.Test.YtlpjhmafplljaaaGreatDoorTie
import Derived.LaidMore
import Derived.Lay
import Derived.SevenTiedAt
/- The contract of block's spread over this program. -/
namespace Go.Proofs.YtlpjhmafplljaaaGreatDoor
open Go.RowKit
set_option linter.unusedVariables false

/-- What spread leaves behind: the first k bytes lie at the places j, j + z, .. -/
def sprd (F g : Nat → BitVec 8) (j z k : Nat) (p : Nat) : BitVec 8 := if p % z = j ∧ p / z < k then g (p / z) else F p
theorem sprd_zero (F g : Nat → BitVec 8) (j z p : Nat) : sprd F g j z 0 p = F p := if_neg (fun q => absurd q.2 (Nat.not_lt_zero _))
theorem spr_div {j z i : Nat} (hj : j < z) : (j + i * z) % z = j ∧ (j + i * z) / z = i := ⟨by rw [Nat.add_mul_mod_self_right, Nat.mod_eq_of_lt hj], by rw [Nat.add_mul_div_right _ _ (by omega), Nat.div_eq_of_lt hj, Nat.zero_add]⟩
theorem sprd_here {F g : Nat → BitVec 8} {j z i : Nat} (hj : j < z) : sprd F g j z (i + 1) (j + i * z) = g i := by
  obtain ⟨h1, h2⟩ := spr_div (i := i) hj
  unfold sprd
  rw [h2, if_pos ⟨h1, by omega⟩]
theorem sprd_there {F g : Nat → BitVec 8} {j z i p : Nat} (hp : p ≠ j + i * z) : sprd F g j z (i + 1) p = sprd F g j z i p := by
  unfold sprd
  by_cases h : p % z = j ∧ p / z < i
  · rw [if_pos h, if_pos ⟨h.1, by omega⟩]
  · rw [if_neg h, if_neg (fun q => h ⟨q.1, by
      have := Nat.div_add_mod p z
      rw [q.1] at this
      rcases Nat.lt_or_ge (p / z) i with h1 | h1
      · exact h1
      · have e : p / z = i := by have := q.2; omega
        rw [e, Nat.mul_comm] at this
        omega⟩)]
set_option maxRecDepth 100000 in
theorem spread_any (b n cap j z m : Nat) (F : Nat → BitVec 8) (s : ByteArray) (hm : s.size = m) (hj : j < z) (hd : z ≤ 1000) (hn : n ≤ 400000) (hk : ∀ i, i < m → j + i * z < n) (w : World) (H : NumsK .u8 w b n (fun p => (F p).toNat)) :
    Calls Tryz.prog 24 #[.slice (some ⟨b, 0, none⟩) n cap, .int .i64 (j : Nat), .int .i64 (z : Nat), .string s] w fun e w' => e = .returned (.tuple #[]) ∧ NumsK .u8 w' b n (fun p => (sprd F (Gal.co s.data.toList) j z m p).toNat) ∧ But b w w' := by
  have HA := Lib.hid H
  have HK := Lib.hid hk
  have HM := Lib.hid hm
  have mn : m ≤ 400000 := by
    rcases Nat.eq_zero_or_pos m with h | h
    · omega
    · have := hk (m - 1) (by omega)
      have := Nat.mul_le_mul_left (m - 1) (show 1 ≤ z by omega)
      omega
  have hs := hm
  clear H hk hm
  go_enter Tryz.func24, Tryz.ntmps24
  go_wp2_with fail
  go_loopw [11] (fun u wr => ∃ k : Nat, k ≤ m ∧ u = .int .i64 (k : Nat) ∧ NumsK .u8 wr b n (fun p => (sprd F (Gal.co s.data.toList) j z k p).toNat) ∧ But b w wr) (fun u _ => m - (intOf u).toNat)
  case atStart => exact ⟨0, Nat.zero_le _, rfl, HA.out.congr (fun p _ => by rw [sprd_zero]), But.refl _ _⟩
  case round =>
    obtain ⟨k, hk, rfl, hE, hB⟩ := hrel
    have HE := Lib.hid hE
    have HB := Lib.hid hB
    clear hE hB
    by_cases hlt : k < m
    · have kn := HK.out k hlt
      have cp := HE.out.cell kn
      have fp := HE.out.frozen kn
      have E7 := Lib.hid (HE.out.set (g := fun p => (sprd F (Gal.co s.data.toList) j z (k + 1) p).toNat) (j + k * z) (Gal.co s.data.toList k).toNat kn (by show (sprd F (Gal.co s.data.toList) j z (k + 1) (j + k * z)).toNat = _; rw [sprd_here hj]) (fun p _ hp => by show (sprd F (Gal.co s.data.toList) j z (k + 1) p).toNat = _; rw [sprd_there hp]))
      have B7 := Lib.hid (HB.out.setCell (j + k * z) (.int .u8 ((Gal.co s.data.toList k).toNat : Nat)))
      have bc := byte_co s k (by rw [HM.out]; exact hlt)
      obtain ⟨old, hold⟩ : ∃ o, (sprd F (Gal.co s.data.toList) j z k (j + k * z)).toNat = o := ⟨_, rfl⟩
      rw [hold] at cp
      obtain ⟨t, ht⟩ : ∃ t, k * z = t := ⟨_, rfl⟩
      have e2 : (k : Int) * (z : Int) = (t : Int) := by rw [← ht]; exact (Int.natCast_mul k z).symm
      rw [ht] at E7 B7 kn cp fp
      obtain ⟨q, hq⟩ : ∃ q, j + t = q := ⟨_, rfl⟩
      have e3 : (j : Int) + (t : Int) = (q : Int) := by omega
      rw [hq] at E7 B7 kn cp fp
      clear hold HE HB ht hq HK
      go_wp2_with fail
      go_roundw
      case rel => exact ⟨k + 1, by omega, by go_num, E7.out, B7.out⟩
      case measure => simp [intOf]; omega
    · obtain rfl : k = m := by omega
      go_wp2_with fail
      go_end0
      exact ⟨rfl, HE.out, HB.out⟩
end Go.Proofs.YtlpjhmafplljaaaGreatDoor
/- The contract of block's part over this program. -/
namespace Go.Proofs.YtlpjhmafplljaaaGreatDoor
open Go.RowKit
set_option linter.unusedVariables false

theorem parts_mul (k j z : Nat) (hj : j < z) : Blk.parts (k * z) j z = k := by
  have h1 : ¬ k < Blk.parts (k * z) j z := fun q => by have := (Blk.parts_iff (k * z) j z k hj).2 q; omega
  rcases Nat.lt_or_ge (Blk.parts (k * z) j z) k with h | h
  · exfalso
    refine absurd ((Blk.parts_iff (k * z) j z _ hj).1 (?_ : j + Blk.parts (k * z) j z * z < k * z)) (Nat.lt_irrefl _)
    have := Nat.mul_le_mul_right z (show Blk.parts (k * z) j z + 1 ≤ k from h)
    rw [Nat.add_mul, Nat.one_mul] at this
    omega
  · omega
theorem own_bools {w : World} {base b n cap : Nat} {f : Nat → Bool} (h : w.ownsRow base 4 1 (.slice (some ⟨b, 0, none⟩) n cap) n (bvals f n)) : Bools w b n f :=
  ⟨(own_at h).2.1, fun j hj => (own_at h).2.2.2 j _ (bvals_at f hj)⟩
/-- What belongs to the code block j of z. -/
def prt {α : Type} (N j z : Nat) (f : Nat → α) : Nat → α := jn (Blk.parts N j z) (fun k => f (j + k * z)) (fun k => f (N + (j + k * z)))
/-- What part does. -/
def PrtP (m : Nat) (U1 : Nat → BitVec 8) (U2 : Nat → Bool) (w : World) (e : Ending) (w' : World) : Prop :=
  ∃ b cb eb ce, e = .returned (.agg #[.slice (some ⟨b, 0, none⟩) m cb, .slice (some ⟨eb, 0, none⟩) m ce]) ∧ Wd w' b cb eb ce m U1 U2 ∧ Below w.heap.size w w'
structure PartRegion (c3 b n cb eb ce N j z B0 M : Nat) (U1 : Nat → BitVec 8) (U2 : Nat → Bool) (A : Act) (w0 : World) (s : Nat → Bool) (a : Act) (w : World) : Prop where
  off : Off [14, 15, 16, 17, 18, 19, 20, 21, 22, 23, 24, 25] a A
  before : Below w0.heap.size w0 w
  t0 : s 0 = true → a.eval (.tmp 14) = .pointer (some ⟨c3, 0, none⟩)
  t1 : s 1 = true → a.eval (.tmp 15) = .slice (some ⟨b, 0, none⟩) n cb
  t2 : s 2 = true → a.eval (.tmp 16) = .int .i64 (N : Nat)
  t3 : s 3 = true → a.eval (.tmp 17) = .int .i64 (j : Nat)
  t4 : s 4 = true → a.eval (.tmp 18) = .int .i64 (z : Nat)
  t5 : s 5 = true → ∃ v5, a.eval (.tmp 19) = v5 ∧ StrByte B0 (M + 8) U1 v5 w
  t6 : s 6 = true → a.eval (.tmp 20) = .pointer (some ⟨c3, 1, none⟩)
  t7 : s 7 = true → a.eval (.tmp 21) = .slice (some ⟨eb, 0, none⟩) n ce
  t8 : s 8 = true → a.eval (.tmp 22) = .int .i64 (N : Nat)
  t9 : s 9 = true → a.eval (.tmp 23) = .int .i64 (j : Nat)
  t10 : s 10 = true → a.eval (.tmp 24) = .int .i64 (z : Nat)
  t11 : s 11 = true → ∃ v11, a.eval (.tmp 25) = v11 ∧ StrBool B0 (M + 8) U2 v11 w
set_option maxHeartbeats 2000000 in
set_option maxRecDepth 100000 in
theorem partRegion {id : Nat} {l : List Oper} {A : Act} {w : World} {Q : Exit → Act → World → Prop} (c3 b n cb eb ce N j z B0 M : Nat) (U1 : Nat → BitVec 8) (U2 : Nat → Bool)
    (hcx : c3 < w.heap.size) (hc0 : w.cell? ⟨c3, 0, none⟩ = some (.slice (some ⟨b, 0, none⟩) n cb)) (hc1 : w.cell? ⟨c3, 1, none⟩ = some (.slice (some ⟨eb, 0, none⟩) n ce))
    (hS1 : ∀ w', Below w.heap.size w w' → Calls Tryz.prog 55 #[.slice (some ⟨b, 0, none⟩) n cb, .int .i64 (N : Nat), .int .i64 (j : Nat), .int .i64 (z : Nat)] w' fun e w2 => ∃ v, e = .returned v ∧ StrByte B0 (M + 8) U1 v w2 ∧ Below w'.heap.size w' w2)
    (hS2 : ∀ w', Below w.heap.size w w' → Calls Tryz.prog 56 #[.slice (some ⟨eb, 0, none⟩) n ce, .int .i64 (N : Nat), .int .i64 (j : Nat), .int .i64 (z : Nat)] w' fun e w2 => ∃ v, e = .returned v ∧ StrBool B0 (M + 8) U2 v w2 ∧ Below w'.heap.size w' w2)
    (hB : tableH l.toArray 12 (fun i => match i with | 0 => [] | 1 => [0] | 2 => [] | 3 => [] | 4 => [] | 5 => [1, 2, 3, 4] | 6 => [] | 7 => [6] | 8 => [] | 9 => [] | 10 => [] | 11 => [7, 8, 9, 10] | _ => []) (fun _ => []) = true)
    (h0 : pick l 0 = some (.fieldAddr 53 (.tmp 3) 0, some 14))
    (h1 : pick l 1 = some (.load 41 (.tmp 14), some 15))
    (h2 : pick l 2 = some (.move (.tmp 7), some 16))
    (h3 : pick l 3 = some (.move (.tmp 1), some 17))
    (h4 : pick l 4 = some (.move (.tmp 2), some 18))
    (h5 : pick l 5 = some (.call { callee := .value (.func 55), args := #[.tmp 15, .tmp 16, .tmp 17, .tmp 18], argTypes := #[41, 3, 3, 3] }, some 19))
    (h6 : pick l 6 = some (.fieldAddr 53 (.tmp 3) 1, some 20))
    (h7 : pick l 7 = some (.load 51 (.tmp 20), some 21))
    (h8 : pick l 8 = some (.move (.tmp 7), some 22))
    (h9 : pick l 9 = some (.move (.tmp 1), some 23))
    (h10 : pick l 10 = some (.move (.tmp 2), some 24))
    (h11 : pick l 11 = some (.call { callee := .value (.func 56), args := #[.tmp 21, .tmp 22, .tmp 23, .tmp 24], argTypes := #[51, 3, 3, 3] }, some 25))
    (hs : A.tmps.size = 27)
    (x3 : A.eval (.tmp 3) = .pointer (some ⟨c3, 0, none⟩))
    (x7 : A.eval (.tmp 7) = .int .i64 (N : Nat))
    (x1 : A.eval (.tmp 1) = .int .i64 (j : Nat))
    (x2 : A.eval (.tmp 2) = .int .i64 (z : Nat))
    (h : ∀ v5 v11 w1, Below w.heap.size w w1 → StrByte B0 (M + 8) U1 v5 w1 → StrBool B0 (M + 8) U2 v11 w1 → wpList Tryz.prog l.toArray Q (l.drop 12) ((((((((((((A.put (some 14) (.pointer (some ⟨c3, 0, none⟩))).put (some 15) (.slice (some ⟨b, 0, none⟩) n cb)).put (some 16) (.int .i64 (N : Nat))).put (some 17) (.int .i64 (j : Nat))).put (some 18) (.int .i64 (z : Nat))).put (some 19) (v5)).put (some 20) (.pointer (some ⟨c3, 1, none⟩))).put (some 21) (.slice (some ⟨eb, 0, none⟩) n ce)).put (some 22) (.int .i64 (N : Nat))).put (some 23) (.int .i64 (j : Nat))).put (some 24) (.int .i64 (z : Nat))).put (some 25) (v11)) w1) :
    (Code.region id l.toArray true).wp Tryz.prog Q A w := by
  refine wp_region_head (by kernel_rfl) _ _ _ hB (PartRegion c3 b n cb eb ce N j z B0 M U1 U2 A w) ⟨Off.refl _ _, (Below.refl _ _).drew, by simp, by simp, by simp, by simp, by simp, by simp, by simp, by simp, by simp, by simp, by simp, by simp⟩ ?_ ?_
  · intro s a w' S i' o il ho hsi hT K hK
    have sz : a.tmps.size = 27 := by rw [S.off.2.1]; exact hs
    have y3 : a.eval (.tmp 3) = .pointer (some ⟨c3, 0, none⟩) := by rw [S.off.eval (by decide)]; exact x3
    have y7 : a.eval (.tmp 7) = .int .i64 (N : Nat) := by rw [S.off.eval (by decide)]; exact x7
    have y1 : a.eval (.tmp 1) = .int .i64 (j : Nat) := by rw [S.off.eval (by decide)]; exact x1
    have y2 : a.eval (.tmp 2) = .int .i64 (z : Nat) := by rw [S.off.eval (by decide)]; exact x2
    match i', il, ho, hsi, hT with
    | 0, _, ho, hsi, hT =>
      obtain ⟨e1, e2⟩ := pick_of h0 ho
      have BW := S.before
      refine step_val (v := .pointer (some ⟨c3, 0, none⟩)) (by simp only [execOp, e1, y3]; go_simp) (hK _ _ ?_)
      rw [e2]
      exact ⟨S.off.put (by decide) _, S.before, fun _ => (eval_put _ _ _ (by omega)).trans rfl, kp S.t1, kp S.t2, kp S.t3, kp S.t4, fun g => (S.t5 (by simpa using g)).imp fun b hb => ⟨by rw [eval_put_ne _ _ _ _ (by decide)]; exact hb.1, hb.2⟩, kp S.t6, kp S.t7, kp S.t8, kp S.t9, kp S.t10, fun g => (S.t11 (by simpa using g)).imp fun b hb => ⟨by rw [eval_put_ne _ _ _ _ (by decide)]; exact hb.1, hb.2⟩⟩
    | 1, _, ho, hsi, hT =>
      obtain ⟨e1, e2⟩ := pick_of h1 ho
      have D0 : s 0 = true := list_pos hT (d := 0) (by decide)
      have BW := S.before
      have cl := (BW.cell (p := ⟨c3, 0, none⟩) hcx).trans hc0
      refine step_val (v := .slice (some ⟨b, 0, none⟩) n cb) (by simp only [execOp, e1, S.t0 D0]; go_simp) (hK _ _ ?_)
      rw [e2]
      exact ⟨S.off.put (by decide) _, S.before, kp S.t0, fun _ => (eval_put _ _ _ (by omega)).trans rfl, kp S.t2, kp S.t3, kp S.t4, fun g => (S.t5 (by simpa using g)).imp fun b hb => ⟨by rw [eval_put_ne _ _ _ _ (by decide)]; exact hb.1, hb.2⟩, kp S.t6, kp S.t7, kp S.t8, kp S.t9, kp S.t10, fun g => (S.t11 (by simpa using g)).imp fun b hb => ⟨by rw [eval_put_ne _ _ _ _ (by decide)]; exact hb.1, hb.2⟩⟩
    | 2, _, ho, hsi, hT =>
      obtain ⟨e1, e2⟩ := pick_of h2 ho
      have BW := S.before
      refine step_val (v := .int .i64 (N : Nat)) (by simp only [execOp, e1, y7]; go_simp) (hK _ _ ?_)
      rw [e2]
      exact ⟨S.off.put (by decide) _, S.before, kp S.t0, kp S.t1, fun _ => (eval_put _ _ _ (by omega)).trans rfl, kp S.t3, kp S.t4, fun g => (S.t5 (by simpa using g)).imp fun b hb => ⟨by rw [eval_put_ne _ _ _ _ (by decide)]; exact hb.1, hb.2⟩, kp S.t6, kp S.t7, kp S.t8, kp S.t9, kp S.t10, fun g => (S.t11 (by simpa using g)).imp fun b hb => ⟨by rw [eval_put_ne _ _ _ _ (by decide)]; exact hb.1, hb.2⟩⟩
    | 3, _, ho, hsi, hT =>
      obtain ⟨e1, e2⟩ := pick_of h3 ho
      have BW := S.before
      refine step_val (v := .int .i64 (j : Nat)) (by simp only [execOp, e1, y1]; go_simp) (hK _ _ ?_)
      rw [e2]
      exact ⟨S.off.put (by decide) _, S.before, kp S.t0, kp S.t1, kp S.t2, fun _ => (eval_put _ _ _ (by omega)).trans rfl, kp S.t4, fun g => (S.t5 (by simpa using g)).imp fun b hb => ⟨by rw [eval_put_ne _ _ _ _ (by decide)]; exact hb.1, hb.2⟩, kp S.t6, kp S.t7, kp S.t8, kp S.t9, kp S.t10, fun g => (S.t11 (by simpa using g)).imp fun b hb => ⟨by rw [eval_put_ne _ _ _ _ (by decide)]; exact hb.1, hb.2⟩⟩
    | 4, _, ho, hsi, hT =>
      obtain ⟨e1, e2⟩ := pick_of h4 ho
      have BW := S.before
      refine step_val (v := .int .i64 (z : Nat)) (by simp only [execOp, e1, y2]; go_simp) (hK _ _ ?_)
      rw [e2]
      exact ⟨S.off.put (by decide) _, S.before, kp S.t0, kp S.t1, kp S.t2, kp S.t3, fun _ => (eval_put _ _ _ (by omega)).trans rfl, fun g => (S.t5 (by simpa using g)).imp fun b hb => ⟨by rw [eval_put_ne _ _ _ _ (by decide)]; exact hb.1, hb.2⟩, kp S.t6, kp S.t7, kp S.t8, kp S.t9, kp S.t10, fun g => (S.t11 (by simpa using g)).imp fun b hb => ⟨by rw [eval_put_ne _ _ _ _ (by decide)]; exact hb.1, hb.2⟩⟩
    | 5, _, ho, hsi, hT =>
      obtain ⟨e1, e2⟩ := pick_of h5 ho
      have D1 : s 1 = true := list_pos hT (d := 1) (by decide)
      have D2 : s 2 = true := list_pos hT (d := 2) (by decide)
      have D3 : s 3 = true := list_pos hT (d := 3) (by decide)
      have D4 : s 4 = true := list_pos hT (d := 4) (by decide)
      have BW := S.before
      refine step_call 55 (fun args w => by go_simp) _ _ e1 #[.slice (some ⟨b, 0, none⟩) n cb, .int .i64 (N : Nat), .int .i64 (j : Nat), .int .i64 (z : Nat)] (by simp only [List.map_toArray, List.map_cons, List.map_nil, S.t1 D1, S.t2 D2, S.t3 D3, S.t4 D4]) ((hS1 _ BW).mono ?_)
      rintro e w2 ⟨v, rfl, FF, BB⟩
      refine ⟨_, rfl, hK _ _ ?_⟩
      rw [e2]
      exact ⟨S.off.put (by decide) _, bt BW BB, kp S.t0, kp S.t1, kp S.t2, kp S.t3, kp S.t4, fun _ => ⟨_, (eval_put _ _ _ (by omega)).trans rfl, FF⟩, kp S.t6, kp S.t7, kp S.t8, kp S.t9, kp S.t10, fun g => (S.t11 (by simpa using g)).imp fun b hb => ⟨by rw [eval_put_ne _ _ _ _ (by decide)]; exact hb.1, (StrBool.mono hb.2 BB)⟩⟩
    | 6, _, ho, hsi, hT =>
      obtain ⟨e1, e2⟩ := pick_of h6 ho
      have BW := S.before
      refine step_val (v := .pointer (some ⟨c3, 1, none⟩)) (by simp only [execOp, e1, y3]; go_simp) (hK _ _ ?_)
      rw [e2]
      exact ⟨S.off.put (by decide) _, S.before, kp S.t0, kp S.t1, kp S.t2, kp S.t3, kp S.t4, fun g => (S.t5 (by simpa using g)).imp fun b hb => ⟨by rw [eval_put_ne _ _ _ _ (by decide)]; exact hb.1, hb.2⟩, fun _ => (eval_put _ _ _ (by omega)).trans rfl, kp S.t7, kp S.t8, kp S.t9, kp S.t10, fun g => (S.t11 (by simpa using g)).imp fun b hb => ⟨by rw [eval_put_ne _ _ _ _ (by decide)]; exact hb.1, hb.2⟩⟩
    | 7, _, ho, hsi, hT =>
      obtain ⟨e1, e2⟩ := pick_of h7 ho
      have D6 : s 6 = true := list_pos hT (d := 6) (by decide)
      have BW := S.before
      have cl := (BW.cell (p := ⟨c3, 1, none⟩) hcx).trans hc1
      refine step_val (v := .slice (some ⟨eb, 0, none⟩) n ce) (by simp only [execOp, e1, S.t6 D6]; go_simp) (hK _ _ ?_)
      rw [e2]
      exact ⟨S.off.put (by decide) _, S.before, kp S.t0, kp S.t1, kp S.t2, kp S.t3, kp S.t4, fun g => (S.t5 (by simpa using g)).imp fun b hb => ⟨by rw [eval_put_ne _ _ _ _ (by decide)]; exact hb.1, hb.2⟩, kp S.t6, fun _ => (eval_put _ _ _ (by omega)).trans rfl, kp S.t8, kp S.t9, kp S.t10, fun g => (S.t11 (by simpa using g)).imp fun b hb => ⟨by rw [eval_put_ne _ _ _ _ (by decide)]; exact hb.1, hb.2⟩⟩
    | 8, _, ho, hsi, hT =>
      obtain ⟨e1, e2⟩ := pick_of h8 ho
      have BW := S.before
      refine step_val (v := .int .i64 (N : Nat)) (by simp only [execOp, e1, y7]; go_simp) (hK _ _ ?_)
      rw [e2]
      exact ⟨S.off.put (by decide) _, S.before, kp S.t0, kp S.t1, kp S.t2, kp S.t3, kp S.t4, fun g => (S.t5 (by simpa using g)).imp fun b hb => ⟨by rw [eval_put_ne _ _ _ _ (by decide)]; exact hb.1, hb.2⟩, kp S.t6, kp S.t7, fun _ => (eval_put _ _ _ (by omega)).trans rfl, kp S.t9, kp S.t10, fun g => (S.t11 (by simpa using g)).imp fun b hb => ⟨by rw [eval_put_ne _ _ _ _ (by decide)]; exact hb.1, hb.2⟩⟩
    | 9, _, ho, hsi, hT =>
      obtain ⟨e1, e2⟩ := pick_of h9 ho
      have BW := S.before
      refine step_val (v := .int .i64 (j : Nat)) (by simp only [execOp, e1, y1]; go_simp) (hK _ _ ?_)
      rw [e2]
      exact ⟨S.off.put (by decide) _, S.before, kp S.t0, kp S.t1, kp S.t2, kp S.t3, kp S.t4, fun g => (S.t5 (by simpa using g)).imp fun b hb => ⟨by rw [eval_put_ne _ _ _ _ (by decide)]; exact hb.1, hb.2⟩, kp S.t6, kp S.t7, kp S.t8, fun _ => (eval_put _ _ _ (by omega)).trans rfl, kp S.t10, fun g => (S.t11 (by simpa using g)).imp fun b hb => ⟨by rw [eval_put_ne _ _ _ _ (by decide)]; exact hb.1, hb.2⟩⟩
    | 10, _, ho, hsi, hT =>
      obtain ⟨e1, e2⟩ := pick_of h10 ho
      have BW := S.before
      refine step_val (v := .int .i64 (z : Nat)) (by simp only [execOp, e1, y2]; go_simp) (hK _ _ ?_)
      rw [e2]
      exact ⟨S.off.put (by decide) _, S.before, kp S.t0, kp S.t1, kp S.t2, kp S.t3, kp S.t4, fun g => (S.t5 (by simpa using g)).imp fun b hb => ⟨by rw [eval_put_ne _ _ _ _ (by decide)]; exact hb.1, hb.2⟩, kp S.t6, kp S.t7, kp S.t8, kp S.t9, fun _ => (eval_put _ _ _ (by omega)).trans rfl, fun g => (S.t11 (by simpa using g)).imp fun b hb => ⟨by rw [eval_put_ne _ _ _ _ (by decide)]; exact hb.1, hb.2⟩⟩
    | 11, _, ho, hsi, hT =>
      obtain ⟨e1, e2⟩ := pick_of h11 ho
      have D7 : s 7 = true := list_pos hT (d := 7) (by decide)
      have D8 : s 8 = true := list_pos hT (d := 8) (by decide)
      have D9 : s 9 = true := list_pos hT (d := 9) (by decide)
      have D10 : s 10 = true := list_pos hT (d := 10) (by decide)
      have BW := S.before
      refine step_call 56 (fun args w => by go_simp) _ _ e1 #[.slice (some ⟨eb, 0, none⟩) n ce, .int .i64 (N : Nat), .int .i64 (j : Nat), .int .i64 (z : Nat)] (by simp only [List.map_toArray, List.map_cons, List.map_nil, S.t7 D7, S.t8 D8, S.t9 D9, S.t10 D10]) ((hS2 _ BW).mono ?_)
      rintro e w2 ⟨v, rfl, FF, BB⟩
      refine ⟨_, rfl, hK _ _ ?_⟩
      rw [e2]
      exact ⟨S.off.put (by decide) _, bt BW BB, kp S.t0, kp S.t1, kp S.t2, kp S.t3, kp S.t4, fun g => (S.t5 (by simpa using g)).imp fun b hb => ⟨by rw [eval_put_ne _ _ _ _ (by decide)]; exact hb.1, (StrByte.mono hb.2 BB)⟩, kp S.t6, kp S.t7, kp S.t8, kp S.t9, kp S.t10, fun _ => ⟨_, (eval_put _ _ _ (by omega)).trans rfl, FF⟩⟩
    | _ + 12, il, _, _, _ => exact absurd il (by omega)
  · intro s a w' S hall
    have a0 := hall 0 (by omega)
    have a1 := hall 1 (by omega)
    have a2 := hall 2 (by omega)
    have a3 := hall 3 (by omega)
    have a4 := hall 4 (by omega)
    have a5 := hall 5 (by omega)
    have a6 := hall 6 (by omega)
    have a7 := hall 7 (by omega)
    have a8 := hall 8 (by omega)
    have a9 := hall 9 (by omega)
    have a10 := hall 10 (by omega)
    have a11 := hall 11 (by omega)
    have e := off_norm _ (by intro d hd; simp at hd; omega) S.off
    obtain ⟨v5, M5, F5⟩ := S.t5 a5
    obtain ⟨v11, M11, F11⟩ := S.t11 a11
    simp only [List.foldl, S.t0 a0, S.t1 a1, S.t2 a2, S.t3 a3, S.t4 a4, M5, S.t6 a6, S.t7 a7, S.t8 a8, S.t9 a9, S.t10 a10, M11] at e
    rw [e]
    exact h _ _ _ S.before F5 F11
set_option maxRecDepth 100000 in
set_option maxHeartbeats 1000000 in
theorem wpart_any (b cb eb ce n N j z : Nat) (f : Nat → BitVec 8) (er : Nat → Bool) (hN : N + 8 * z = n) (hj : j < z) (hz : z ≤ 4) (hn : n ≤ 1000) (he : n ≤ ce) (w : World) (H : Wd w b cb eb ce n f er) :
    Calls Tryz.prog 37 #[.agg #[.slice (some ⟨b, 0, none⟩) n cb, .slice (some ⟨eb, 0, none⟩) n ce], .int .i64 (j : Nat), .int .i64 (z : Nat)] w (PrtP (Blk.parts N j z + 8) (prt N j z f) (prt N j z er) w) := by
  have e8 : Blk.parts (n - N) j z = 8 := by rw [show n - N = 8 * z by omega]; exact parts_mul 8 j z hj
  have hcap := H.cap
  have S1 := fun (w' : World) (hB : Below w.heap.size w w') => strandsByte_any b n cb N j z f hj (by omega) (by omega) (by omega) hcap (by omega) w' (BytesAt.of (H.below hB).num)
  have S2 := fun (w' : World) (hB : Below w.heap.size w w') => strandsBool_any eb n ce N j z er hj (by omega) (by omega) (by omega) he (by omega) w' (BoolsAt.of (H.below hB).er)
  rw [e8] at S1 S2
  unfold prt
  obtain ⟨M, hM⟩ : ∃ M, Blk.parts N j z = M := ⟨_, rfl⟩
  rw [hM] at S1 S2 ⊢
  have M2 : M ≤ 1000 := by have := parts_le N j z hj; omega
  obtain ⟨U1, hU1⟩ : ∃ U, jn M (fun k => f (j + k * z)) (fun k => f (N + (j + k * z))) = U := ⟨_, rfl⟩
  obtain ⟨U2, hU2⟩ : ∃ U, jn M (fun k => er (j + k * z)) (fun k => er (N + (j + k * z))) = U := ⟨_, rfl⟩
  rw [hU1] at S1 ⊢
  rw [hU2] at S2 ⊢
  have b0 := ba (Below.refl w.heap.size w) (.cells #[.slice (some ⟨b, 0, none⟩) n cb, .slice (some ⟨eb, 0, none⟩) n ce] 53)
  have x0 : (w.alloc (.cells #[.slice (some ⟨b, 0, none⟩) n cb, .slice (some ⟨eb, 0, none⟩) n ce] 53)).cell? ⟨w.heap.size, 0, none⟩ = some (.slice (some ⟨b, 0, none⟩) n cb) := World.cell?_alloc_new w _ _ 0
  have x1 : (w.alloc (.cells #[.slice (some ⟨b, 0, none⟩) n cb, .slice (some ⟨eb, 0, none⟩) n ce] 53)).cell? ⟨w.heap.size, 1, none⟩ = some (.slice (some ⟨eb, 0, none⟩) n ce) := World.cell?_alloc_new w _ _ 1
  have z0 : (w.alloc (.cells #[.slice (some ⟨b, 0, none⟩) n cb, .slice (some ⟨eb, 0, none⟩) n ce] 53)).heap.size = w.heap.size + 1 := World.size_alloc ..
  obtain ⟨w0, hw0⟩ : ∃ w0, w.alloc (.cells #[.slice (some ⟨b, 0, none⟩) n cb, .slice (some ⟨eb, 0, none⟩) n ce] 53) = w0 := ⟨_, rfl⟩
  rw [hw0] at b0 x0 x1 z0
  have b1 := ba (Below.refl w0.heap.size w0) (.cells #[.slice none 0 0, .slice none 0 0] 53)
  have r1 : Cells1 (w0.alloc (.cells #[.slice none 0 0, .slice none 0 0] 53)) w0.heap.size (.slice none 0 0) (.slice none 0 0) := ⟨World.cell?_alloc_new w0 _ _ 0, World.cell?_alloc_new w0 _ _ 1, by go_simp, by go_simp⟩
  have z1 : (w0.alloc (.cells #[.slice none 0 0, .slice none 0 0] 53)).heap.size = w0.heap.size + 1 := World.size_alloc ..
  obtain ⟨w1, hw1⟩ : ∃ w1, w0.alloc (.cells #[.slice none 0 0, .slice none 0 0] 53) = w1 := ⟨_, rfl⟩
  rw [hw1] at b1 r1 z1
  have y0 := (b1.cell (p := ⟨w.heap.size, 0, none⟩) (by show w.heap.size < _; omega)).trans x0
  have y1 := (b1.cell (p := ⟨w.heap.size, 1, none⟩) (by show w.heap.size < _; omega)).trans x1
  obtain ⟨c6, hc6⟩ : ∃ c, w0.heap.size = c := ⟨_, rfl⟩
  rw [hc6] at r1 z0 z1
  have HW0 := Lib.hid hw0
  have HW1 := Lib.hid hw1
  have HC6 := Lib.hid hc6
  have B1 := Lib.hid (bt b0 b1)
  have R1 := Lib.hid r1
  have LZ := Lib.hid (show w.heap.size < c6 ∧ c6 < w1.heap.size ∧ w.heap.size < w1.heap.size by omega)
  have SS1 := Lib.hid S1
  have SS2 := Lib.hid S2
  have e2 : (8 : Int) * (z : Int) = ((8 * z : Nat) : Int) := by omega
  have e3 : (n : Int) - ((8 * z : Nat) : Int) = (N : Int) := by omega
  have z8 : 8 * z ≤ 32 := by omega
  obtain ⟨t, ht⟩ : ∃ t, 8 * z = t := ⟨_, rfl⟩
  rw [ht] at e2 e3 z8
  clear b0 b1 x0 x1 hw0 hw1 hc6 r1 z0 z1 S1 S2 H hU1 hU2 hM e8 hcap ht
  go_enter Tryz.func37, Tryz.ntmps37
  go_upto_region 1 with (simp only [HW0.out, HW1.out, HC6.out])
  (try rw [HW0.out]); (try rw [HW1.out]); (try rw [HC6.out])
  go_upto_region 2 with fail
  refine partRegion w.heap.size b n cb eb ce N j z w1.heap.size M U1 U2 LZ.out.2.2 y0 y1 (fun w' hb => (SS1.out w' (bt B1.out hb)).mono fun e w2 h => ?_) (fun w' hb => (SS2.out w' (bt B1.out hb)).mono fun e w2 h => ?_) (by kernel_rfl) rfl rfl rfl rfl rfl rfl rfl rfl rfl rfl rfl rfl rfl rfl rfl rfl rfl ?_
  · obtain ⟨v, rfl, h1, h2⟩ := h
    exact ⟨v, rfl, own_mono h1 hb.size, h2⟩
  · obtain ⟨v, rfl, h1, h2⟩ := h
    exact ⟨v, rfl, own_mono h1 hb.size, h2⟩
  intro v5 v11 w2 B2 F5 F11
  simp only [Act.put, List.setIfInBounds_toArray, List.set_cons_succ, List.set_cons_zero, List.drop_succ_cons, List.drop_zero]
  unfold StrByte at F5
  unfold StrBool at F11
  obtain ⟨g1, k1, rfl⟩ := ownsRow_succ (k := M + 7) F5
  obtain ⟨g2, k2, rfl⟩ := ownsRow_succ (k := M + 7) F11
  have N2 := Lib.hid (own_nums F5)
  have E2 := Lib.hid (own_bools F11)
  have C2 := Lib.hid (own_cap F5)
  have R2 := Lib.hid (R1.out.below LZ.out.2.1 B2)
  have BB := Lib.hid (bt B1.out B2)
  have l0 := LZ.out.2.1
  have n1 := Lib.hid (show c6 ≠ g1 by have := (own_at F5).1; omega)
  have n2 := Lib.hid (show c6 ≠ g2 by have := (own_at F11).1; omega)
  have k0 := R2.out.c0
  have k1' := R2.out.c1
  have f0 := R2.out.f0
  have f1 := R2.out.f1
  clear F5 F11 B2 SS1 SS2 y0 y1 l0
  go_wp2_with fail
  have e0 : ((w2.setCell ⟨c6, 0, none⟩ (.slice (some ⟨g1, 0, none⟩) (M + 8) k1)).setCell ⟨c6, 1, none⟩ (.slice (some ⟨g2, 0, none⟩) (M + 8) k2)).cell? ⟨c6, 0, none⟩ = some (.slice (some ⟨g1, 0, none⟩) (M + 8) k1) := by
    rw [World.cell?_setCell_other (h := addr_off (by omega))]; exact World.cell?_setCell_same' _ _ _ (by rw [k0]; rfl)
  have e1 : ((w2.setCell ⟨c6, 0, none⟩ (.slice (some ⟨g1, 0, none⟩) (M + 8) k1)).setCell ⟨c6, 1, none⟩ (.slice (some ⟨g2, 0, none⟩) (M + 8) k2)).cell? ⟨c6, 1, none⟩ = some (.slice (some ⟨g2, 0, none⟩) (M + 8) k2) :=
    World.cell?_setCell_same' _ _ _ (by rw [World.cell?_setCell_other (h := addr_off (by omega)), k1']; rfl)
  have NF := (N2.out.setOther (c := c6) (i := 0) n1.out (.slice (some ⟨g1, 0, none⟩) (M + 8) k1)).setOther (c := c6) (i := 1) n1.out (.slice (some ⟨g2, 0, none⟩) (M + 8) k2)
  have EF := (E2.out.setOther (c := c6) (i := 0) n2.out (.slice (some ⟨g1, 0, none⟩) (M + 8) k1)).setOther (c := c6) (i := 1) n2.out (.slice (some ⟨g2, 0, none⟩) (M + 8) k2)
  have BF := (BB.out.setCell (p := ⟨c6, 0, none⟩) (Nat.le_of_lt LZ.out.1) (.slice (some ⟨g1, 0, none⟩) (M + 8) k1)).setCell (p := ⟨c6, 1, none⟩) (Nat.le_of_lt LZ.out.1) (.slice (some ⟨g2, 0, none⟩) (M + 8) k2)
  exact bodyPost_ret (v := .agg #[.slice (some ⟨g1, 0, none⟩) (M + 8) k1, .slice (some ⟨g2, 0, none⟩) (M + 8) k2]) (by simp [results, Tryz.results37, go_sem, e0, e1]) rfl ⟨g1, k1, g2, k2, rfl, ⟨NF, EF, C2.out⟩, BF⟩
end Go.Proofs.YtlpjhmafplljaaaGreatDoor
/- The contract of block's Wrap over this program. -/
namespace Go.Proofs.YtlpjhmafplljaaaGreatDoor
open Go.RowKit
set_option linter.unusedVariables false

namespace Blk
/-- The parity of the part j. -/
def wpar (l : List UInt8) (z j : Nat) : List UInt8 := (Gal.coefs (Blk.rem (Blk.part l j z)) 8).reverse
theorem wpar_length (l : List UInt8) (z j : Nat) : (wpar l z j).length = 8 := by unfold wpar; rw [List.length_reverse, Gal.coefs_length]
/-- The parities after j parts. -/
def wrp (l : List UInt8) (z j : Nat) (p : Nat) : BitVec 8 := if p % z < j then Gal.co (wpar l z (p % z)) (p / z) else 0#8
theorem wrp_zero (l : List UInt8) (z p : Nat) : wrp l z 0 p = 0#8 := if_neg (Nat.not_lt_zero _)
theorem wrp_succ (l : List UInt8) {z j p : Nat} (hp : p < 8 * z) (hz : 0 < z) : sprd (wrp l z j) (Gal.co (wpar l z j)) j z 8 p = wrp l z (j + 1) p := by
  have hd : p / z < 8 := (Nat.div_lt_iff_lt_mul hz).2 hp
  unfold sprd wrp
  by_cases h : p % z = j
  · rw [if_pos ⟨h, hd⟩, if_pos (by omega), h]
  · rw [if_neg (fun q => h q.1)]
    by_cases g : p % z < j
    · rw [if_pos g, if_pos (by omega)]
    · rw [if_neg g, if_neg (by omega)]
/-- Interleaved code blocks. -/
def wrap (l : List UInt8) (z : Nat) : List UInt8 := l ++ Gal.coefs (wrp l z z) (8 * z)
end Blk
theorem own_slice {W : World} {base : Nat} {e : TypeId} {size : Nat} {v : Value} {k : Nat} {xs : List Value} (h : W.ownsRow base e size v k xs) (hk : 0 < k) : ∃ g cap, v = .slice (some ⟨g, 0, none⟩) k cap := by
  rcases h.2 with ⟨_, h0⟩ | ⟨g, cap, _, rfl, _⟩
  · omega
  · exact ⟨g, cap, rfl⟩
theorem wrap_str (s : ByteArray) (z : Nat) : s ++ (⟨(Gal.coefs (Blk.wrp s.data.toList z z) (8 * z)).toArray⟩ : ByteArray) = ⟨(Blk.wrap s.data.toList z).toArray⟩ := by
  apply ByteArray.ext
  rw [ByteArray.data_append]
  unfold Blk.wrap
  simp
theorem parts_pos {n j z : Nat} (hj : j < z) (hn : z ≤ n) : 0 < Blk.parts n j z := (Blk.parts_iff n j z 0 hj).1 (by omega)
theorem part_str (s : ByteArray) (n j z : Nat) (hn : s.size = n) : (⟨(Gal.coefs (fun k => Gal.co s.data.toList (j + k * z)) (Blk.parts n j z)).toArray⟩ : ByteArray) = ⟨(Blk.part s.data.toList j z).toArray⟩ := by
  unfold Blk.part
  rw [ls, hn]
theorem wrap_bad (s : ByteArray) (z : Int) (hs : s.size ≤ 400000) (h : ¬ (1 ≤ z ∧ z ≤ 4 ∧ z ≤ s.size ∧ (s.size : Int) ≤ 223 * z)) (w : World) :
    Calls Tryz.prog 9 #[.string s, .int .i64 z] w fun e w' => e = .returned (.tuple #[.string ⟨#[]⟩, .int .i64 2]) ∧ w = w' := by
  have ID := Lib.hid (isDepth_any z w)
  by_cases g : 1 ≤ z ∧ z ≤ 4
  · rw [decide_eq_true g] at ID
    obtain ⟨g1, g2⟩ := g
    have m1 : IntKind.i64.wrap (223 * z) = 223 * z := by rw [IntKind.wrap_i64]; omega
    by_cases g3 : (s.size : Int) < z
    · clear h
      go_enter Tryz.func9, Tryz.ntmps9
      go_wp2_with fail
      (with_reducible refine ID.out.mono ?_)
      rintro e w' ⟨rfl, rfl⟩
      go_wp2_with fail
      go_ret2
      exact ⟨rfl, rfl⟩
    · have g4 : 223 * z < (s.size : Int) := by omega
      clear h
      go_enter Tryz.func9, Tryz.ntmps9
      go_wp2_with fail
      (with_reducible refine ID.out.mono ?_)
      rintro e w' ⟨rfl, rfl⟩
      go_wp2_with fail
      go_ret2
      exact ⟨rfl, rfl⟩
  · rw [decide_eq_false g] at ID
    clear h g
    go_enter Tryz.func9, Tryz.ntmps9
    go_wp2_with fail
    (with_reducible refine ID.out.mono ?_)
    rintro e w' ⟨rfl, rfl⟩
    go_wp2_with fail
    go_ret2
    exact ⟨rfl, rfl⟩
set_option maxRecDepth 100000 in
set_option maxHeartbeats 1000000 in
theorem wrap_any (s : ByteArray) (n z : Nat) (hn : s.size = n) (h1 : 1 ≤ z) (h4 : z ≤ 4) (hz : z ≤ n) (h2 : n ≤ 223 * z) (w : World) :
    Calls Tryz.prog 9 #[.string s, .int .i64 (z : Nat)] w fun e w' => e = .returned (.tuple #[.string ⟨(Blk.wrap s.data.toList z).toArray⟩, .int .i64 0]) ∧ Below w.heap.size w w' := by
  have ID := Lib.hid (isDepth_any (z : Int) w)
  rw [decide_eq_true (show (1 : Int) ≤ (z : Int) ∧ (z : Int) ≤ 4 by omega)] at ID
  have WS := Lib.hid (wrap_str s z)
  have n4 : n ≤ 892 := by omega
  have HN := Lib.hid hn
  have sn := hn
  have m1 : IntKind.i64.wrap (223 * (z : Int)) = 223 * (z : Int) := by rw [IntKind.wrap_i64]; omega
  have g3 : ¬ (n : Int) < (z : Int) := by omega
  have g4 : ¬ 223 * (z : Int) < (n : Int) := by omega
  obtain ⟨t, ht⟩ : ∃ t, 8 * z = t := ⟨_, rfl⟩
  have e2 : (8 : Int) * (z : Int) = (t : Int) := by omega
  have t8 : t ≤ 32 := by omega
  have HT := Lib.hid ht
  rw [ht] at WS
  obtain ⟨i0, hi0, hz0, hz1, hz2⟩ := info_parts info_u8
  clear ht hn
  go_enter Tryz.func9, Tryz.ntmps9
  go_wp2_with fail
  (with_reducible refine ID.out.mono ?_)
  rintro e w' ⟨rfl, rfl⟩
  clear ID
  go_wp2_with (at_make; refine wpList_make_full _ rfl _ _ 41 rfl w.heap.size 5 i0 (.int .u8 0) 1 Tryz.underlying41 hi0 hz0 hz1 .i64 .i64 _ _ t rfl rfl rfl rfl (by rw [hz2]; omega) (by unfold maxLen; omega) (Nat.le_refl _) ?_; intro w1 hown hgrow; have B1 := Lib.hid ((Below.refl w.heap.size w).grown hgrow (Nat.le_refl _) (fun k e => by cases e)); have N1 := Lib.hid (madeNums hown); clear hown hgrow)
  obtain ⟨pb, hpb⟩ : ∃ pb, w.heap.size = pb := ⟨_, rfl⟩
  rw [hpb] at N1 ⊢
  have HPB := Lib.hid (show w.heap.size ≤ pb by omega)
  have N0 := Lib.hid (show NumsK .u8 w1 pb t (fun p => (Blk.wrp s.data.toList z 0 p).toNat) from N1.out.congr (fun p _ => by rw [Blk.wrp_zero]; rfl))
  clear N1 hpb hi0 hz0 hz1 hz2
  go_loopw [28] (fun u wr => ∃ j : Nat, j ≤ z ∧ u = .int .i64 (j : Nat) ∧ NumsK .u8 wr pb t (fun p => (Blk.wrp s.data.toList z j p).toNat) ∧ But pb w1 wr) (fun u _ => z - (intOf u).toNat)
  case atStart => exact ⟨0, Nat.zero_le _, rfl, N0.out, But.refl _ _⟩
  case round =>
    obtain ⟨j, hj, rfl, hE, hB⟩ := hrel
    have HE := Lib.hid hE
    have HB := Lib.hid hB
    clear hE hB
    by_cases hlt : j < z
    · have c1 := run_bytes_of_string (P := Tryz.prog) wr 9 41 5 s Tryz.underlying9 Tryz.underlying41 Tryz.underlying5
      have dg := grownCap_ge wr s.size 0 5
      obtain ⟨D, hcap⟩ : ∃ D, grownCap wr s.size 0 5 = D := ⟨_, rfl⟩
      rw [hcap, HN.out] at c1
      rw [hcap, HN.out] at dg
      have n1 := nums_new s D 5 wr.drew
      rw [HN.out, show wr.drew.heap.size = wr.heap.size from rfl] at n1
      have b4 := ba (Below.refl wr.heap.size wr).drew (.cells (bytesRow s D) 5 ((bytesRow s D).size, (bytesRow s D).size + 1))
      obtain ⟨w4, hw4⟩ : ∃ w4, wr.drew.alloc (.cells (bytesRow s D) 5 ((bytesRow s D).size, (bytesRow s D).size + 1)) = w4 := ⟨_, rfl⟩
      rw [hw4] at c1 n1 b4
      have C1 := Lib.hid c1
      have B4 := Lib.hid b4
      have ST := Lib.hid (strandByte_any wr.heap.size 0 n D j z (Gal.co s.data.toList) hlt (by omega) (by omega) w4 (BytesAt.of n1))
      have PQ := Lib.hid (parts_pos hlt hz)
      have PL := parts_le n j z hlt
      have PS := Lib.hid (part_str s n j z HN.out)
      have PZ := Lib.hid (Gal.coefs_length (fun k => Gal.co s.data.toList (j + k * z)) (Blk.parts n j z))
      have UP := Lib.hid (fun p hp => Blk.wrp_succ s.data.toList (z := z) (j := j) (p := p) hp (by omega))
      have KK := Lib.hid (show ∀ i, i < 8 → j + i * z < t from fun i hi => by
        have h1 := HT.out
        have := Nat.mul_le_mul_right z (show i + 1 ≤ 8 by omega)
        rw [Nat.add_mul, Nat.one_mul] at this
        omega)
      obtain ⟨q, hq⟩ : ∃ q, Blk.parts n j z = q := ⟨_, rfl⟩
      rw [hq] at ST PQ PL PS PZ
      obtain ⟨G, hG⟩ : ∃ G, (fun k => Gal.co s.data.toList (j + k * z)) = G := ⟨_, rfl⟩
      rw [hG] at ST PS PZ
      clear c1 n1 b4 hw4 hcap dg hq hG
      go_wp2_with (simp only [C1.out])
      (with_reducible refine ST.out.mono ?_)
      rintro e w5 ⟨v, rfl, ho5, hB5⟩
      obtain ⟨g, cp, rfl⟩ := own_slice ho5 PQ.out
      have CV := Lib.hid (nums_back cp (own_nums ho5))
      rw [PS.out] at CV
      have B5 := Lib.hid (bt B4.out hB5)
      have PA := Lib.hid (parity_any ⟨(Blk.part s.data.toList j z).toArray⟩ (by rw [← PS.out]; show (Gal.coefs G q).toArray.size ≤ 1000; rw [List.size_toArray, PZ.out]; omega) w5)
      have EP : (⟨(Gal.coefs (Blk.rem (⟨(Blk.part s.data.toList j z).toArray⟩ : ByteArray).data.toList) 8).reverse.toArray⟩ : ByteArray) = ⟨(Blk.wpar s.data.toList z j).toArray⟩ := rfl
      rw [EP] at PA
      obtain ⟨ps, hps⟩ : ∃ ps : ByteArray, (⟨(Blk.part s.data.toList j z).toArray⟩ : ByteArray) = ps := ⟨_, rfl⟩
      rw [hps] at CV PA
      have pz : (⟨(Blk.wpar s.data.toList z j).toArray⟩ : ByteArray).size = 8 := by show (Blk.wpar s.data.toList z j).toArray.size = 8; rw [List.size_toArray, Blk.wpar_length]
      have pl : (⟨(Blk.wpar s.data.toList z j).toArray⟩ : ByteArray).data.toList = Blk.wpar s.data.toList z j := rfl
      obtain ⟨pt, hpt⟩ : ∃ ps : ByteArray, (⟨(Blk.wpar s.data.toList z j).toArray⟩ : ByteArray) = ps := ⟨_, rfl⟩
      rw [hpt] at PA pz pl
      have PZ8 := Lib.hid pz
      have PLL := Lib.hid pl
      clear EP ho5 hB5 hps hpt ST C1 PS PZ pz pl PQ PL
      go_wp2_with (simp only [CV.out])
      (with_reducible refine PA.out.mono ?_)
      rintro e w6 ⟨rfl, hB6⟩
      have B6 := Lib.hid (bt B5.out hB6)
      have SP := Lib.hid (spread_any pb t t j z 8 (Blk.wrp s.data.toList z j) pt PZ8.out hlt (by omega) (by omega) KK.out w6 (HE.out.below B6.out))
      rw [PLL.out] at SP
      have BW6 := Lib.hid (HB.out.trans (But.of_below B6.out (Nat.le_of_lt HE.out.1)))
      clear hB6 PA CV B4 B5
      go_wp2_with fail
      (with_reducible refine SP.out.mono ?_)
      rintro e w7 ⟨rfl, hN7, hB7⟩
      have N7 := Lib.hid (hN7.congr (g := fun p => (Blk.wrp s.data.toList z (j + 1) p).toNat) (fun p hp => by show (sprd _ _ j z 8 p).toNat = _; rw [UP.out p (by rw [HT.out]; exact hp)]))
      have B7 := Lib.hid (BW6.out.trans hB7)
      clear hN7 hB7 SP HE HB N0
      go_wp2_with fail
      go_roundw
      case rel => exact ⟨j + 1, by omega, by go_num, N7.out, B7.out⟩
      case measure => simp [intOf]; omega
    · obtain rfl : j = z := by omega
      have CV := Lib.hid (nums_back t HE.out)
      have BF := Lib.hid (B1.out.trans (HB.out.below.mono HPB.out))
      have sz2 : (⟨(Gal.coefs (Blk.wrp s.data.toList j j) t).toArray⟩ : ByteArray).size = t := by show (Gal.coefs (Blk.wrp s.data.toList j j) t).toArray.size = t; rw [List.size_toArray, Gal.coefs_length]
      obtain ⟨ps, hps⟩ : ∃ ps : ByteArray, (⟨(Gal.coefs (Blk.wrp s.data.toList j j) t).toArray⟩ : ByteArray) = ps := ⟨_, rfl⟩
      rw [hps] at CV WS sz2
      clear hps N0 HE HB
      go_wp2_with (simp only [CV.out])
      go_ret2
      exact ⟨by rw [← WS.out]; rfl, BF.out⟩
end Go.Proofs.YtlpjhmafplljaaaGreatDoor
/- The contract of block's Unwrap over this program. -/
namespace Go.Proofs.YtlpjhmafplljaaaGreatDoor
open Go.RowKit
set_option linter.unusedVariables false

/-- The block b holds n ints, and they may be written. -/
def Intz (W : World) (b n : Nat) (f : Nat → Int) : Prop := b < W.heap.size ∧ ∀ j, j < n → W.cell? ⟨b, j, none⟩ = some (.int .i64 (f j)) ∧ W.frozen? ⟨b, j, none⟩ = false
namespace Intz
variable {W W' : World} {b m : Nat} {f g : Nat → Int}
theorem cell (h : Intz W b m f) {j : Nat} (hj : j < m) : W.cell? ⟨b, j, none⟩ = some (.int .i64 (f j)) := (h.2 j hj).1
theorem frozen (h : Intz W b m f) {j : Nat} (hj : j < m) : W.frozen? ⟨b, j, none⟩ = false := (h.2 j hj).2
theorem congr (h : Intz W b m f) (e : ∀ j, j < m → f j = g j) : Intz W b m g := ⟨h.1, fun j hj => by rw [← e j hj]; exact h.2 j hj⟩
theorem set (h : Intz W b m f) (i : Nat) (x : Int) (hi : i < m) (hx : g i = x) (hg : ∀ j, j < m → j ≠ i → g j = f j) : Intz (W.setCell ⟨b, i, none⟩ (.int .i64 x)) b m g := by
  refine ⟨by rw [World.size_setCell]; exact h.1, fun j hj => ?_⟩
  obtain ⟨h1, h2⟩ := h.2 j hj
  refine ⟨?_, by rw [World.frozen?_setCell]; exact h2⟩
  by_cases e : j = i
  · subst e
    rw [World.cell?_setCell_same' _ _ _ (by rw [h1]; rfl), hx]
  · rw [World.cell?_setCell_other (h := addr_off (fun x => e x.symm)), hg j hj e]
    exact h1
theorem of_block (h : Intz W b m f) (e : W'.heap[b]? = W.heap[b]?) : Intz W' b m f := by
  refine ⟨?_, fun j hj => ?_⟩
  · apply Nat.lt_of_not_le
    intro hh
    rw [Array.getElem?_eq_none hh, Array.getElem?_eq_getElem h.1] at e
    cases e
  · obtain ⟨h1, h2⟩ := h.2 j hj
    exact ⟨(World.cell?_of_block (w := W) (a := ⟨b, j, none⟩) e).trans h1, (World.frozen?_of_block (w := W) (a := ⟨b, j, none⟩) e).trans h2⟩
theorem below (h : Intz W b m f) (hb : Below W.heap.size W W') : Intz W' b m f := h.of_block (hb.block b h.1)
theorem alloc (h : Intz W b m f) (o : Obj) : Intz (W.alloc o) b m f := h.of_block (Below.heap_alloc _ _ _ h.1)
theorem but {c : Nat} (h : Intz W b m f) (hb : But c W W') (hc : b ≠ c) : Intz W' b m f := h.of_block (hb.rest b h.1 hc)
end Intz
theorem madeIntz {w : World} {base b e n cap : Nat} (h : w.ownsRow base e 1 (.slice (some ⟨b, 0, none⟩) n cap) n (madeCells (Value.int .i64 0).cells (n * 1)).toList) : Intz w b n (fun _ => 0) := by
  obtain ⟨hl, h⟩ := h
  rcases h with ⟨hv, _⟩ | ⟨g, c, cur, hv, hb, hg, hnc, hm, hsz, ht⟩
  · simp at hv
  · simp only [Value.slice.injEq, Option.some.injEq, Addr.mk.injEq] at hv
    obtain ⟨⟨rfl, _, _⟩, _, rfl⟩ := hv
    refine ⟨(Array.getElem?_eq_some_iff.1 hg).1, fun j hj => ?_⟩
    have e1 : w.cell? ⟨b, j, none⟩ = cur[j]? := by
      unfold World.cell?
      rw [hg]
      simp
    have e2 : (cur.toList.take (n * 1))[j]? = cur[j]? := by
      rw [List.getElem?_take_of_lt (by omega)]
      simp
    refine ⟨?_, ?_⟩
    · rw [e1, ← e2, ht]
      unfold madeCells
      simp [Value.cells, hj, Nat.mod_one]
    · unfold World.frozen?
      rw [hg]
      simp
theorem Intz.setOther {W : World} {b m : Nat} {f : Nat → Int} (h : Intz W b m f) {c i : Nat} (hc : c ≠ b) (v : Value) : Intz (W.setCell ⟨c, i, none⟩ v) b m f := by
  refine ⟨by rw [World.size_setCell]; exact h.1, fun j hj => ?_⟩
  obtain ⟨h1, h2⟩ := h.2 j hj
  exact ⟨by rw [World.cell?_setCell_other (h := fun e => hc (congrArg Addr.block e))]; exact h1, by rw [World.frozen?_setCell]; exact h2⟩
theorem info_i64x : (Tryz.prog.info? 3).map (fun i => (i.zero, i.size, i.bytes)) = some (some (.int .i64 0), 1, 8) := by kernel_rfl
namespace Blk
/-- A function with one value changed. -/
def upd {α : Type} (o : Nat → α) (j : Nat) (v : α) (i : Nat) : α := if i = j then v else o i
theorem upd_same {α : Type} (o : Nat → α) (j : Nat) (v : α) : upd o j v j = v := if_pos rfl
theorem upd_other {α : Type} (o : Nat → α) {j i : Nat} (v : α) (h : i ≠ j) : upd o j v i = o i := if_neg h
/-- The data after j parts. -/
def udt (o : Nat → List UInt8) (z j p : Nat) : BitVec 8 := if p % z < j then Gal.co (o (p % z)) (p / z) else 0#8
theorem udt_zero (o : Nat → List UInt8) (z p : Nat) : udt o z 0 p = 0#8 := if_neg (Nat.not_lt_zero _)
theorem udt_succ (o : Nat → List UInt8) (v : List UInt8) (z j p : Nat) : sprd (udt o z j) (Gal.co v) j z v.length p = udt (upd o j v) z (j + 1) p := by
  unfold sprd
  by_cases h : p % z = j
  · have r : udt (upd o j v) z (j + 1) p = Gal.co v (p / z) := by unfold udt; rw [if_pos (by omega), h, upd_same]
    rw [r]
    by_cases g : p / z < v.length
    · rw [if_pos ⟨h, g⟩]
    · rw [if_neg (fun q => g q.2), Gal.co_out (by omega)]
      exact if_neg (by omega)
  · rw [if_neg (fun q => h q.1)]
    unfold udt
    by_cases g : p % z < j
    · rw [if_pos g, if_pos (by omega), upd_other _ _ h]
    · rw [if_neg g, if_neg (by omega)]
/-- The counts after j parts. -/
def cnts (k x : Nat → Int) (j i : Nat) : Int := if i < j then (if x i = 0 then k i else -1) else 0
theorem cnts_zero (k x : Nat → Int) (i : Nat) : cnts k x 0 i = 0 := if_neg (Nat.not_lt_zero _)
theorem cnts_same (k x : Nat → Int) (a b : Int) (j : Nat) : cnts (upd k j a) (upd x j b) (j + 1) j = if b = 0 then a else -1 := by unfold cnts; rw [if_pos (by omega), upd_same, upd_same]
theorem cnts_other (k x : Nat → Int) (a b : Int) {j i : Nat} (h : i ≠ j) : cnts (upd k j a) (upd x j b) (j + 1) i = cnts k x j i := by
  unfold cnts
  rw [upd_other _ _ h, upd_other _ _ h]
  by_cases g : i < j
  · rw [if_pos g, if_pos (by omega)]
  · rw [if_neg g, if_neg (by omega)]
theorem dec_len {b : List UInt8} {f : List Nat} {o : List UInt8} {k x : Int} (h : Dec b f o k x) : (x = 0 ∧ o.length ≤ b.length - 8) ∨ (x = 50 ∧ o.length ≤ b.length - 8) := by
  rcases h with ⟨c, _, rfl, _, rfl⟩ | ⟨_, rfl, _, rfl⟩
  · exact .inl ⟨rfl, by rw [List.length_take]; omega⟩
  · exact .inr ⟨rfl, by simp⟩
end Blk
/-- What is known of a part. -/
def UdP (N z : Nat) (f : Nat → BitVec 8) (er : Nat → Bool) (i : Nat) (o : List UInt8) (k x : Int) : Prop := Blk.Dec (Gal.coefs (prt N i z f) (Blk.parts N i z + 8)) (Blk.ers (prt N i z er) (Blk.parts N i z + 8)) o k x
theorem udp_succ {N z j : Nat} {f : Nat → BitVec 8} {er : Nat → Bool} {o : Nat → List UInt8} {k x : Nat → Int} {o' : List UInt8} {k' x' : Int} (h : ∀ i, i < j → UdP N z f er i (o i) (k i) (x i)) (h' : UdP N z f er j o' k' x') :
    ∀ i, i < j + 1 → UdP N z f er i (Blk.upd o j o' i) (Blk.upd k j k' i) (Blk.upd x j x' i) := fun i hi => by
  by_cases e : i = j
  · subst e
    rw [Blk.upd_same, Blk.upd_same, Blk.upd_same]
    exact h'
  · rw [Blk.upd_other _ _ e, Blk.upd_other _ _ e, Blk.upd_other _ _ e]
    exact h i (by omega)
theorem lost_succ {j : Nat} {x : Nat → Int} {x' : Int} {t : Bool} (h : t = true ↔ ∃ i, i < j ∧ x i ≠ 0) (t' : Bool) (h' : t' = true ↔ t = true ∨ x' ≠ 0) : t' = true ↔ ∃ i, i < j + 1 ∧ Blk.upd x j x' i ≠ 0 := by
  rw [h', h]
  constructor
  · rintro (⟨i, hi, hx⟩ | hx)
    · exact ⟨i, by omega, by rw [Blk.upd_other _ _ (by omega)]; exact hx⟩
    · exact ⟨j, by omega, by rw [Blk.upd_same]; exact hx⟩
  · rintro ⟨i, hi, hx⟩
    by_cases e : i = j
    · subst e
      rw [Blk.upd_same] at hx
      exact .inr hx
    · rw [Blk.upd_other _ _ e] at hx
      exact .inl ⟨i, by omega, hx⟩
/-- What Unwrap does with places that are places. -/
def UnwP (s : ByteArray) (zs : List Int) (n N z : Nat) (w : World) (e : Ending) (w' : World) : Prop :=
  ∃ er o k x cc t, (∀ j, j < n → (er j = true ↔ (j : Int) ∈ zs)) ∧ (∀ i, i < z → UdP N z (Gal.co s.data.toList) er i (o i) (k i) (x i)) ∧ (t = true ↔ ∃ i, i < z ∧ x i ≠ 0) ∧
    e = .returned (.tuple #[.string (bif t then ⟨#[]⟩ else ⟨(Gal.coefs (Blk.udt o z z) N).toArray⟩), .slice (some ⟨cc, 0, none⟩) z z, .int .i64 (bif t then 50 else 0)]) ∧ Intz w' cc z (Blk.cnts k x z) ∧ w.heap.size ≤ cc ∧ Below w.heap.size w w'
set_option maxRecDepth 100000 in
set_option maxHeartbeats 2000000 in
theorem unwrap_any (s : ByteArray) (a : Option Addr) (cap m n z N : Nat) (zs : List Int) (hn : s.size = n) (h1 : 1 ≤ z) (h4 : z ≤ 4) (hN : N + 8 * z = n) (g1 : 9 * z ≤ n) (g2 : n ≤ 231 * z) (hm : zs.length = m) (m2 : m ≤ 400000) (hz : Within zs n) (w : World) (R : Ints w a zs) :
    Calls Tryz.prog 16 #[.string s, .int .i64 (z : Nat), .slice a m cap] w (UnwP s zs n N z w) := by
  have n4 : n ≤ 924 := by omega
  have ID := Lib.hid (isDepth_any (z : Int) w)
  rw [decide_eq_true (show (1 : Int) ≤ (z : Int) ∧ (z : Int) ≤ 4 by omega)] at ID
  have AP := Lib.hid (arePlaces_any a cap m zs n hm m2 (by omega) w R)
  rw [decide_eq_true hz] at AP
  have NW := Lib.hid (newWord_any s a cap m n zs hn (by omega) hm m2 hz w R)
  have m9 : IntKind.i64.wrap (9 * (z : Int)) = 9 * (z : Int) := by rw [IntKind.wrap_i64]; omega
  have m231 : IntKind.i64.wrap (231 * (z : Int)) = 231 * (z : Int) := by rw [IntKind.wrap_i64]; omega
  have q9 : ¬ (n : Int) < 9 * (z : Int) := by omega
  have q231 : ¬ 231 * (z : Int) < (n : Int) := by omega
  obtain ⟨f, hf⟩ : ∃ f, Gal.co s.data.toList = f := ⟨_, rfl⟩
  have HF := Lib.hid hf
  have HNZ := Lib.hid hN
  have sn := hn
  clear hf hm hz R hn
  go_enter Tryz.func16, Tryz.ntmps16
  go_wp2_with fail
  (with_reducible refine ID.out.mono ?_)
  rintro e w' ⟨rfl, rfl⟩
  go_wp2_with fail
  (with_reducible refine AP.out.mono ?_)
  rintro e w' ⟨rfl, rfl⟩
  go_wp2_with fail
  (with_reducible refine NW.out.mono ?_)
  rintro e w1 ⟨b, cb, eb, ce, er, rfl, hW, her, hce, hB1⟩
  rw [HF.out] at hW
  have b1 := ba (Below.refl w1.heap.size w1) (.cells #[.slice none 0 0, .slice none 0 0] 53)
  have r1 : Cells1 (w1.alloc (.cells #[.slice none 0 0, .slice none 0 0] 53)) w1.heap.size (.slice none 0 0) (.slice none 0 0) := ⟨World.cell?_alloc_new w1 _ _ 0, World.cell?_alloc_new w1 _ _ 1, by go_simp, by go_simp⟩
  have z1 : (w1.alloc (.cells #[.slice none 0 0, .slice none 0 0] 53)).heap.size = w1.heap.size + 1 := World.size_alloc ..
  obtain ⟨w2, hw2⟩ : ∃ w2, w1.alloc (.cells #[.slice none 0 0, .slice none 0 0] 53) = w2 := ⟨_, rfl⟩
  rw [hw2] at b1 r1 z1
  have hW2 := hW.below b1
  have lb := hW.num.1
  have leb := hW.er.1
  have sz1 := hB1.size
  have b02 := bt hB1 b1
  obtain ⟨c9, hc9⟩ : ∃ c, w1.heap.size = c := ⟨_, rfl⟩
  rw [hc9] at r1 z1 lb leb sz1
  have k0 := r1.c0
  have k1 := r1.c1
  have f0 := r1.f0
  have f1 := r1.f1
  have NE1 := Lib.hid (show c9 ≠ b by omega)
  have NE2 := Lib.hid (show c9 ≠ eb by omega)
  have LC := Lib.hid (show w.heap.size ≤ c9 ∧ c9 < w2.heap.size by omega)
  have HW2 := Lib.hid hw2
  have HC9 := Lib.hid hc9
  have WW2 := Lib.hid hW2
  have B02 := Lib.hid b02
  have HER := Lib.hid her
  have HCE := Lib.hid hce
  clear b1 r1 hw2 hc9 hW hW2 her hB1 lb leb b02 z1 sz1 hce ID AP NW
  go_upto_region 4 with (simp only [HW2.out, HC9.out])
  have e0 : ((w2.setCell ⟨c9, 0, none⟩ (.slice (some ⟨b, 0, none⟩) n cb)).setCell ⟨c9, 1, none⟩ (.slice (some ⟨eb, 0, none⟩) n ce)).cell? ⟨c9, 0, none⟩ = some (.slice (some ⟨b, 0, none⟩) n cb) := by
    rw [World.cell?_setCell_other (h := addr_off (by omega))]; exact World.cell?_setCell_same' _ _ _ (by rw [k0]; rfl)
  have e1 : ((w2.setCell ⟨c9, 0, none⟩ (.slice (some ⟨b, 0, none⟩) n cb)).setCell ⟨c9, 1, none⟩ (.slice (some ⟨eb, 0, none⟩) n ce)).cell? ⟨c9, 1, none⟩ = some (.slice (some ⟨eb, 0, none⟩) n ce) :=
    World.cell?_setCell_same' _ _ _ (by rw [World.cell?_setCell_other (h := addr_off (by omega)), k1]; rfl)
  have NF := (WW2.out.num.setOther (c := c9) (i := 0) NE1.out (.slice (some ⟨b, 0, none⟩) n cb)).setOther (c := c9) (i := 1) NE1.out (.slice (some ⟨eb, 0, none⟩) n ce)
  have EF := (WW2.out.er.setOther (c := c9) (i := 0) NE2.out (.slice (some ⟨b, 0, none⟩) n cb)).setOther (c := c9) (i := 1) NE2.out (.slice (some ⟨eb, 0, none⟩) n ce)
  have BF := (B02.out.setCell (p := ⟨c9, 0, none⟩) LC.out.1 (.slice (some ⟨b, 0, none⟩) n cb)).setCell (p := ⟨c9, 1, none⟩) LC.out.1 (.slice (some ⟨eb, 0, none⟩) n ce)
  have L3 : c9 < ((w2.setCell ⟨c9, 0, none⟩ (.slice (some ⟨b, 0, none⟩) n cb)).setCell ⟨c9, 1, none⟩ (.slice (some ⟨eb, 0, none⟩) n ce)).heap.size := by rw [World.size_setCell, World.size_setCell]; exact LC.out.2
  obtain ⟨w3, hw3⟩ : ∃ w3, (w2.setCell ⟨c9, 0, none⟩ (.slice (some ⟨b, 0, none⟩) n cb)).setCell ⟨c9, 1, none⟩ (.slice (some ⟨eb, 0, none⟩) n ce) = w3 := ⟨_, rfl⟩
  rw [hw3] at e0 e1 NF EF BF L3 ⊢
  have X0 := Lib.hid e0
  have X1 := Lib.hid e1
  have W3 := Lib.hid (show Wd w3 b cb eb ce n f er from ⟨NF, EF, WW2.out.cap⟩)
  have B3 := Lib.hid BF
  have LL3 := Lib.hid L3
  clear hw3 e0 e1 NF EF BF L3 k0 k1 f0 f1 WW2 B02 NE1 NE2
  have e2 : (8 : Int) * (z : Int) = ((8 * z : Nat) : Int) := by omega
  have e3 : (n : Int) - ((8 * z : Nat) : Int) = (N : Int) := by omega
  have z8 : 8 * z ≤ 32 := by omega
  have N8 : N ≤ 892 := by omega
  have ZN := Lib.hid (show z ≤ N by omega)
  have N223 := Lib.hid (show N ≤ 223 * z by omega)
  obtain ⟨t8, ht⟩ : ∃ t, 8 * z = t := ⟨_, rfl⟩
  rw [ht] at e2 e3 z8
  obtain ⟨i0, hi0, hz0, hz1, hz2⟩ := info_parts info_u8
  clear ht
  go_upto_region 5 with (at_make; refine wpList_make_full _ rfl _ _ 41 rfl w3.heap.size 5 i0 (.int .u8 0) 1 Tryz.underlying41 hi0 hz0 hz1 .i64 .i64 _ _ N rfl rfl rfl rfl (by rw [hz2]; omega) (by unfold maxLen; omega) (Nat.le_refl _) ?_; intro w4 hown hgrow; have B4 := Lib.hid ((Below.refl w3.heap.size w3).grown hgrow (Nat.le_refl _) (fun k e => by cases e)); have N4 := Lib.hid (madeNums hown); clear hown hgrow)
  clear hi0 hz0 hz1 hz2 i0
  obtain ⟨i0, hi0, hz0, hz1, hz2⟩ := info_parts info_i64x
  go_upto_region 6 with (at_make; refine wpList_make_full _ rfl _ _ 28 rfl w4.heap.size 3 i0 (.int .i64 0) 1 Tryz.underlying28 hi0 hz0 hz1 .i64 .i64 _ _ z rfl rfl rfl rfl (by rw [hz2]; omega) (by unfold maxLen; omega) (Nat.le_refl _) ?_; intro w5 hown hgrow; have B5 := Lib.hid ((Below.refl w4.heap.size w4).grown hgrow (Nat.le_refl _) (fun k e => by cases e)); have I5 := Lib.hid (madeIntz hown); clear hown hgrow)
  have s4 := N4.out.1
  have ss4 := B4.out.size
  have N5 := Lib.hid (N4.out.below B5.out)
  have B35 := Lib.hid (bt B4.out B5.out)
  have HDB := Lib.hid (show w3.heap.size ≤ w3.heap.size ∧ w3.heap.size ≤ w4.heap.size ∧ w3.heap.size ≠ w4.heap.size by omega)
  obtain ⟨db, hdb⟩ : ∃ d, w3.heap.size = d := ⟨_, rfl⟩
  obtain ⟨cc, hcc⟩ : ∃ d, w4.heap.size = d := ⟨_, rfl⟩
  rw [hdb] at N5 HDB
  rw [hcc] at I5 HDB
  have HCC := Lib.hid (show w.heap.size ≤ cc by have := B3.out.size; have := HDB.out.2.1; omega)
  rw [hdb, hcc]
  have HD3 := Lib.hid hdb
  have N0 := Lib.hid (show NumsK .u8 w5 db N (fun p => (Blk.udt (fun _ => []) z 0 p).toNat) from N5.out.congr (fun p _ => by rw [Blk.udt_zero]; rfl))
  have I0 := Lib.hid (show Intz w5 cc z (Blk.cnts (fun _ => 0) (fun _ => 0) 0) from I5.out.congr (fun p _ => by rw [Blk.cnts_zero]))
  clear hi0 hz0 hz1 hz2 N4 N5 I5 B4 B5 s4 ss4 hdb hcc
  go_wp2_with fail
  go_loopw [12, 53] (fun l u wr => ∃ (j : Nat) (t : Bool) (o : Nat → List UInt8) (k x : Nat → Int), j ≤ z ∧ l = .bool t ∧ u = .int .i64 (j : Nat) ∧ (∀ i, i < j → UdP N z f er i (o i) (k i) (x i)) ∧ (t = true ↔ ∃ i, i < j ∧ x i ≠ 0) ∧ NumsK .u8 wr db N (fun p => (Blk.udt o z j p).toNat) ∧ Intz wr cc z (Blk.cnts k x j) ∧ Below w3.heap.size w3 wr) (fun _ u _ => z - (intOf u).toNat)
  case atStart => exact ⟨0, false, _, _, _, Nat.zero_le _, rfl, rfl, fun i hi => absurd hi (Nat.not_lt_zero _), ⟨fun h => by simp at h, fun ⟨i, hi, _⟩ => absurd hi (Nat.not_lt_zero _)⟩, N0.out, I0.out, B35.out⟩
  case round =>
    obtain ⟨j, t, o, k, x, hj, rfl, rfl, hU, hT, hE, hI, hB⟩ := hrel
    have HU := Lib.hid hU
    have HT := Lib.hid hT
    have HE := Lib.hid hE
    have HI := Lib.hid hI
    have HB := Lib.hid hB
    have WR := Lib.hid (W3.out.below hB)
    have y0 := (hB.cell (p := ⟨c9, 0, none⟩) LL3.out).trans X0.out
    have y1 := (hB.cell (p := ⟨c9, 1, none⟩) LL3.out).trans X1.out
    clear hU hT hE hI hB
    by_cases hlt : j < z
    · have WP := Lib.hid (wpart_any b cb eb ce n N j z f er HNZ.out hlt h4 (by omega) HCE.out wr WR.out)
      have PP := Lib.hid (parts_pos hlt ZN.out)
      have PL := Lib.hid (show Blk.parts N j z ≤ 223 by
        apply Nat.le_of_not_lt
        intro h
        have := (Blk.parts_iff N j z 223 hlt).2 h
        have := N223.out
        omega)
      have PI := Lib.hid (fun i => Blk.parts_iff N j z i hlt)
      have KU := Lib.hid (show ∀ o' k' x', Blk.Dec (Gal.coefs (prt N j z f) (Blk.parts N j z + 8)) (Blk.ers (prt N j z er) (Blk.parts N j z + 8)) o' k' x' → UdP N z f er j o' k' x' from fun _ _ _ h => h)
      have LN := Lib.hid (Gal.coefs_length (prt N j z f) (Blk.parts N j z + 8))
      obtain ⟨q, hq⟩ : ∃ q, Blk.parts N j z = q := ⟨_, rfl⟩
      rw [hq] at WP PP PL PI KU LN
      obtain ⟨U1, hU1⟩ : ∃ U, prt N j z f = U := ⟨_, rfl⟩
      obtain ⟨U2, hU2⟩ : ∃ U, prt N j z er = U := ⟨_, rfl⟩
      rw [hU1] at WP KU LN
      rw [hU2] at WP KU
      clear hq hU1 hU2 N0 I0 B35
      go_wp2_with fail
      (with_reducible refine WP.out.mono ?_)
      rintro e w6 ⟨b', cb', eb', ce', rfl, hW6, hB6⟩
      have DE := Lib.hid (decoded_any b' cb' eb' ce' (q + 8) U1 U2 (by have := PP.out; omega) (by have := PL.out; omega) w6 hW6)
      have B6 := Lib.hid hB6
      clear hW6 hB6 WP y0 y1
      go_wp2_with fail
      (with_reducible refine DE.out.mono ?_)
      rintro e w7 ⟨o', k', x', rfl, hd, hB7⟩
      have B7 := Lib.hid (bt B6.out hB7)
      have UD := Lib.hid (KU.out _ _ _ hd)
      have E7 := Lib.hid (HE.out.below B7.out)
      have I7 := Lib.hid (HI.out.below B7.out)
      have B37 := Lib.hid (bt HB.out B7.out)
      have c7 := I7.out.cell hlt
      have f7 := I7.out.frozen hlt
      obtain ⟨old, hold⟩ : ∃ v, Blk.cnts k x j j = v := ⟨_, rfl⟩
      rw [hold] at c7
      have OL := Lib.hid (show o'.length ≤ q by
        have := Blk.dec_len hd
        rw [LN.out] at this
        omega)
      have OK := Lib.hid (show ∀ i, i < o'.length → j + i * z < N from fun i hi => (PI.out i).2 (by have := OL.out; omega))
      have HS := Lib.hid (udp_succ HU.out UD.out)
      have ov : (⟨o'.toArray⟩ : ByteArray).data.toList = o' := rfl
      have os : (⟨o'.toArray⟩ : ByteArray).size = o'.length := by show o'.toArray.size = o'.length; simp
      have US := Lib.hid (fun p => Blk.udt_succ o o' z j p)
      have NEQ := Lib.hid (show cc ≠ db from fun h => HDB.out.2.2 h.symm)
      obtain ⟨st, hst⟩ : ∃ st : ByteArray, (⟨o'.toArray⟩ : ByteArray) = st := ⟨_, rfl⟩
      rw [hst] at ov os ⊢
      have OV := Lib.hid ov
      have OS := Lib.hid os
      have xx := Blk.dec_len hd
      clear hd hB7 hold DE ov os hst UD WR HU PP PL PI KU LN B6
      rcases xx with ⟨rfl, _⟩ | ⟨rfl, _⟩
      · have I8 := Lib.hid (I7.out.set (g := Blk.cnts (Blk.upd k j k') (Blk.upd x j 0) (j + 1)) j k' hlt (by rw [Blk.cnts_same, if_pos rfl]) (fun i _ hi => Blk.cnts_other k x k' 0 hi))
        have E8 := Lib.hid (E7.out.setOther (c := cc) (i := j) NEQ.out (.int .i64 k'))
        have B8 := Lib.hid (B37.out.setCell (p := ⟨cc, j, none⟩) (by show w3.heap.size ≤ cc; rw [HD3.out]; exact HDB.out.2.1) (.int .i64 k'))
        have SP := Lib.hid (spread_any db N N j z o'.length (Blk.udt o z j) st OS.out hlt (by omega) (by omega) OK.out _ E8.out)
        rw [OV.out] at SP
        have LT := Lib.hid (lost_succ (x' := 0) HT.out t (by simp))
        clear E7 I7 HE HI HB HT
        go_wp2_with fail
        (with_reducible refine SP.out.mono ?_)
        rintro e w9 ⟨rfl, hN9, hB9⟩
        have N9 := Lib.hid (hN9.congr (g := fun p => (Blk.udt (Blk.upd o j o') z (j + 1) p).toNat) (fun p _ => by show (sprd _ _ j z _ p).toNat = _; rw [US.out]))
        have I9 := Lib.hid (I8.out.but hB9 NEQ.out)
        have B9 := Lib.hid (B8.out.trans (hB9.below.mono (by rw [HD3.out]; exact Nat.le_refl _)))
        clear hN9 hB9 SP
        go_wp2_with fail
        go_roundw
        case rel => exact ⟨j + 1, t, _, _, _, by omega, rfl, by go_num, HS.out, LT.out, N9.out, I9.out, B9.out⟩
        case measure => simp [intOf]; omega
      · have I8 := Lib.hid (I7.out.set (g := fun i => if i = j then k' else Blk.cnts k x j i) j k' hlt (if_pos rfl) (fun i _ hi => if_neg hi))
        have c8 := I8.out.cell hlt
        have f8 := I8.out.frozen hlt
        rw [if_pos rfl] at c8
        have I8b := Lib.hid (I8.out.set (g := Blk.cnts (Blk.upd k j k') (Blk.upd x j 50) (j + 1)) j (-1) hlt (by rw [Blk.cnts_same, if_neg (by decide)]) (fun i _ hi => by rw [Blk.cnts_other k x k' 50 hi, if_neg hi]))
        have E8 := Lib.hid ((E7.out.setOther (c := cc) (i := j) NEQ.out (.int .i64 k')).setOther (c := cc) (i := j) NEQ.out (.int .i64 (-1)))
        have B8 := Lib.hid ((B37.out.setCell (p := ⟨cc, j, none⟩) (by show w3.heap.size ≤ cc; rw [HD3.out]; exact HDB.out.2.1) (.int .i64 k')).setCell (p := ⟨cc, j, none⟩) (by show w3.heap.size ≤ cc; rw [HD3.out]; exact HDB.out.2.1) (.int .i64 (-1)))
        have SP := Lib.hid (spread_any db N N j z o'.length (Blk.udt o z j) st OS.out hlt (by omega) (by omega) OK.out _ E8.out)
        rw [OV.out] at SP
        have LT := Lib.hid (fun (t' : Bool) (h : t' = true) => lost_succ (x' := 50) HT.out t' (by simp [h]))
        clear E7 I7 HE HI HB HT I8
        go_wp2_with fail
        (with_reducible refine SP.out.mono ?_)
        rintro e w9 ⟨rfl, hN9, hB9⟩
        have N9 := Lib.hid (hN9.congr (g := fun p => (Blk.udt (Blk.upd o j o') z (j + 1) p).toNat) (fun p _ => by show (sprd _ _ j z _ p).toNat = _; rw [US.out]))
        have I9 := Lib.hid (I8b.out.but hB9 NEQ.out)
        have B9 := Lib.hid (B8.out.trans (hB9.below.mono (by rw [HD3.out]; exact Nat.le_refl _)))
        clear hN9 hB9 SP
        go_wp2_with fail
        go_roundw
        case rel => exact ⟨j + 1, true, _, _, _, by omega, rfl, by go_num, HS.out, LT.out true rfl, N9.out, I9.out, B9.out⟩
        case measure => simp [intOf]; omega
    · obtain rfl : j = z := by omega
      have CV := Lib.hid (nums_back N HE.out)
      have BF := Lib.hid (bt B3.out HB.out)
      have FIN := Lib.hid (show UnwP s zs n N j w (.returned (.tuple #[.string (bif t then ⟨#[]⟩ else ⟨(Gal.coefs (Blk.udt o j j) N).toArray⟩), .slice (some ⟨cc, 0, none⟩) j j, .int .i64 (bif t then 50 else 0)])) wr from ⟨er, o, k, x, cc, t, HER.out, by rw [HF.out]; exact HU.out, HT.out, rfl, HI.out, HCC.out, BF.out⟩)
      obtain ⟨ps, hps⟩ : ∃ ps : ByteArray, (⟨(Gal.coefs (Blk.udt o j j) N).toArray⟩ : ByteArray) = ps := ⟨_, rfl⟩
      rw [hps] at CV FIN
      clear hps N0 I0 HE HI HT HU HB
      cases t with
      | true =>
        go_wp2_with fail
        go_ret3
        exact FIN.out
      | false =>
        go_wp2_with (simp only [CV.out])
        go_ret3
        exact FIN.out
end Go.Proofs.YtlpjhmafplljaaaGreatDoor
/- perigeelaw05.awake over this program returns true: some results are as the document says. -/
namespace Go.Proofs.YtlpjhmafplljaaaGreatDoor
open Go.RowKit
set_option linter.unusedVariables false

theorem wenc (w : World) : Calls Tryz.prog 7 #[.string { data := #[1] }] w fun e w' => e = .returned (.tuple #[.string { data := #[1, 255, 11, 81, 54, 239, 173, 200, 24] }, .int .i64 0]) ∧ Below w.heap.size w w' := by
  have h := encode_any { data := #[1] } (by decide) (by decide) w
  rw [show Blk.enc (ByteArray.mk #[1]).data.toList = [1, 255, 11, 81, 54, 239, 173, 200, 24] by decide +kernel] at h
  exact h
theorem ers_nil {er : Nat → Bool} {n : Nat} (h : ∀ j, j < n → er j = false) : Blk.ers er n = [] := by
  unfold Blk.ers
  rw [List.filter_eq_nil_iff]
  intro i hi
  rw [h i (List.mem_range.1 hi)]
  decide
theorem no_er {er : Nat → Bool} {n : Nat} (h : ∀ j, j < n → (er j = true ↔ (j : Int) ∈ ([] : List Int))) : ∀ j, j < n → er j = false := fun j hj => by
  rw [Bool.eq_false_iff]
  intro q
  exact absurd ((h j hj).1 q) (by simp)
theorem wdec (w : World) : Calls Tryz.prog 12 #[.string { data := #[1, 255, 11, 81, 0, 0, 0, 0, 24] }, .slice none 0 0] w fun e w' => e = .returned (.tuple #[.string { data := #[1] }, .int .i64 4, .int .i64 0]) ∧ Below w.heap.size w w' := by
  refine (decode_any { data := #[1, 255, 11, 81, 0, 0, 0, 0, 24] } none 0 0 9 [] rfl (by decide) (by decide) rfl (by decide) (fun p hp => by simp at hp) w (.inl rfl)).mono fun e w' h => ?_
  obtain ⟨er, her, o, k, x, rfl, hd, hB⟩ := h
  rw [ers_nil (no_er her)] at hd
  have hc : Blk.Code [1, 255, 11, 81, 54, 239, 173, 200, 24] := by
    have h := Blk.code_enc [1] (by decide) (by decide)
    rwa [show Blk.enc [1] = [1, 255, 11, 81, 54, 239, 173, 200, 24] by decide +kernel] at h
  have hn : Blk.Near [1, 255, 11, 81, 0, 0, 0, 0, 24] [] [1, 255, 11, 81, 54, 239, 173, 200, 24] := ⟨hc, rfl, by decide +kernel⟩
  obtain ⟨rfl, rfl, rfl⟩ := Blk.dec_unique (o' := [1]) (n' := 4) (e' := 0) hd (.inl ⟨_, hn, by decide +kernel, by decide +kernel, rfl⟩)
  exact ⟨rfl, hB⟩
theorem wwrap (w : World) : Calls Tryz.prog 9 #[.string { data := #[0, 0] }, .int .i64 2] w fun e w' => e = .returned (.tuple #[.string { data := #[0, 0, 0, 0, 0, 0, 0, 0, 0, 0, 0, 0, 0, 0, 0, 0, 0, 0] }, .int .i64 0]) ∧ Below w.heap.size w w' := by
  have h := wrap_any { data := #[0, 0] } 2 2 rfl (by decide) (by decide) (by decide) (by decide) w
  rw [show Blk.wrap (ByteArray.mk #[0, 0]).data.toList 2 = [0, 0, 0, 0, 0, 0, 0, 0, 0, 0, 0, 0, 0, 0, 0, 0, 0, 0] by decide +kernel] at h
  exact h
theorem prt_false {er : Nat → Bool} {n N j z : Nat} (h : ∀ j, j < n → er j = false) (hN : N + 8 * z = n) (hj : j < z) : ∀ k, k < Blk.parts N j z + 8 → prt N j z er k = false := fun k hk => by
  unfold prt jn
  by_cases g : k < Blk.parts N j z
  · rw [if_pos g]
    exact h _ (by have := (Blk.parts_iff N j z k hj).2 g; omega)
  · rw [if_neg g]
    refine h _ ?_
    have := Nat.mul_le_mul_right z (show k - Blk.parts N j z + 1 ≤ 8 by omega)
    rw [Nat.add_mul, Nat.one_mul] at this
    omega
theorem wunwrap (w : World) : Calls Tryz.prog 16 #[.string { data := #[0, 0, 0, 0, 0, 0, 0, 0, 0, 0, 0, 0, 0, 0, 0, 0, 0, 0] }, .int .i64 2, .slice none 0 0] w fun e w' => (∃ cc, e = .returned (.tuple #[.string { data := #[0, 0] }, .slice (some ⟨cc, 0, none⟩) 2 2, .int .i64 0])) ∧ Below w.heap.size w w' := by
  refine (unwrap_any { data := #[0, 0, 0, 0, 0, 0, 0, 0, 0, 0, 0, 0, 0, 0, 0, 0, 0, 0] } none 0 0 18 2 2 [] rfl (by decide) (by decide) rfl (by decide) (by decide) rfl (by decide) (fun p hp => by simp at hp) w (.inl rfl)).mono fun e w' h => ?_
  obtain ⟨er, o, k, x, cc, t, her, hU, hT, rfl, hI, _, hB⟩ := h
  have hn := no_er her
  have hc : Blk.Code [0, 0, 0, 0, 0, 0, 0, 0, 0] := by
    have h := Blk.code_enc [0] (by decide) (by decide)
    rwa [show Blk.enc [0] = [0, 0, 0, 0, 0, 0, 0, 0, 0] by decide +kernel] at h
  have hx : ∀ i, i < 2 → o i = [0] ∧ x i = 0 := fun i hi => by
    have hd := hU i hi
    unfold UdP at hd
    rw [ers_nil (prt_false hn rfl hi)] at hd
    have e1 : Gal.coefs (prt 2 i 2 (Gal.co (ByteArray.mk #[0, 0, 0, 0, 0, 0, 0, 0, 0, 0, 0, 0, 0, 0, 0, 0, 0, 0]).data.toList)) (Blk.parts 2 i 2 + 8) = [0, 0, 0, 0, 0, 0, 0, 0, 0] := by
      rcases (show i = 0 ∨ i = 1 by omega) with rfl | rfl <;> decide +kernel
    rw [e1] at hd
    obtain ⟨h1, _, h3⟩ := Blk.dec_unique (o' := [0]) (n' := 0) (e' := 0) hd (.inl ⟨_, near_self hc (by decide), rfl, by rw [dif_self]; rfl, rfl⟩)
    exact ⟨h1, h3⟩
  have ht : t = false := by
    rw [Bool.eq_false_iff]
    intro q
    obtain ⟨i, hi, h⟩ := hT.1 q
    exact h (hx i hi).2
  subst ht
  have e2 : Gal.coefs (Blk.udt o 2 2) 2 = [0, 0] := by
    rw [Gal.coefs_congr (g := fun _ => 0#8) (fun p hp => by
      unfold Blk.udt
      rw [if_pos (by omega), (hx (p % 2) (by omega)).1]
      rcases (show p = 0 ∨ p = 1 by omega) with rfl | rfl <;> rfl)]
    rfl
  refine ⟨⟨cc, ?_⟩, hB⟩
  rw [e2]
  rfl
set_option maxRecDepth 100000 in
/-- perigeelaw05.awake -/
theorem bawake_any (w : World) : Calls Tryz.prog 6 #[] w fun e w' => e = .returned (.bool true) ∧ Below w.heap.size w w' := by
  go_enter Tryz.func6, Tryz.ntmps6
  go_wp2_with fail
  (with_reducible refine (wenc _).mono ?_)
  rintro e w1 ⟨rfl, h1⟩
  have H1 := Lib.hid (h1)
  clear h1
  go_wp2_with fail
  (with_reducible refine (wdec _).mono ?_)
  rintro e w2 ⟨rfl, h2⟩
  have H2 := Lib.hid (bt H1.out h2)
  clear h2 H1
  go_wp2_with fail
  (with_reducible refine (wwrap _).mono ?_)
  rintro e w3 ⟨rfl, h3⟩
  have H3 := Lib.hid (bt H2.out h3)
  clear h3 H2
  go_wp2_with fail
  (with_reducible refine (wunwrap _).mono ?_)
  rintro e w4 ⟨⟨cc, rfl⟩, h4⟩
  have H4 := Lib.hid (bt H3.out h4)
  clear h4 H3
  go_wp2_with fail
  go_ret
  exact ⟨rfl, H4.out⟩
end Go.Proofs.YtlpjhmafplljaaaGreatDoor
/- The laid tables of the rows, bytes as parameters. -/
namespace Go.Proofs.YtlpjhmafplljaaaGreatDoor
open Go.ChangeShapes Go.WideShapes Go.ChangeAt Go.RowKit
set_option linter.unusedVariables false
def laidL : List (String × DataW Unit) := [("unicode/utf8.acceptRanges", Rows.laid_unicode_utf8_acceptRanges), ("unicode/utf8.first", Rows.laid_unicode_utf8_first)]
theorem laid_met (os : Os) (args : Array Value) : laidMetH Tryz.prog laidL ((World.laidAll Tryz.prog os laidL).forCall (fun _ _ => 0) ⟨#[], args, []⟩).memory := by
  rw [MakeChecks.laidMetH_plain _ _ _ (by kernel_rfl)]
  exact laidMet_laidAll _ (by kernel_rfl) (by kernel_rfl)
theorem bounds8 {x : Int} (h : (Lit.int .u8 x).wf = true) : ∃ r : BitVec 8, x = (r.toNat : Int) := by
  obtain ⟨h1, h2⟩ := bounds_u8 h
  exact ⟨BitVec.ofNat 8 x.toNat, by rw [BitVec.toNat_ofNat]; omega⟩
theorem beq_same (s : ByteArray) : (s == s) = true := by show (s.data == s.data) = true; simp
theorem bne_same (s : ByteArray) : (s != s) = false := by rw [bne, beq_same]; rfl
end Go.Proofs.YtlpjhmafplljaaaGreatDoor
