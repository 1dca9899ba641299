/- The contracts of block's strand, strands, spread over this program. -/
import Derived.Test.YtlpjhmafplljaaaGreatDoorBlkNw
namespace Go.Proofs.YtlpjhmafplljaaaGreatDoor
open Go.RowKit
set_option linter.unusedVariables false

/-- So many truth values. -/
def bvals (f : Nat → Bool) (n : Nat) : List Value := (List.range n).map (fun j => .bool (f j))
theorem bvals_succ (f : Nat → Bool) (n : Nat) : bvals f (n + 1) = bvals f n ++ [.bool (f n)] := by simp [bvals, List.range_succ]
theorem bvals_at (f : Nat → Bool) {n j : Nat} (h : j < n) : (bvals f n)[j]? = some (.bool (f j)) := by simp [bvals, h]
/-- Bytes, or truth values, at an address. -/
def BytesAt (w : World) (b o n : Nat) (f : Nat → BitVec 8) : Prop := b < w.heap.size ∧ ∀ k, k < n → w.cell? ⟨b, o + k, none⟩ = some (.int .u8 ((f k).toNat : Nat))
def BoolsAt (w : World) (b o n : Nat) (f : Nat → Bool) : Prop := b < w.heap.size ∧ ∀ k, k < n → w.cell? ⟨b, o + k, none⟩ = some (.bool (f k))
theorem BytesAt.below {w w' : World} {b o n : Nat} {f : Nat → BitVec 8} (h : BytesAt w b o n f) (hb : Below w.heap.size w w') : BytesAt w' b o n f := ⟨Nat.lt_of_lt_of_le h.1 hb.size, fun k hk => (hb.cell (p := ⟨b, o + k, none⟩) h.1).trans (h.2 k hk)⟩
theorem BoolsAt.below {w w' : World} {b o n : Nat} {f : Nat → Bool} (h : BoolsAt w b o n f) (hb : Below w.heap.size w w') : BoolsAt w' b o n f := ⟨Nat.lt_of_lt_of_le h.1 hb.size, fun k hk => (hb.cell (p := ⟨b, o + k, none⟩) h.1).trans (h.2 k hk)⟩
theorem BytesAt.of {w : World} {b n : Nat} {f : Nat → BitVec 8} (h : NumsK .u8 w b n (fun j => (f j).toNat)) : BytesAt w b 0 n f := ⟨h.1, fun k hk => by rw [Nat.zero_add]; exact h.cell hk⟩
theorem BoolsAt.of {w : World} {b n : Nat} {f : Nat → Bool} (h : Bools w b n f) : BoolsAt w b 0 n f := ⟨h.1, fun k hk => by rw [Nat.zero_add]; exact h.cell hk⟩
theorem BytesAt.head {w : World} {b n m : Nat} {f : Nat → BitVec 8} (h : BytesAt w b 0 n f) (hm : m ≤ n) : BytesAt w b 0 m f := ⟨h.1, fun k hk => h.2 k (by omega)⟩
theorem BoolsAt.head {w : World} {b n m : Nat} {f : Nat → Bool} (h : BoolsAt w b 0 n f) (hm : m ≤ n) : BoolsAt w b 0 m f := ⟨h.1, fun k hk => h.2 k (by omega)⟩
theorem BytesAt.tail {w : World} {b n m : Nat} {f : Nat → BitVec 8} (h : BytesAt w b 0 n f) (hm : m ≤ n) : BytesAt w b m (n - m) (fun k => f (m + k)) := ⟨h.1, fun k hk => by have := h.2 (m + k) (by omega); rwa [Nat.zero_add] at this⟩
theorem BoolsAt.tail {w : World} {b n m : Nat} {f : Nat → Bool} (h : BoolsAt w b 0 n f) (hm : m ≤ n) : BoolsAt w b m (n - m) (fun k => f (m + k)) := ⟨h.1, fun k hk => by have := h.2 (m + k) (by omega); rwa [Nat.zero_add] at this⟩
/-- What a strand of truth values is. -/
def WoB (m : Nat) (U : Nat → Bool) (w : World) (e : Ending) (w' : World) : Prop := ∃ v, e = .returned v ∧ w'.ownsRow w.heap.size 4 1 v m (bvals U m) ∧ Below w.heap.size w w'
theorem parts_le (n j d : Nat) (hj : j < d) : Blk.parts n j d ≤ n := by
  by_cases h : Blk.parts n j d ≤ n
  · exact h
  · have := (Blk.parts_iff n j d n hj).2 (by omega)
    have := Nat.mul_le_mul_left n (show 1 ≤ d by omega)
    omega
set_option maxRecDepth 100000 in
theorem strandByte_any (b o L c j d : Nat) (f : Nat → BitVec 8) (hj : j < d) (hd : d ≤ 1000) (hL : L ≤ 400000) (w : World) (H : BytesAt w b o L f) :
    Calls Tryz.prog 25 #[.slice (some ⟨b, o, none⟩) L c, .int .i64 (j : Nat), .int .i64 (d : Nat)] w (WoP (Blk.parts L j d) (fun k => f (j + k * d)) w) := by
  have HA := Lib.hid H
  have HI := Lib.hid (fun k => Blk.parts_iff L j d k hj)
  have ML := Lib.hid (parts_le L j d hj)
  have vs0 : ∀ k, vals (fun k => f (j + k * d)) (k + 1) = vals (fun k => f (j + k * d)) k ++ [.int .u8 ((f (j + k * d)).toNat : Nat)] := fun k => vals_succ _ k
  have VSS := Lib.hid vs0
  obtain ⟨m, hm⟩ : ∃ m, Blk.parts L j d = m := ⟨_, rfl⟩
  rw [hm] at HI ML ⊢
  obtain ⟨G, hG⟩ : ∃ G, (fun k => f (j + k * d)) = G := ⟨_, rfl⟩
  rw [hG] at VSS ⊢
  clear H vs0 hm hG
  go_enter Tryz.func25, Tryz.ntmps25
  go_wp2_with fail
  go_loopw [7, 8] (fun s i wr => ∃ k : Nat, k ≤ m ∧ i = .int .i64 ((j + k * d : Nat) : Int) ∧ wr.ownsRow w.heap.size 5 1 s k (vals G k) ∧ Below w.heap.size w wr) (fun s _ _ => m - slen s)
  case atStart => exact ⟨0, Nat.zero_le _, by rw [Nat.zero_mul, Nat.add_zero], World.ownsRow_nil _ _ _ _, Below.refl _ _⟩
  case round =>
    obtain ⟨k, hk, rfl, hown, hB⟩ := hrel
    have hi := HI.out k
    have hM := ML.out
    have ns := VSS.out k
    have nx : j + (k + 1) * d = j + k * d + d := by rw [Nat.add_mul, Nat.one_mul]; omega
    obtain ⟨i, hi'⟩ : ∃ i, j + k * d = i := ⟨_, rfl⟩
    rw [hi'] at hi nx ns ⊢
    by_cases hlt : i < L
    · have lk : k < m := hi.1 hlt
      have ck := (HA.out.below hB).2 i hlt
      obtain ⟨u, hu⟩ : ∃ u, (f i).toNat = u := ⟨_, rfl⟩
      rw [hu] at ck ns
      have NS := Lib.hid ns
      have NX := Lib.hid nx
      have SL := Lib.hid (own_slen hown)
      have HO := Lib.hid hown
      obtain ⟨i0, hi0, hz0, hz1, hz2⟩ := info_parts info_u8
      have B1 := Lib.hid (hB.alloc hB.size (.cells #[.int .u8 (u : Int)] 5))
      have km : k ≤ 400000 := by omega
      have KM := Lib.hid lk
      clear hu ns hown hB hi hi' HI hM nx hk lk VSS
      go_wp2_with (at_builtin; refine wpList_append_own _ rfl _ _ 41 rfl w.heap.size 5 i0 (.int .u8 0) 1 1 Tryz.underlying41 hi0 hz0 hz1 hz2 rfl (by decide) _ _ _ rfl (HO.out.alloc _) ⟨wr.heap.size, 0, none⟩ 1 1 [.int .u8 (u : Int)] rfl rfl cell_one (by simp [Value.oneCell']) (by unfold maxLen; omega) (by omega) (by have := B1.out.size; simp at this ⊢; omega) ?_; intro v' w2 hown2 hgrow _; obtain ⟨g', cap', rfl⟩ := ownsRow_succ hown2; have HO2 := Lib.hid hown2; have BW2 := Lib.hid (B1.out.grown hgrow B1.out.size (fun k e => own_block_ge HO.out e)); clear hown2 hgrow)
      go_roundw
      case rel => exact ⟨k + 1, KM.out, by rw [NX.out]; go_num, by rw [NS.out]; exact HO2.out, BW2.out⟩
      case measure => rw [SL.out]; have := KM.out; simp [slen]; omega
    · obtain rfl : k = m := by
        by_cases h : k < m
        · exact absurd (hi.2 h) hlt
        · omega
      have FIN := Lib.hid (show ∀ v, wr.ownsRow w.heap.size 5 1 v k (vals G k) → WoP k G w (.returned v) wr from fun v h => ⟨v, rfl, h, hB⟩)
      have HO := Lib.hid hown
      clear hown hB hi ns nx hi' HI VSS
      go_wp2_with fail
      go_ret
      exact FIN.out _ HO.out
/-- A strand as a value. -/
def StrByte (B m : Nat) (U : Nat → BitVec 8) (v : Value) (w : World) : Prop := w.ownsRow B 5 1 v m (vals U m)
theorem StrByte.mono {B m : Nat} {U : Nat → BitVec 8} {v : Value} {w w' : World} (h : StrByte B m U v w) (hb : Below w.heap.size w w') : StrByte B m U v w' := own_below h hb
theorem strByte_two (b o L c j d : Nat) (f : Nat → BitVec 8) (B : Nat) (hj : j < d) (hd : d ≤ 1000) (hL : L ≤ 400000) (w : World) (H : BytesAt w b o L f) (hB : B ≤ w.heap.size) :
    Calls Tryz.prog 25 #[.slice (some ⟨b, o, none⟩) L c, .int .i64 (j : Nat), .int .i64 (d : Nat)] w fun e w2 => ∃ v, e = .returned v ∧ StrByte B (Blk.parts L j d) (fun k => f (j + k * d)) v w2 ∧ Below w.heap.size w w2 :=
  (strandByte_any b o L c j d f hj hd hL w H).mono fun e w2 h => by
    obtain ⟨v, rfl, h1, h2⟩ := h
    exact ⟨v, rfl, own_mono h1 hB, h2⟩
structure StByteRegion (b n c N j d B0 : Nat) (f : Nat → BitVec 8) (A : Act) (w0 : World) (s : Nat → Bool) (a : Act) (w : World) : Prop where
  off : Off [9, 10, 11, 12, 13, 14, 15, 16, 17, 18, 19, 20] a A
  before : Below w0.heap.size w0 w
  t0 : s 0 = true → a.eval (.tmp 9) = .slice (some ⟨b, 0, none⟩) n c
  t1 : s 1 = true → a.eval (.tmp 10) = .int .i64 (N : Nat)
  t2 : s 2 = true → a.eval (.tmp 11) = .slice (some ⟨b, 0, none⟩) N c
  t3 : s 3 = true → a.eval (.tmp 12) = .int .i64 (j : Nat)
  t4 : s 4 = true → a.eval (.tmp 13) = .int .i64 (d : Nat)
  t5 : s 5 = true → ∃ v5, a.eval (.tmp 14) = v5 ∧ StrByte B0 (Blk.parts N j d) (fun k => f (j + k * d)) v5 w
  t6 : s 6 = true → a.eval (.tmp 15) = .slice (some ⟨b, 0, none⟩) n c
  t7 : s 7 = true → a.eval (.tmp 16) = .int .i64 (N : Nat)
  t8 : s 8 = true → a.eval (.tmp 17) = .slice (some ⟨b, N, none⟩) (n - N) (c - N)
  t9 : s 9 = true → a.eval (.tmp 18) = .int .i64 (j : Nat)
  t10 : s 10 = true → a.eval (.tmp 19) = .int .i64 (d : Nat)
  t11 : s 11 = true → ∃ v11, a.eval (.tmp 20) = v11 ∧ StrByte B0 (Blk.parts (n - N) j d) (fun k => f (N + (j + k * d))) v11 w
set_option maxHeartbeats 2000000 in
set_option maxRecDepth 100000 in
theorem stByteRegion {id : Nat} {l : List Oper} {A : Act} {w : World} {Q : Exit → Act → World → Prop} (b n c N j d B0 : Nat) (f : Nat → BitVec 8)
    (hj : j < d) (hd : d ≤ 1000) (hn : n ≤ 400000) (hN : N < n) (hc : n ≤ c) (hB0 : B0 ≤ w.heap.size) (HH : BytesAt w b 0 n f)
    (hB : tableH l.toArray 12 (fun i => match i with | 0 => [] | 1 => [] | 2 => [0, 1] | 3 => [] | 4 => [] | 5 => [2, 3, 4] | 6 => [] | 7 => [] | 8 => [6, 7] | 9 => [] | 10 => [] | 11 => [8, 9, 10] | _ => []) (fun _ => []) = true)
    (h0 : pick l 0 = some (.move (.tmp 0), some 9))
    (h1 : pick l 1 = some (.move (.tmp 1), some 10))
    (h2 : pick l 2 = some (.slice 41 (.tmp 9) none (some (.tmp 10)) none, some 11))
    (h3 : pick l 3 = some (.move (.tmp 2), some 12))
    (h4 : pick l 4 = some (.move (.tmp 3), some 13))
    (h5 : pick l 5 = some (.call { callee := .value (.func 25), args := #[.tmp 11, .tmp 12, .tmp 13], argTypes := #[41, 3, 3] }, some 14))
    (h6 : pick l 6 = some (.move (.tmp 0), some 15))
    (h7 : pick l 7 = some (.move (.tmp 1), some 16))
    (h8 : pick l 8 = some (.slice 41 (.tmp 15) (some (.tmp 16)) none none, some 17))
    (h9 : pick l 9 = some (.move (.tmp 2), some 18))
    (h10 : pick l 10 = some (.move (.tmp 3), some 19))
    (h11 : pick l 11 = some (.call { callee := .value (.func 25), args := #[.tmp 17, .tmp 18, .tmp 19], argTypes := #[41, 3, 3] }, some 20))
    (hs : A.tmps.size = 22)
    (x0 : A.eval (.tmp 0) = .slice (some ⟨b, 0, none⟩) n c)
    (x1 : A.eval (.tmp 1) = .int .i64 (N : Nat))
    (x2 : A.eval (.tmp 2) = .int .i64 (j : Nat))
    (x3 : A.eval (.tmp 3) = .int .i64 (d : Nat))
    (h : ∀ v5 v11 w1, Below w.heap.size w w1 → StrByte B0 (Blk.parts N j d) (fun k => f (j + k * d)) v5 w1 → StrByte B0 (Blk.parts (n - N) j d) (fun k => f (N + (j + k * d))) v11 w1 → wpList Tryz.prog l.toArray Q (l.drop 12) ((((((((((((A.put (some 9) (.slice (some ⟨b, 0, none⟩) n c)).put (some 10) (.int .i64 (N : Nat))).put (some 11) (.slice (some ⟨b, 0, none⟩) N c)).put (some 12) (.int .i64 (j : Nat))).put (some 13) (.int .i64 (d : Nat))).put (some 14) (v5)).put (some 15) (.slice (some ⟨b, 0, none⟩) n c)).put (some 16) (.int .i64 (N : Nat))).put (some 17) (.slice (some ⟨b, N, none⟩) (n - N) (c - N))).put (some 18) (.int .i64 (j : Nat))).put (some 19) (.int .i64 (d : Nat))).put (some 20) (v11)) w1) :
    (Code.region id l.toArray true).wp Tryz.prog Q A w := by
  refine wp_region_head (by kernel_rfl) _ _ _ hB (StByteRegion b n c N j d B0 f A w) ⟨Off.refl _ _, (Below.refl _ _).drew, by simp, by simp, by simp, by simp, by simp, by simp, by simp, by simp, by simp, by simp, by simp, by simp⟩ ?_ ?_
  · intro s a w' S i' o il ho hsi hT K hK
    have sz : a.tmps.size = 22 := by rw [S.off.2.1]; exact hs
    have y0 : a.eval (.tmp 0) = .slice (some ⟨b, 0, none⟩) n c := by rw [S.off.eval (by decide)]; exact x0
    have y1 : a.eval (.tmp 1) = .int .i64 (N : Nat) := by rw [S.off.eval (by decide)]; exact x1
    have y2 : a.eval (.tmp 2) = .int .i64 (j : Nat) := by rw [S.off.eval (by decide)]; exact x2
    have y3 : a.eval (.tmp 3) = .int .i64 (d : Nat) := by rw [S.off.eval (by decide)]; exact x3
    match i', il, ho, hsi, hT with
    | 0, _, ho, hsi, hT =>
      obtain ⟨e1, e2⟩ := pick_of h0 ho
      have BW := S.before
      refine step_val (v := .slice (some ⟨b, 0, none⟩) n c) (by simp only [execOp, e1, y0]; go_simp) (hK _ _ ?_)
      rw [e2]
      exact ⟨S.off.put (by decide) _, S.before, fun _ => (eval_put _ _ _ (by omega)).trans rfl, kp S.t1, kp S.t2, kp S.t3, kp S.t4, fun g => (S.t5 (by simpa using g)).imp fun b hb => ⟨by rw [eval_put_ne _ _ _ _ (by decide)]; exact hb.1, hb.2⟩, kp S.t6, kp S.t7, kp S.t8, kp S.t9, kp S.t10, fun g => (S.t11 (by simpa using g)).imp fun b hb => ⟨by rw [eval_put_ne _ _ _ _ (by decide)]; exact hb.1, hb.2⟩⟩
    | 1, _, ho, hsi, hT =>
      obtain ⟨e1, e2⟩ := pick_of h1 ho
      have BW := S.before
      refine step_val (v := .int .i64 (N : Nat)) (by simp only [execOp, e1, y1]; go_simp) (hK _ _ ?_)
      rw [e2]
      exact ⟨S.off.put (by decide) _, S.before, kp S.t0, fun _ => (eval_put _ _ _ (by omega)).trans rfl, kp S.t2, kp S.t3, kp S.t4, fun g => (S.t5 (by simpa using g)).imp fun b hb => ⟨by rw [eval_put_ne _ _ _ _ (by decide)]; exact hb.1, hb.2⟩, kp S.t6, kp S.t7, kp S.t8, kp S.t9, kp S.t10, fun g => (S.t11 (by simpa using g)).imp fun b hb => ⟨by rw [eval_put_ne _ _ _ _ (by decide)]; exact hb.1, hb.2⟩⟩
    | 2, _, ho, hsi, hT =>
      obtain ⟨e1, e2⟩ := pick_of h2 ho
      have D0 : s 0 = true := list_pos hT (d := 0) (by decide)
      have D1 : s 1 = true := list_pos hT (d := 1) (by decide)
      have BW := S.before
      refine step_val (v := .slice (some ⟨b, 0, none⟩) N c) (by simp only [execOp, e1, Option.map_some, Option.map_none, S.t0 D0, S.t1 D1]; go_simp; intro hcN; omega) (hK _ _ ?_)
      rw [e2]
      exact ⟨S.off.put (by decide) _, S.before, kp S.t0, kp S.t1, fun _ => (eval_put _ _ _ (by omega)).trans rfl, kp S.t3, kp S.t4, fun g => (S.t5 (by simpa using g)).imp fun b hb => ⟨by rw [eval_put_ne _ _ _ _ (by decide)]; exact hb.1, hb.2⟩, kp S.t6, kp S.t7, kp S.t8, kp S.t9, kp S.t10, fun g => (S.t11 (by simpa using g)).imp fun b hb => ⟨by rw [eval_put_ne _ _ _ _ (by decide)]; exact hb.1, hb.2⟩⟩
    | 3, _, ho, hsi, hT =>
      obtain ⟨e1, e2⟩ := pick_of h3 ho
      have BW := S.before
      refine step_val (v := .int .i64 (j : Nat)) (by simp only [execOp, e1, y2]; go_simp) (hK _ _ ?_)
      rw [e2]
      exact ⟨S.off.put (by decide) _, S.before, kp S.t0, kp S.t1, kp S.t2, fun _ => (eval_put _ _ _ (by omega)).trans rfl, kp S.t4, fun g => (S.t5 (by simpa using g)).imp fun b hb => ⟨by rw [eval_put_ne _ _ _ _ (by decide)]; exact hb.1, hb.2⟩, kp S.t6, kp S.t7, kp S.t8, kp S.t9, kp S.t10, fun g => (S.t11 (by simpa using g)).imp fun b hb => ⟨by rw [eval_put_ne _ _ _ _ (by decide)]; exact hb.1, hb.2⟩⟩
    | 4, _, ho, hsi, hT =>
      obtain ⟨e1, e2⟩ := pick_of h4 ho
      have BW := S.before
      refine step_val (v := .int .i64 (d : Nat)) (by simp only [execOp, e1, y3]; go_simp) (hK _ _ ?_)
      rw [e2]
      exact ⟨S.off.put (by decide) _, S.before, kp S.t0, kp S.t1, kp S.t2, kp S.t3, fun _ => (eval_put _ _ _ (by omega)).trans rfl, fun g => (S.t5 (by simpa using g)).imp fun b hb => ⟨by rw [eval_put_ne _ _ _ _ (by decide)]; exact hb.1, hb.2⟩, kp S.t6, kp S.t7, kp S.t8, kp S.t9, kp S.t10, fun g => (S.t11 (by simpa using g)).imp fun b hb => ⟨by rw [eval_put_ne _ _ _ _ (by decide)]; exact hb.1, hb.2⟩⟩
    | 5, _, ho, hsi, hT =>
      obtain ⟨e1, e2⟩ := pick_of h5 ho
      have D2 : s 2 = true := list_pos hT (d := 2) (by decide)
      have D3 : s 3 = true := list_pos hT (d := 3) (by decide)
      have D4 : s 4 = true := list_pos hT (d := 4) (by decide)
      have BW := S.before
      refine step_call 25 (fun args w => by go_simp) _ _ e1 #[.slice (some ⟨b, 0, none⟩) N c, .int .i64 (j : Nat), .int .i64 (d : Nat)] (by simp only [List.map_toArray, List.map_cons, List.map_nil, S.t2 D2, S.t3 D3, S.t4 D4]) ((strByte_two b 0 N c j d f B0 hj hd (by omega) _ (HH.head (by omega) |>.below BW) (Nat.le_trans hB0 BW.size)).mono ?_)
      rintro e w2 ⟨v, rfl, FF, BB⟩
      refine ⟨_, rfl, hK _ _ ?_⟩
      rw [e2]
      exact ⟨S.off.put (by decide) _, bt BW BB, kp S.t0, kp S.t1, kp S.t2, kp S.t3, kp S.t4, fun _ => ⟨_, (eval_put _ _ _ (by omega)).trans rfl, FF⟩, kp S.t6, kp S.t7, kp S.t8, kp S.t9, kp S.t10, fun g => (S.t11 (by simpa using g)).imp fun b hb => ⟨by rw [eval_put_ne _ _ _ _ (by decide)]; exact hb.1, (StrByte.mono hb.2 BB)⟩⟩
    | 6, _, ho, hsi, hT =>
      obtain ⟨e1, e2⟩ := pick_of h6 ho
      have BW := S.before
      refine step_val (v := .slice (some ⟨b, 0, none⟩) n c) (by simp only [execOp, e1, y0]; go_simp) (hK _ _ ?_)
      rw [e2]
      exact ⟨S.off.put (by decide) _, S.before, kp S.t0, kp S.t1, kp S.t2, kp S.t3, kp S.t4, fun g => (S.t5 (by simpa using g)).imp fun b hb => ⟨by rw [eval_put_ne _ _ _ _ (by decide)]; exact hb.1, hb.2⟩, fun _ => (eval_put _ _ _ (by omega)).trans rfl, kp S.t7, kp S.t8, kp S.t9, kp S.t10, fun g => (S.t11 (by simpa using g)).imp fun b hb => ⟨by rw [eval_put_ne _ _ _ _ (by decide)]; exact hb.1, hb.2⟩⟩
    | 7, _, ho, hsi, hT =>
      obtain ⟨e1, e2⟩ := pick_of h7 ho
      have BW := S.before
      refine step_val (v := .int .i64 (N : Nat)) (by simp only [execOp, e1, y1]; go_simp) (hK _ _ ?_)
      rw [e2]
      exact ⟨S.off.put (by decide) _, S.before, kp S.t0, kp S.t1, kp S.t2, kp S.t3, kp S.t4, fun g => (S.t5 (by simpa using g)).imp fun b hb => ⟨by rw [eval_put_ne _ _ _ _ (by decide)]; exact hb.1, hb.2⟩, kp S.t6, fun _ => (eval_put _ _ _ (by omega)).trans rfl, kp S.t8, kp S.t9, kp S.t10, fun g => (S.t11 (by simpa using g)).imp fun b hb => ⟨by rw [eval_put_ne _ _ _ _ (by decide)]; exact hb.1, hb.2⟩⟩
    | 8, _, ho, hsi, hT =>
      obtain ⟨e1, e2⟩ := pick_of h8 ho
      have D6 : s 6 = true := list_pos hT (d := 6) (by decide)
      have D7 : s 7 = true := list_pos hT (d := 7) (by decide)
      have BW := S.before
      refine step_val (v := .slice (some ⟨b, N, none⟩) (n - N) (c - N)) (by simp only [execOp, e1, Option.map_some, Option.map_none, S.t6 D6, S.t7 D7]; go_simp; rw [if_pos (by omega), if_neg (by omega)]) (hK _ _ ?_)
      rw [e2]
      exact ⟨S.off.put (by decide) _, S.before, kp S.t0, kp S.t1, kp S.t2, kp S.t3, kp S.t4, fun g => (S.t5 (by simpa using g)).imp fun b hb => ⟨by rw [eval_put_ne _ _ _ _ (by decide)]; exact hb.1, hb.2⟩, kp S.t6, kp S.t7, fun _ => (eval_put _ _ _ (by omega)).trans rfl, kp S.t9, kp S.t10, fun g => (S.t11 (by simpa using g)).imp fun b hb => ⟨by rw [eval_put_ne _ _ _ _ (by decide)]; exact hb.1, hb.2⟩⟩
    | 9, _, ho, hsi, hT =>
      obtain ⟨e1, e2⟩ := pick_of h9 ho
      have BW := S.before
      refine step_val (v := .int .i64 (j : Nat)) (by simp only [execOp, e1, y2]; go_simp) (hK _ _ ?_)
      rw [e2]
      exact ⟨S.off.put (by decide) _, S.before, kp S.t0, kp S.t1, kp S.t2, kp S.t3, kp S.t4, fun g => (S.t5 (by simpa using g)).imp fun b hb => ⟨by rw [eval_put_ne _ _ _ _ (by decide)]; exact hb.1, hb.2⟩, kp S.t6, kp S.t7, kp S.t8, fun _ => (eval_put _ _ _ (by omega)).trans rfl, kp S.t10, fun g => (S.t11 (by simpa using g)).imp fun b hb => ⟨by rw [eval_put_ne _ _ _ _ (by decide)]; exact hb.1, hb.2⟩⟩
    | 10, _, ho, hsi, hT =>
      obtain ⟨e1, e2⟩ := pick_of h10 ho
      have BW := S.before
      refine step_val (v := .int .i64 (d : Nat)) (by simp only [execOp, e1, y3]; go_simp) (hK _ _ ?_)
      rw [e2]
      exact ⟨S.off.put (by decide) _, S.before, kp S.t0, kp S.t1, kp S.t2, kp S.t3, kp S.t4, fun g => (S.t5 (by simpa using g)).imp fun b hb => ⟨by rw [eval_put_ne _ _ _ _ (by decide)]; exact hb.1, hb.2⟩, kp S.t6, kp S.t7, kp S.t8, kp S.t9, fun _ => (eval_put _ _ _ (by omega)).trans rfl, fun g => (S.t11 (by simpa using g)).imp fun b hb => ⟨by rw [eval_put_ne _ _ _ _ (by decide)]; exact hb.1, hb.2⟩⟩
    | 11, _, ho, hsi, hT =>
      obtain ⟨e1, e2⟩ := pick_of h11 ho
      have D8 : s 8 = true := list_pos hT (d := 8) (by decide)
      have D9 : s 9 = true := list_pos hT (d := 9) (by decide)
      have D10 : s 10 = true := list_pos hT (d := 10) (by decide)
      have BW := S.before
      refine step_call 25 (fun args w => by go_simp) _ _ e1 #[.slice (some ⟨b, N, none⟩) (n - N) (c - N), .int .i64 (j : Nat), .int .i64 (d : Nat)] (by simp only [List.map_toArray, List.map_cons, List.map_nil, S.t8 D8, S.t9 D9, S.t10 D10]) ((strByte_two b N (n - N) (c - N) j d (fun k => f (N + k)) B0 hj hd (by omega) _ (HH.tail (by omega) |>.below BW) (Nat.le_trans hB0 BW.size)).mono ?_)
      rintro e w2 ⟨v, rfl, FF, BB⟩
      refine ⟨_, rfl, hK _ _ ?_⟩
      rw [e2]
      exact ⟨S.off.put (by decide) _, bt BW BB, kp S.t0, kp S.t1, kp S.t2, kp S.t3, kp S.t4, fun g => (S.t5 (by simpa using g)).imp fun b hb => ⟨by rw [eval_put_ne _ _ _ _ (by decide)]; exact hb.1, (StrByte.mono hb.2 BB)⟩, kp S.t6, kp S.t7, kp S.t8, kp S.t9, kp S.t10, fun _ => ⟨_, (eval_put _ _ _ (by omega)).trans rfl, FF⟩⟩
    | _ + 12, il, _, _, _ => exact absurd il (by omega)
  · intro s a w' S hall
    have a0 := hall 0 (by omega)
    have a1 := hall 1 (by omega)
    have a2 := hall 2 (by omega)
    have a3 := hall 3 (by omega)
    have a4 := hall 4 (by omega)
    have a5 := hall 5 (by omega)
    have a6 := hall 6 (by omega)
    have a7 := hall 7 (by omega)
    have a8 := hall 8 (by omega)
    have a9 := hall 9 (by omega)
    have a10 := hall 10 (by omega)
    have a11 := hall 11 (by omega)
    have e := off_norm _ (by intro d hd; simp at hd; omega) S.off
    obtain ⟨v5, M5, F5⟩ := S.t5 a5
    obtain ⟨v11, M11, F11⟩ := S.t11 a11
    simp only [List.foldl, S.t0 a0, S.t1 a1, S.t2 a2, S.t3 a3, S.t4 a4, M5, S.t6 a6, S.t7 a7, S.t8 a8, S.t9 a9, S.t10 a10, M11] at e
    rw [e]
    exact h _ _ _ S.before F5 F11
/-- Two strands behind each other. -/
def jn {α : Type} (m : Nat) (G1 G2 : Nat → α) (k : Nat) : α := if k < m then G1 k else G2 (k - m)
theorem vals_join (m k : Nat) (G1 G2 : Nat → BitVec 8) : vals G1 m ++ vals G2 k = vals (jn m G1 G2) (m + k) := by
  unfold vals
  rw [List.range_add, List.map_append, List.map_map]
  congr 1
  · refine List.map_congr_left (fun i hi => ?_)
    unfold jn
    rw [if_pos (List.mem_range.1 hi)]
  · refine List.map_congr_left (fun i hi => ?_)
    show _ = (fun x : BitVec 8 => Value.int .u8 (x.toNat : Nat)) (jn m G1 G2 (m + i))
    unfold jn
    rw [if_neg (by omega), show m + i - m = i by omega]
set_option maxRecDepth 100000 in
theorem strandsByte_any (b n c N j d : Nat) (f : Nat → BitVec 8) (hj : j < d) (hd : d ≤ 1000) (hn : n ≤ 100000) (hN : N < n) (hc : n ≤ c) (hp : 0 < Blk.parts (n - N) j d) (w : World) (H : BytesAt w b 0 n f) :
    Calls Tryz.prog 55 #[.slice (some ⟨b, 0, none⟩) n c, .int .i64 (N : Nat), .int .i64 (j : Nat), .int .i64 (d : Nat)] w (WoP (Blk.parts N j d + Blk.parts (n - N) j d) (jn (Blk.parts N j d) (fun k => f (j + k * d)) (fun k => f (N + (j + k * d)))) w) := by
  have HA := Lib.hid H
  have p1 := parts_le N j d hj
  have p2 := parts_le (n - N) j d hj
  have J := Lib.hid (vals_join (Blk.parts N j d) (Blk.parts (n - N) j d) (fun k => f (j + k * d)) (fun k => f (N + (j + k * d))))
  obtain ⟨i0, hi0, hz0, hz1, hz2⟩ := info_parts info_u8
  clear H
  go_enter Tryz.func55, Tryz.ntmps55
  go_upto_region 1 with fail
  refine stByteRegion b n c N j d w.heap.size f hj hd (by omega) hN hc (Nat.le_refl _) HA.out (by kernel_rfl) rfl rfl rfl rfl rfl rfl rfl rfl rfl rfl rfl rfl rfl rfl rfl rfl rfl ?_
  intro v5 v11 w1 B1 F5 F11
  simp only [Act.put, List.setIfInBounds_toArray, List.set_cons_succ, List.set_cons_zero, List.drop_succ_cons, List.drop_zero]
  unfold StrByte at F5 F11
  obtain ⟨m1, hm1⟩ : ∃ m, Blk.parts N j d = m := ⟨_, rfl⟩
  obtain ⟨m2, hm2⟩ : ∃ m, Blk.parts (n - N) j d = m := ⟨_, rfl⟩
  rw [hm1] at F5 p1
  rw [hm2] at F11 p2 hp
  rw [hm1, hm2] at J
  obtain ⟨G1, hG1⟩ : ∃ G, (fun k => f (j + k * d)) = G := ⟨_, rfl⟩
  obtain ⟨G2, hG2⟩ : ∃ G, (fun k => f (N + (j + k * d))) = G := ⟨_, rfl⟩
  rw [hG1] at F5
  rw [hG2] at F11
  rw [hG1, hG2] at J
  have HM1 := Lib.hid hm1
  have HM2 := Lib.hid hm2
  have HG1 := Lib.hid hG1
  have HG2 := Lib.hid hG2
  have HB1 := Lib.hid B1
  have HO5 := Lib.hid F5
  have SZ := Lib.hid B1.size
  have SRC := Lib.hid F11
  clear F5 B1 hm1 hm2 hG1 hG2
  rcases F11.2 with ⟨rfl, h0⟩ | ⟨g2, c2, cur, rfl, hg2, hh2, hc2, hmm2, hsz2, ht2⟩
  · exact absurd h0 (by omega)
  · have CL := Lib.hid (show ∀ i u, (vals G2 m2)[i]? = some u → w1.cell? ((⟨g2, 0, none⟩ : Addr).add i) = some u from fun i u hu => by
      rw [addr_add, Nat.zero_add]
      exact ((own_at SRC.out).2.2.2 i u hu).1)
    have O1 := Lib.hid (show ∀ u ∈ vals G2 m2, u.oneCell' = true from fun u hu => by
      unfold vals at hu
      obtain ⟨i, _, rfl⟩ := List.mem_map.1 hu
      rfl)
    have VL := Lib.hid (show (vals G2 m2).length = m2 * 1 by simp [vals])
    clear F11 hh2 ht2 hg2 hc2 hmm2 hsz2
    go_wp2_with (at_builtin; refine wpList_append_own _ rfl _ _ 41 rfl w.heap.size 5 i0 (.int .u8 0) 1 1 Tryz.underlying41 hi0 hz0 hz1 hz2 rfl (by decide) _ _ _ rfl HO5.out ⟨g2, 0, none⟩ m2 c2 (vals G2 m2) rfl VL.out CL.out O1.out (by unfold maxLen; omega) (by omega) SZ.out ?_; intro v' w2 hown2 hgrow _; have HO2 := Lib.hid hown2; have BW2 := Lib.hid (HB1.out.grown hgrow HB1.out.size (fun k e => own_block_ge HO5.out e)); clear hown2 hgrow)
    go_ret
    exact ⟨_, rfl, by rw [HM1.out, HM2.out, HG1.out, HG2.out]; have ho := HO2.out; rw [J.out] at ho; exact ho, BW2.out⟩
set_option maxRecDepth 100000 in
theorem strandBool_any (b o L c j d : Nat) (f : Nat → Bool) (hj : j < d) (hd : d ≤ 1000) (hL : L ≤ 400000) (w : World) (H : BoolsAt w b o L f) :
    Calls Tryz.prog 77 #[.slice (some ⟨b, o, none⟩) L c, .int .i64 (j : Nat), .int .i64 (d : Nat)] w (WoB (Blk.parts L j d) (fun k => f (j + k * d)) w) := by
  have HA := Lib.hid H
  have HI := Lib.hid (fun k => Blk.parts_iff L j d k hj)
  have ML := Lib.hid (parts_le L j d hj)
  have vs0 : ∀ k, bvals (fun k => f (j + k * d)) (k + 1) = bvals (fun k => f (j + k * d)) k ++ [.bool (f (j + k * d))] := fun k => bvals_succ _ k
  have VSS := Lib.hid vs0
  obtain ⟨m, hm⟩ : ∃ m, Blk.parts L j d = m := ⟨_, rfl⟩
  rw [hm] at HI ML ⊢
  obtain ⟨G, hG⟩ : ∃ G, (fun k => f (j + k * d)) = G := ⟨_, rfl⟩
  rw [hG] at VSS ⊢
  clear H vs0 hm hG
  go_enter Tryz.func77, Tryz.ntmps77
  go_wp2_with fail
  go_loopw [7, 8] (fun s i wr => ∃ k : Nat, k ≤ m ∧ i = .int .i64 ((j + k * d : Nat) : Int) ∧ wr.ownsRow w.heap.size 4 1 s k (bvals G k) ∧ Below w.heap.size w wr) (fun s _ _ => m - slen s)
  case atStart => exact ⟨0, Nat.zero_le _, by rw [Nat.zero_mul, Nat.add_zero], World.ownsRow_nil _ _ _ _, Below.refl _ _⟩
  case round =>
    obtain ⟨k, hk, rfl, hown, hB⟩ := hrel
    have hi := HI.out k
    have hM := ML.out
    have ns := VSS.out k
    have nx : j + (k + 1) * d = j + k * d + d := by rw [Nat.add_mul, Nat.one_mul]; omega
    obtain ⟨i, hi'⟩ : ∃ i, j + k * d = i := ⟨_, rfl⟩
    rw [hi'] at hi nx ns ⊢
    by_cases hlt : i < L
    · have lk : k < m := hi.1 hlt
      have ck := (HA.out.below hB).2 i hlt
      obtain ⟨u, hu⟩ : ∃ u, f i = u := ⟨_, rfl⟩
      rw [hu] at ck ns
      have NS := Lib.hid ns
      have NX := Lib.hid nx
      have SL := Lib.hid (own_slen hown)
      have HO := Lib.hid hown
      obtain ⟨i0, hi0, hz0, hz1, hz2⟩ := info_parts info_bool
      have B1 := Lib.hid (hB.alloc hB.size (.cells #[.bool u] 4))
      have km : k ≤ 400000 := by omega
      have KM := Lib.hid lk
      clear hu ns hown hB hi hi' HI hM nx hk lk VSS
      go_wp2_with (at_builtin; refine wpList_append_own _ rfl _ _ 51 rfl w.heap.size 4 i0 (.bool false) 1 1 Tryz.underlying51 hi0 hz0 hz1 hz2 rfl (by decide) _ _ _ rfl (HO.out.alloc _) ⟨wr.heap.size, 0, none⟩ 1 1 [.bool u] rfl rfl cell_one (by simp [Value.oneCell']) (by unfold maxLen; omega) (by omega) (by have := B1.out.size; simp at this ⊢; omega) ?_; intro v' w2 hown2 hgrow _; obtain ⟨g', cap', rfl⟩ := ownsRow_succ hown2; have HO2 := Lib.hid hown2; have BW2 := Lib.hid (B1.out.grown hgrow B1.out.size (fun k e => own_block_ge HO.out e)); clear hown2 hgrow)
      go_roundw
      case rel => exact ⟨k + 1, KM.out, by rw [NX.out]; go_num, by rw [NS.out]; exact HO2.out, BW2.out⟩
      case measure => rw [SL.out]; have := KM.out; simp [slen]; omega
    · obtain rfl : k = m := by
        by_cases h : k < m
        · exact absurd (hi.2 h) hlt
        · omega
      have FIN := Lib.hid (show ∀ v, wr.ownsRow w.heap.size 4 1 v k (bvals G k) → WoB k G w (.returned v) wr from fun v h => ⟨v, rfl, h, hB⟩)
      have HO := Lib.hid hown
      clear hown hB hi ns nx hi' HI VSS
      go_wp2_with fail
      go_ret
      exact FIN.out _ HO.out
/-- A strand as a value. -/
def StrBool (B m : Nat) (U : Nat → Bool) (v : Value) (w : World) : Prop := w.ownsRow B 4 1 v m (bvals U m)
theorem StrBool.mono {B m : Nat} {U : Nat → Bool} {v : Value} {w w' : World} (h : StrBool B m U v w) (hb : Below w.heap.size w w') : StrBool B m U v w' := own_below h hb
theorem strBool_two (b o L c j d : Nat) (f : Nat → Bool) (B : Nat) (hj : j < d) (hd : d ≤ 1000) (hL : L ≤ 400000) (w : World) (H : BoolsAt w b o L f) (hB : B ≤ w.heap.size) :
    Calls Tryz.prog 77 #[.slice (some ⟨b, o, none⟩) L c, .int .i64 (j : Nat), .int .i64 (d : Nat)] w fun e w2 => ∃ v, e = .returned v ∧ StrBool B (Blk.parts L j d) (fun k => f (j + k * d)) v w2 ∧ Below w.heap.size w w2 :=
  (strandBool_any b o L c j d f hj hd hL w H).mono fun e w2 h => by
    obtain ⟨v, rfl, h1, h2⟩ := h
    exact ⟨v, rfl, own_mono h1 hB, h2⟩
structure StBoolRegion (b n c N j d B0 : Nat) (f : Nat → Bool) (A : Act) (w0 : World) (s : Nat → Bool) (a : Act) (w : World) : Prop where
  off : Off [9, 10, 11, 12, 13, 14, 15, 16, 17, 18, 19, 20] a A
  before : Below w0.heap.size w0 w
  t0 : s 0 = true → a.eval (.tmp 9) = .slice (some ⟨b, 0, none⟩) n c
  t1 : s 1 = true → a.eval (.tmp 10) = .int .i64 (N : Nat)
  t2 : s 2 = true → a.eval (.tmp 11) = .slice (some ⟨b, 0, none⟩) N c
  t3 : s 3 = true → a.eval (.tmp 12) = .int .i64 (j : Nat)
  t4 : s 4 = true → a.eval (.tmp 13) = .int .i64 (d : Nat)
  t5 : s 5 = true → ∃ v5, a.eval (.tmp 14) = v5 ∧ StrBool B0 (Blk.parts N j d) (fun k => f (j + k * d)) v5 w
  t6 : s 6 = true → a.eval (.tmp 15) = .slice (some ⟨b, 0, none⟩) n c
  t7 : s 7 = true → a.eval (.tmp 16) = .int .i64 (N : Nat)
  t8 : s 8 = true → a.eval (.tmp 17) = .slice (some ⟨b, N, none⟩) (n - N) (c - N)
  t9 : s 9 = true → a.eval (.tmp 18) = .int .i64 (j : Nat)
  t10 : s 10 = true → a.eval (.tmp 19) = .int .i64 (d : Nat)
  t11 : s 11 = true → ∃ v11, a.eval (.tmp 20) = v11 ∧ StrBool B0 (Blk.parts (n - N) j d) (fun k => f (N + (j + k * d))) v11 w
set_option maxHeartbeats 2000000 in
set_option maxRecDepth 100000 in
theorem stBoolRegion {id : Nat} {l : List Oper} {A : Act} {w : World} {Q : Exit → Act → World → Prop} (b n c N j d B0 : Nat) (f : Nat → Bool)
    (hj : j < d) (hd : d ≤ 1000) (hn : n ≤ 400000) (hN : N < n) (hc : n ≤ c) (hB0 : B0 ≤ w.heap.size) (HH : BoolsAt w b 0 n f)
    (hB : tableH l.toArray 12 (fun i => match i with | 0 => [] | 1 => [] | 2 => [0, 1] | 3 => [] | 4 => [] | 5 => [2, 3, 4] | 6 => [] | 7 => [] | 8 => [6, 7] | 9 => [] | 10 => [] | 11 => [8, 9, 10] | _ => []) (fun _ => []) = true)
    (h0 : pick l 0 = some (.move (.tmp 0), some 9))
    (h1 : pick l 1 = some (.move (.tmp 1), some 10))
    (h2 : pick l 2 = some (.slice 51 (.tmp 9) none (some (.tmp 10)) none, some 11))
    (h3 : pick l 3 = some (.move (.tmp 2), some 12))
    (h4 : pick l 4 = some (.move (.tmp 3), some 13))
    (h5 : pick l 5 = some (.call { callee := .value (.func 77), args := #[.tmp 11, .tmp 12, .tmp 13], argTypes := #[51, 3, 3] }, some 14))
    (h6 : pick l 6 = some (.move (.tmp 0), some 15))
    (h7 : pick l 7 = some (.move (.tmp 1), some 16))
    (h8 : pick l 8 = some (.slice 51 (.tmp 15) (some (.tmp 16)) none none, some 17))
    (h9 : pick l 9 = some (.move (.tmp 2), some 18))
    (h10 : pick l 10 = some (.move (.tmp 3), some 19))
    (h11 : pick l 11 = some (.call { callee := .value (.func 77), args := #[.tmp 17, .tmp 18, .tmp 19], argTypes := #[51, 3, 3] }, some 20))
    (hs : A.tmps.size = 22)
    (x0 : A.eval (.tmp 0) = .slice (some ⟨b, 0, none⟩) n c)
    (x1 : A.eval (.tmp 1) = .int .i64 (N : Nat))
    (x2 : A.eval (.tmp 2) = .int .i64 (j : Nat))
    (x3 : A.eval (.tmp 3) = .int .i64 (d : Nat))
    (h : ∀ v5 v11 w1, Below w.heap.size w w1 → StrBool B0 (Blk.parts N j d) (fun k => f (j + k * d)) v5 w1 → StrBool B0 (Blk.parts (n - N) j d) (fun k => f (N + (j + k * d))) v11 w1 → wpList Tryz.prog l.toArray Q (l.drop 12) ((((((((((((A.put (some 9) (.slice (some ⟨b, 0, none⟩) n c)).put (some 10) (.int .i64 (N : Nat))).put (some 11) (.slice (some ⟨b, 0, none⟩) N c)).put (some 12) (.int .i64 (j : Nat))).put (some 13) (.int .i64 (d : Nat))).put (some 14) (v5)).put (some 15) (.slice (some ⟨b, 0, none⟩) n c)).put (some 16) (.int .i64 (N : Nat))).put (some 17) (.slice (some ⟨b, N, none⟩) (n - N) (c - N))).put (some 18) (.int .i64 (j : Nat))).put (some 19) (.int .i64 (d : Nat))).put (some 20) (v11)) w1) :
    (Code.region id l.toArray true).wp Tryz.prog Q A w := by
  refine wp_region_head (by kernel_rfl) _ _ _ hB (StBoolRegion b n c N j d B0 f A w) ⟨Off.refl _ _, (Below.refl _ _).drew, by simp, by simp, by simp, by simp, by simp, by simp, by simp, by simp, by simp, by simp, by simp, by simp⟩ ?_ ?_
  · intro s a w' S i' o il ho hsi hT K hK
    have sz : a.tmps.size = 22 := by rw [S.off.2.1]; exact hs
    have y0 : a.eval (.tmp 0) = .slice (some ⟨b, 0, none⟩) n c := by rw [S.off.eval (by decide)]; exact x0
    have y1 : a.eval (.tmp 1) = .int .i64 (N : Nat) := by rw [S.off.eval (by decide)]; exact x1
    have y2 : a.eval (.tmp 2) = .int .i64 (j : Nat) := by rw [S.off.eval (by decide)]; exact x2
    have y3 : a.eval (.tmp 3) = .int .i64 (d : Nat) := by rw [S.off.eval (by decide)]; exact x3
    match i', il, ho, hsi, hT with
    | 0, _, ho, hsi, hT =>
      obtain ⟨e1, e2⟩ := pick_of h0 ho
      have BW := S.before
      refine step_val (v := .slice (some ⟨b, 0, none⟩) n c) (by simp only [execOp, e1, y0]; go_simp) (hK _ _ ?_)
      rw [e2]
      exact ⟨S.off.put (by decide) _, S.before, fun _ => (eval_put _ _ _ (by omega)).trans rfl, kp S.t1, kp S.t2, kp S.t3, kp S.t4, fun g => (S.t5 (by simpa using g)).imp fun b hb => ⟨by rw [eval_put_ne _ _ _ _ (by decide)]; exact hb.1, hb.2⟩, kp S.t6, kp S.t7, kp S.t8, kp S.t9, kp S.t10, fun g => (S.t11 (by simpa using g)).imp fun b hb => ⟨by rw [eval_put_ne _ _ _ _ (by decide)]; exact hb.1, hb.2⟩⟩
    | 1, _, ho, hsi, hT =>
      obtain ⟨e1, e2⟩ := pick_of h1 ho
      have BW := S.before
      refine step_val (v := .int .i64 (N : Nat)) (by simp only [execOp, e1, y1]; go_simp) (hK _ _ ?_)
      rw [e2]
      exact ⟨S.off.put (by decide) _, S.before, kp S.t0, fun _ => (eval_put _ _ _ (by omega)).trans rfl, kp S.t2, kp S.t3, kp S.t4, fun g => (S.t5 (by simpa using g)).imp fun b hb => ⟨by rw [eval_put_ne _ _ _ _ (by decide)]; exact hb.1, hb.2⟩, kp S.t6, kp S.t7, kp S.t8, kp S.t9, kp S.t10, fun g => (S.t11 (by simpa using g)).imp fun b hb => ⟨by rw [eval_put_ne _ _ _ _ (by decide)]; exact hb.1, hb.2⟩⟩
    | 2, _, ho, hsi, hT =>
      obtain ⟨e1, e2⟩ := pick_of h2 ho
      have D0 : s 0 = true := list_pos hT (d := 0) (by decide)
      have D1 : s 1 = true := list_pos hT (d := 1) (by decide)
      have BW := S.before
      refine step_val (v := .slice (some ⟨b, 0, none⟩) N c) (by simp only [execOp, e1, Option.map_some, Option.map_none, S.t0 D0, S.t1 D1]; go_simp; intro hcN; omega) (hK _ _ ?_)
      rw [e2]
      exact ⟨S.off.put (by decide) _, S.before, kp S.t0, kp S.t1, fun _ => (eval_put _ _ _ (by omega)).trans rfl, kp S.t3, kp S.t4, fun g => (S.t5 (by simpa using g)).imp fun b hb => ⟨by rw [eval_put_ne _ _ _ _ (by decide)]; exact hb.1, hb.2⟩, kp S.t6, kp S.t7, kp S.t8, kp S.t9, kp S.t10, fun g => (S.t11 (by simpa using g)).imp fun b hb => ⟨by rw [eval_put_ne _ _ _ _ (by decide)]; exact hb.1, hb.2⟩⟩
    | 3, _, ho, hsi, hT =>
      obtain ⟨e1, e2⟩ := pick_of h3 ho
      have BW := S.before
      refine step_val (v := .int .i64 (j : Nat)) (by simp only [execOp, e1, y2]; go_simp) (hK _ _ ?_)
      rw [e2]
      exact ⟨S.off.put (by decide) _, S.before, kp S.t0, kp S.t1, kp S.t2, fun _ => (eval_put _ _ _ (by omega)).trans rfl, kp S.t4, fun g => (S.t5 (by simpa using g)).imp fun b hb => ⟨by rw [eval_put_ne _ _ _ _ (by decide)]; exact hb.1, hb.2⟩, kp S.t6, kp S.t7, kp S.t8, kp S.t9, kp S.t10, fun g => (S.t11 (by simpa using g)).imp fun b hb => ⟨by rw [eval_put_ne _ _ _ _ (by decide)]; exact hb.1, hb.2⟩⟩
    | 4, _, ho, hsi, hT =>
      obtain ⟨e1, e2⟩ := pick_of h4 ho
      have BW := S.before
      refine step_val (v := .int .i64 (d : Nat)) (by simp only [execOp, e1, y3]; go_simp) (hK _ _ ?_)
      rw [e2]
      exact ⟨S.off.put (by decide) _, S.before, kp S.t0, kp S.t1, kp S.t2, kp S.t3, fun _ => (eval_put _ _ _ (by omega)).trans rfl, fun g => (S.t5 (by simpa using g)).imp fun b hb => ⟨by rw [eval_put_ne _ _ _ _ (by decide)]; exact hb.1, hb.2⟩, kp S.t6, kp S.t7, kp S.t8, kp S.t9, kp S.t10, fun g => (S.t11 (by simpa using g)).imp fun b hb => ⟨by rw [eval_put_ne _ _ _ _ (by decide)]; exact hb.1, hb.2⟩⟩
    | 5, _, ho, hsi, hT =>
      obtain ⟨e1, e2⟩ := pick_of h5 ho
      have D2 : s 2 = true := list_pos hT (d := 2) (by decide)
      have D3 : s 3 = true := list_pos hT (d := 3) (by decide)
      have D4 : s 4 = true := list_pos hT (d := 4) (by decide)
      have BW := S.before
      refine step_call 77 (fun args w => by go_simp) _ _ e1 #[.slice (some ⟨b, 0, none⟩) N c, .int .i64 (j : Nat), .int .i64 (d : Nat)] (by simp only [List.map_toArray, List.map_cons, List.map_nil, S.t2 D2, S.t3 D3, S.t4 D4]) ((strBool_two b 0 N c j d f B0 hj hd (by omega) _ (HH.head (by omega) |>.below BW) (Nat.le_trans hB0 BW.size)).mono ?_)
      rintro e w2 ⟨v, rfl, FF, BB⟩
      refine ⟨_, rfl, hK _ _ ?_⟩
      rw [e2]
      exact ⟨S.off.put (by decide) _, bt BW BB, kp S.t0, kp S.t1, kp S.t2, kp S.t3, kp S.t4, fun _ => ⟨_, (eval_put _ _ _ (by omega)).trans rfl, FF⟩, kp S.t6, kp S.t7, kp S.t8, kp S.t9, kp S.t10, fun g => (S.t11 (by simpa using g)).imp fun b hb => ⟨by rw [eval_put_ne _ _ _ _ (by decide)]; exact hb.1, (StrBool.mono hb.2 BB)⟩⟩
    | 6, _, ho, hsi, hT =>
      obtain ⟨e1, e2⟩ := pick_of h6 ho
      have BW := S.before
      refine step_val (v := .slice (some ⟨b, 0, none⟩) n c) (by simp only [execOp, e1, y0]; go_simp) (hK _ _ ?_)
      rw [e2]
      exact ⟨S.off.put (by decide) _, S.before, kp S.t0, kp S.t1, kp S.t2, kp S.t3, kp S.t4, fun g => (S.t5 (by simpa using g)).imp fun b hb => ⟨by rw [eval_put_ne _ _ _ _ (by decide)]; exact hb.1, hb.2⟩, fun _ => (eval_put _ _ _ (by omega)).trans rfl, kp S.t7, kp S.t8, kp S.t9, kp S.t10, fun g => (S.t11 (by simpa using g)).imp fun b hb => ⟨by rw [eval_put_ne _ _ _ _ (by decide)]; exact hb.1, hb.2⟩⟩
    | 7, _, ho, hsi, hT =>
      obtain ⟨e1, e2⟩ := pick_of h7 ho
      have BW := S.before
      refine step_val (v := .int .i64 (N : Nat)) (by simp only [execOp, e1, y1]; go_simp) (hK _ _ ?_)
      rw [e2]
      exact ⟨S.off.put (by decide) _, S.before, kp S.t0, kp S.t1, kp S.t2, kp S.t3, kp S.t4, fun g => (S.t5 (by simpa using g)).imp fun b hb => ⟨by rw [eval_put_ne _ _ _ _ (by decide)]; exact hb.1, hb.2⟩, kp S.t6, fun _ => (eval_put _ _ _ (by omega)).trans rfl, kp S.t8, kp S.t9, kp S.t10, fun g => (S.t11 (by simpa using g)).imp fun b hb => ⟨by rw [eval_put_ne _ _ _ _ (by decide)]; exact hb.1, hb.2⟩⟩
    | 8, _, ho, hsi, hT =>
      obtain ⟨e1, e2⟩ := pick_of h8 ho
      have D6 : s 6 = true := list_pos hT (d := 6) (by decide)
      have D7 : s 7 = true := list_pos hT (d := 7) (by decide)
      have BW := S.before
      refine step_val (v := .slice (some ⟨b, N, none⟩) (n - N) (c - N)) (by simp only [execOp, e1, Option.map_some, Option.map_none, S.t6 D6, S.t7 D7]; go_simp; rw [if_pos (by omega), if_neg (by omega)]) (hK _ _ ?_)
      rw [e2]
      exact ⟨S.off.put (by decide) _, S.before, kp S.t0, kp S.t1, kp S.t2, kp S.t3, kp S.t4, fun g => (S.t5 (by simpa using g)).imp fun b hb => ⟨by rw [eval_put_ne _ _ _ _ (by decide)]; exact hb.1, hb.2⟩, kp S.t6, kp S.t7, fun _ => (eval_put _ _ _ (by omega)).trans rfl, kp S.t9, kp S.t10, fun g => (S.t11 (by simpa using g)).imp fun b hb => ⟨by rw [eval_put_ne _ _ _ _ (by decide)]; exact hb.1, hb.2⟩⟩
    | 9, _, ho, hsi, hT =>
      obtain ⟨e1, e2⟩ := pick_of h9 ho
      have BW := S.before
      refine step_val (v := .int .i64 (j : Nat)) (by simp only [execOp, e1, y2]; go_simp) (hK _ _ ?_)
      rw [e2]
      exact ⟨S.off.put (by decide) _, S.before, kp S.t0, kp S.t1, kp S.t2, kp S.t3, kp S.t4, fun g => (S.t5 (by simpa using g)).imp fun b hb => ⟨by rw [eval_put_ne _ _ _ _ (by decide)]; exact hb.1, hb.2⟩, kp S.t6, kp S.t7, kp S.t8, fun _ => (eval_put _ _ _ (by omega)).trans rfl, kp S.t10, fun g => (S.t11 (by simpa using g)).imp fun b hb => ⟨by rw [eval_put_ne _ _ _ _ (by decide)]; exact hb.1, hb.2⟩⟩
    | 10, _, ho, hsi, hT =>
      obtain ⟨e1, e2⟩ := pick_of h10 ho
      have BW := S.before
      refine step_val (v := .int .i64 (d : Nat)) (by simp only [execOp, e1, y3]; go_simp) (hK _ _ ?_)
      rw [e2]
      exact ⟨S.off.put (by decide) _, S.before, kp S.t0, kp S.t1, kp S.t2, kp S.t3, kp S.t4, fun g => (S.t5 (by simpa using g)).imp fun b hb => ⟨by rw [eval_put_ne _ _ _ _ (by decide)]; exact hb.1, hb.2⟩, kp S.t6, kp S.t7, kp S.t8, kp S.t9, fun _ => (eval_put _ _ _ (by omega)).trans rfl, fun g => (S.t11 (by simpa using g)).imp fun b hb => ⟨by rw [eval_put_ne _ _ _ _ (by decide)]; exact hb.1, hb.2⟩⟩
    | 11, _, ho, hsi, hT =>
      obtain ⟨e1, e2⟩ := pick_of h11 ho
      have D8 : s 8 = true := list_pos hT (d := 8) (by decide)
      have D9 : s 9 = true := list_pos hT (d := 9) (by decide)
      have D10 : s 10 = true := list_pos hT (d := 10) (by decide)
      have BW := S.before
      refine step_call 77 (fun args w => by go_simp) _ _ e1 #[.slice (some ⟨b, N, none⟩) (n - N) (c - N), .int .i64 (j : Nat), .int .i64 (d : Nat)] (by simp only [List.map_toArray, List.map_cons, List.map_nil, S.t8 D8, S.t9 D9, S.t10 D10]) ((strBool_two b N (n - N) (c - N) j d (fun k => f (N + k)) B0 hj hd (by omega) _ (HH.tail (by omega) |>.below BW) (Nat.le_trans hB0 BW.size)).mono ?_)
      rintro e w2 ⟨v, rfl, FF, BB⟩
      refine ⟨_, rfl, hK _ _ ?_⟩
      rw [e2]
      exact ⟨S.off.put (by decide) _, bt BW BB, kp S.t0, kp S.t1, kp S.t2, kp S.t3, kp S.t4, fun g => (S.t5 (by simpa using g)).imp fun b hb => ⟨by rw [eval_put_ne _ _ _ _ (by decide)]; exact hb.1, (StrBool.mono hb.2 BB)⟩, kp S.t6, kp S.t7, kp S.t8, kp S.t9, kp S.t10, fun _ => ⟨_, (eval_put _ _ _ (by omega)).trans rfl, FF⟩⟩
    | _ + 12, il, _, _, _ => exact absurd il (by omega)
  · intro s a w' S hall
    have a0 := hall 0 (by omega)
    have a1 := hall 1 (by omega)
    have a2 := hall 2 (by omega)
    have a3 := hall 3 (by omega)
    have a4 := hall 4 (by omega)
    have a5 := hall 5 (by omega)
    have a6 := hall 6 (by omega)
    have a7 := hall 7 (by omega)
    have a8 := hall 8 (by omega)
    have a9 := hall 9 (by omega)
    have a10 := hall 10 (by omega)
    have a11 := hall 11 (by omega)
    have e := off_norm _ (by intro d hd; simp at hd; omega) S.off
    obtain ⟨v5, M5, F5⟩ := S.t5 a5
    obtain ⟨v11, M11, F11⟩ := S.t11 a11
    simp only [List.foldl, S.t0 a0, S.t1 a1, S.t2 a2, S.t3 a3, S.t4 a4, M5, S.t6 a6, S.t7 a7, S.t8 a8, S.t9 a9, S.t10 a10, M11] at e
    rw [e]
    exact h _ _ _ S.before F5 F11
theorem bvals_join (m k : Nat) (G1 G2 : Nat → Bool) : bvals G1 m ++ bvals G2 k = bvals (jn m G1 G2) (m + k) := by
  unfold bvals
  rw [List.range_add, List.map_append, List.map_map]
  congr 1
  · refine List.map_congr_left (fun i hi => ?_)
    unfold jn
    rw [if_pos (List.mem_range.1 hi)]
  · refine List.map_congr_left (fun i hi => ?_)
    show _ = Value.bool (jn m G1 G2 (m + i))
    unfold jn
    rw [if_neg (by omega), show m + i - m = i by omega]
set_option maxRecDepth 100000 in
theorem strandsBool_any (b n c N j d : Nat) (f : Nat → Bool) (hj : j < d) (hd : d ≤ 1000) (hn : n ≤ 100000) (hN : N < n) (hc : n ≤ c) (hp : 0 < Blk.parts (n - N) j d) (w : World) (H : BoolsAt w b 0 n f) :
    Calls Tryz.prog 56 #[.slice (some ⟨b, 0, none⟩) n c, .int .i64 (N : Nat), .int .i64 (j : Nat), .int .i64 (d : Nat)] w (WoB (Blk.parts N j d + Blk.parts (n - N) j d) (jn (Blk.parts N j d) (fun k => f (j + k * d)) (fun k => f (N + (j + k * d)))) w) := by
  have HA := Lib.hid H
  have p1 := parts_le N j d hj
  have p2 := parts_le (n - N) j d hj
  have J := Lib.hid (bvals_join (Blk.parts N j d) (Blk.parts (n - N) j d) (fun k => f (j + k * d)) (fun k => f (N + (j + k * d))))
  obtain ⟨i0, hi0, hz0, hz1, hz2⟩ := info_parts info_bool
  clear H
  go_enter Tryz.func56, Tryz.ntmps56
  go_upto_region 1 with fail
  refine stBoolRegion b n c N j d w.heap.size f hj hd (by omega) hN hc (Nat.le_refl _) HA.out (by kernel_rfl) rfl rfl rfl rfl rfl rfl rfl rfl rfl rfl rfl rfl rfl rfl rfl rfl rfl ?_
  intro v5 v11 w1 B1 F5 F11
  simp only [Act.put, List.setIfInBounds_toArray, List.set_cons_succ, List.set_cons_zero, List.drop_succ_cons, List.drop_zero]
  unfold StrBool at F5 F11
  obtain ⟨m1, hm1⟩ : ∃ m, Blk.parts N j d = m := ⟨_, rfl⟩
  obtain ⟨m2, hm2⟩ : ∃ m, Blk.parts (n - N) j d = m := ⟨_, rfl⟩
  rw [hm1] at F5 p1
  rw [hm2] at F11 p2 hp
  rw [hm1, hm2] at J
  obtain ⟨G1, hG1⟩ : ∃ G, (fun k => f (j + k * d)) = G := ⟨_, rfl⟩
  obtain ⟨G2, hG2⟩ : ∃ G, (fun k => f (N + (j + k * d))) = G := ⟨_, rfl⟩
  rw [hG1] at F5
  rw [hG2] at F11
  rw [hG1, hG2] at J
  have HM1 := Lib.hid hm1
  have HM2 := Lib.hid hm2
  have HG1 := Lib.hid hG1
  have HG2 := Lib.hid hG2
  have HB1 := Lib.hid B1
  have HO5 := Lib.hid F5
  have SZ := Lib.hid B1.size
  have SRC := Lib.hid F11
  clear F5 B1 hm1 hm2 hG1 hG2
  rcases F11.2 with ⟨rfl, h0⟩ | ⟨g2, c2, cur, rfl, hg2, hh2, hc2, hmm2, hsz2, ht2⟩
  · exact absurd h0 (by omega)
  · have CL := Lib.hid (show ∀ i u, (bvals G2 m2)[i]? = some u → w1.cell? ((⟨g2, 0, none⟩ : Addr).add i) = some u from fun i u hu => by
      rw [addr_add, Nat.zero_add]
      exact ((own_at SRC.out).2.2.2 i u hu).1)
    have O1 := Lib.hid (show ∀ u ∈ bvals G2 m2, u.oneCell' = true from fun u hu => by
      unfold bvals at hu
      obtain ⟨i, _, rfl⟩ := List.mem_map.1 hu
      rfl)
    have VL := Lib.hid (show (bvals G2 m2).length = m2 * 1 by simp [bvals])
    clear F11 hh2 ht2 hg2 hc2 hmm2 hsz2
    go_wp2_with (at_builtin; refine wpList_append_own _ rfl _ _ 51 rfl w.heap.size 4 i0 (.bool false) 1 1 Tryz.underlying51 hi0 hz0 hz1 hz2 rfl (by decide) _ _ _ rfl HO5.out ⟨g2, 0, none⟩ m2 c2 (bvals G2 m2) rfl VL.out CL.out O1.out (by unfold maxLen; omega) (by omega) SZ.out ?_; intro v' w2 hown2 hgrow _; have HO2 := Lib.hid hown2; have BW2 := Lib.hid (HB1.out.grown hgrow HB1.out.size (fun k e => own_block_ge HO5.out e)); clear hown2 hgrow)
    go_ret
    exact ⟨_, rfl, by rw [HM1.out, HM2.out, HG1.out, HG2.out]; have ho := HO2.out; rw [J.out] at ho; exact ho, BW2.out⟩
end Go.Proofs.YtlpjhmafplljaaaGreatDoor
