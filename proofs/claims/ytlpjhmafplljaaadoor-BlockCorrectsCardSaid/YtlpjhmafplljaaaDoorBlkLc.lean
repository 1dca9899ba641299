/- The contracts of block's syndrome, without, doubtful, locator over this program. -/
import Derived.Test.YtlpjhmafplljaaaDoorBlkSv
import Derived.Test.YtlpjhmafplljaaaDoorBlkPrg
namespace Go.Proofs.YtlpjhmafplljaaaDoor
open Go.RowKit
set_option linter.unusedVariables false

theorem info_i64 : (Tryd.prog.info? 3).map (fun i => (i.zero, i.size, i.bytes)) = some (some (.int .i64 0), 1, 8) := by kernel_rfl
structure SynRegion (pb i : Nat) (str : ByteArray) (A : Act) (w0 : World) (s : Nat → Bool) (a : Act) (w : World) : Prop where
  off : Off [4, 5, 6, 7] a A
  before : Below w0.heap.size w0 w
  t0 : s 0 = true → a.eval (.tmp 4) = .string str
  t1 : s 1 = true → a.eval (.tmp 5) = .int .i64 (i : Nat)
  t2 : s 2 = true → a.eval (.tmp 6) = .int .u8 ((Gal.pwi (i : Nat)).toNat : Nat)
  t3 : s 3 = true → a.eval (.tmp 7) = .int .u8 ((Gal.evalV str.data.toList (Gal.pwi (i : Nat))).toNat : Nat)
set_option maxHeartbeats 2000000 in
set_option maxRecDepth 100000 in
theorem synRegion {id : Nat} {l : List Oper} {A : Act} {w : World} {Q : Exit → Act → World → Prop} (pb i : Nat) (str : ByteArray)
    (hstr : str.size ≤ 1000000) (hp : pb < w.heap.size) (hc : w.cell? ⟨pb, 0, none⟩ = some (.string str))
    (hB : tableH l.toArray 4 (fun i => match i with | 0 => [] | 1 => [] | 2 => [1] | 3 => [0, 2] | _ => []) (fun _ => []) = true)
    (h0 : pick l 0 = some (.load 9 (.tmp 1), some 4))
    (h1 : pick l 1 = some (.move (.tmp 0), some 5))
    (h2 : pick l 2 = some (.call { callee := .value (.func 41), args := #[.tmp 5], argTypes := #[3] }, some 6))
    (h3 : pick l 3 = some (.call { callee := .value (.func 64), args := #[.tmp 4, .tmp 6], argTypes := #[9, 5] }, some 7))
    (hs : A.tmps.size = 8)
    (x0 : A.eval (.tmp 0) = .int .i64 (i : Nat))
    (x1 : A.eval (.tmp 1) = .pointer (some ⟨pb, 0, none⟩))
    (h : ∀ w1, Below w.heap.size w w1 → wpList Tryd.prog l.toArray Q (l.drop 4) ((((A.put (some 4) (.string str)).put (some 5) (.int .i64 (i : Nat))).put (some 6) (.int .u8 ((Gal.pwi (i : Nat)).toNat : Nat))).put (some 7) (.int .u8 ((Gal.evalV str.data.toList (Gal.pwi (i : Nat))).toNat : Nat))) w1) :
    (Code.region id l.toArray true).wp Tryd.prog Q A w := by
  refine wp_region_head (by kernel_rfl) _ _ _ hB (SynRegion pb i str A w) ⟨Off.refl _ _, (Below.refl _ _).drew, by simp, by simp, by simp, by simp⟩ ?_ ?_
  · intro s a w' S i' o il ho hsi hT K hK
    have sz : a.tmps.size = 8 := by rw [S.off.2.1]; exact hs
    have y0 : a.eval (.tmp 0) = .int .i64 (i : Nat) := by rw [S.off.eval (by decide)]; exact x0
    have y1 : a.eval (.tmp 1) = .pointer (some ⟨pb, 0, none⟩) := by rw [S.off.eval (by decide)]; exact x1
    match i', il, ho, hsi, hT with
    | 0, _, ho, hsi, hT =>
      obtain ⟨e1, e2⟩ := pick_of h0 ho
      have BW := S.before
      have cl := (BW.cell (p := ⟨pb, 0, none⟩) hp).trans hc
      refine step_val (v := .string str) (by simp only [execOp, e1, y1]; go_simp) (hK _ _ ?_)
      rw [e2]
      exact ⟨S.off.put (by decide) _, S.before, fun _ => (eval_put _ _ _ (by omega)).trans rfl, fun g => by rw [eval_put_ne _ _ _ _ (by decide)]; exact S.t1 (by simpa using g), fun g => by rw [eval_put_ne _ _ _ _ (by decide)]; exact S.t2 (by simpa using g), fun g => by rw [eval_put_ne _ _ _ _ (by decide)]; exact S.t3 (by simpa using g)⟩
    | 1, _, ho, hsi, hT =>
      obtain ⟨e1, e2⟩ := pick_of h1 ho
      have BW := S.before
      refine step_val (v := .int .i64 (i : Nat)) (by simp only [execOp, e1, y0]; go_simp) (hK _ _ ?_)
      rw [e2]
      exact ⟨S.off.put (by decide) _, S.before, fun g => by rw [eval_put_ne _ _ _ _ (by decide)]; exact S.t0 (by simpa using g), fun _ => (eval_put _ _ _ (by omega)).trans rfl, fun g => by rw [eval_put_ne _ _ _ _ (by decide)]; exact S.t2 (by simpa using g), fun g => by rw [eval_put_ne _ _ _ _ (by decide)]; exact S.t3 (by simpa using g)⟩
    | 2, _, ho, hsi, hT =>
      obtain ⟨e1, e2⟩ := pick_of h2 ho
      have D1 : s 1 = true := list_pos hT (d := 1) (by decide)
      have BW := S.before
      refine step_call 41 (fun args w => by go_simp) _ _ e1 #[.int .i64 (i : Nat)] (by simp only [List.map_toArray, List.map_cons, List.map_nil, S.t1 D1]) ((bpower_any (i : Nat) _).mono ?_)
      rintro e w2 ⟨rfl, BB⟩
      refine ⟨_, rfl, hK _ _ ?_⟩
      rw [e2]
      exact ⟨S.off.put (by decide) _, bt BW BB, fun g => by rw [eval_put_ne _ _ _ _ (by decide)]; exact S.t0 (by simpa using g), fun g => by rw [eval_put_ne _ _ _ _ (by decide)]; exact S.t1 (by simpa using g), fun _ => (eval_put _ _ _ (by omega)).trans rfl, fun g => by rw [eval_put_ne _ _ _ _ (by decide)]; exact S.t3 (by simpa using g)⟩
    | 3, _, ho, hsi, hT =>
      obtain ⟨e1, e2⟩ := pick_of h3 ho
      have D0 : s 0 = true := list_pos hT (d := 0) (by decide)
      have D2 : s 2 = true := list_pos hT (d := 2) (by decide)
      have BW := S.before
      refine step_call 64 (fun args w => by go_simp) _ _ e1 #[.string str, .int .u8 ((Gal.pwi (i : Nat)).toNat : Nat)] (by simp only [List.map_toArray, List.map_cons, List.map_nil, S.t0 D0, S.t2 D2]) ((eval_any str (Gal.pwi (i : Nat)) hstr _).mono ?_)
      rintro e w2 ⟨rfl, BB⟩
      refine ⟨_, rfl, hK _ _ ?_⟩
      rw [e2]
      exact ⟨S.off.put (by decide) _, bt BW BB, fun g => by rw [eval_put_ne _ _ _ _ (by decide)]; exact S.t0 (by simpa using g), fun g => by rw [eval_put_ne _ _ _ _ (by decide)]; exact S.t1 (by simpa using g), fun g => by rw [eval_put_ne _ _ _ _ (by decide)]; exact S.t2 (by simpa using g), fun _ => (eval_put _ _ _ (by omega)).trans rfl⟩
    | _ + 4, il, _, _, _ => exact absurd il (by omega)
  · intro s a w' S hall
    have a0 := hall 0 (by omega)
    have a1 := hall 1 (by omega)
    have a2 := hall 2 (by omega)
    have a3 := hall 3 (by omega)
    have e := off_norm _ (by intro d hd; simp at hd; omega) S.off
    simp only [List.foldl, S.t0 a0, S.t1 a1, S.t2 a2, S.t3 a3] at e
    rw [e]
    exact h _ S.before
theorem syn1_any (pb i : Nat) (s : ByteArray) (b : List UInt8) (hs : s = ⟨b.reverse.toArray⟩) (hb : b.length ≤ 1000) (w : World) (hp : pb < w.heap.size) (hc : w.cell? ⟨pb, 0, none⟩ = some (.string s)) :
    Calls Tryd.prog 63 (#[] ++ #[.int .i64 (i : Nat)] ++ #[.pointer (some ⟨pb, 0, none⟩)]) w fun e w' => e = .returned (.int .u8 ((Blk.syn b i).toNat : Nat)) ∧ Below w.heap.size w w' := by
  show Calls Tryd.prog 63 #[.int .i64 (i : Nat), .pointer (some ⟨pb, 0, none⟩)] w _
  have e1 : Blk.syn b i = Gal.evalV s.data.toList (Gal.pwi (i : Nat)) := by rw [Blk.syn_eval, Gal.pwi_nat, hs]
  rw [e1]
  have hz : s.size ≤ 1000000 := by rw [hs, sz, List.length_reverse]; omega
  clear e1 hs
  go_enter Tryd.func63, Tryd.ntmps63
  go_upto_region 1 with fail
  refine synRegion pb i s hz hp hc (by kernel_rfl) rfl rfl rfl rfl rfl rfl rfl ?_
  intro w1 B1
  simp only [Act.put, List.setIfInBounds_toArray, List.set_cons_succ, List.set_cons_zero, List.drop_succ_cons, List.drop_zero]
  have HB := Lib.hid B1
  obtain ⟨v, hv⟩ : ∃ v, (Gal.evalV s.data.toList (Gal.pwi (i : Nat))).toNat = v := ⟨_, rfl⟩
  rw [hv]
  have HV := Lib.hid hv
  clear hv B1 hc
  go_wp2_with fail
  go_ret
  exact ⟨by rw [HV.out]; rfl, HB.out⟩
/-- What syndrome does. -/
def SynP (n : Nat) (f : Nat → BitVec 8) (w : World) (e : Ending) (w' : World) : Prop :=
  ∃ pb, e = .returned (.func (.func 63) #[] #[.pointer (some ⟨pb, 0, none⟩)]) ∧ w.heap.size ≤ pb ∧ pb < w'.heap.size ∧ w'.cell? ⟨pb, 0, none⟩ = some (.string ⟨(Gal.coefs f n).reverse.toArray⟩) ∧ Below w.heap.size w w'
theorem syndrome_any (b cb n : Nat) (s2 : Value) (f : Nat → BitVec 8) (hn : n ≤ 1000) (w : World) (H : NumsK .u8 w b n (fun j => (f j).toNat)) :
    Calls Tryd.prog 43 #[.agg #[.slice (some ⟨b, 0, none⟩) n cb, s2]] w (SynP n f w) := by
  have CV := Lib.hid (nums_back cb (H.alloc (.cells #[.slice (some ⟨b, 0, none⟩) n cb, s2] 48)))
  have B0 := Lib.hid (ba (Below.refl w.heap.size w) (.cells #[.slice (some ⟨b, 0, none⟩) n cb, s2] 48))
  have RV := Lib.hid (fun w => reversed_any ⟨(Gal.coefs f n).toArray⟩ (by rw [sz, Gal.coefs_length]; omega) w)
  rw [show (⟨(Gal.coefs f n).toArray⟩ : ByteArray).data.toList = Gal.coefs f n from rfl] at RV
  unfold SynP
  obtain ⟨s, hs⟩ : ∃ s : ByteArray, (⟨(Gal.coefs f n).reverse.toArray⟩ : ByteArray) = s := ⟨_, rfl⟩
  obtain ⟨d, hd⟩ : ∃ s : ByteArray, (⟨(Gal.coefs f n).toArray⟩ : ByteArray) = s := ⟨_, rfl⟩
  rw [hs] at RV ⊢
  rw [hd] at RV CV
  have P : Hid (∀ w1 : World, Below w.heap.size w w1 → ∀ w2, w2 = (w1.alloc (.cells #[.string s] 9)) → ∃ pb, Ending.returned (.func (.func 63) #[] #[.pointer (some ⟨w1.heap.size, 0, none⟩)]) = .returned (.func (.func 63) #[] #[.pointer (some ⟨pb, 0, none⟩)]) ∧ w.heap.size ≤ pb ∧ pb < w2.heap.size ∧ w2.cell? ⟨pb, 0, none⟩ = some (.string s) ∧ Below w.heap.size w w2) := Lib.hid (by
    rintro w1 hB w2 rfl
    exact ⟨w1.heap.size, rfl, hB.size, by rw [World.size_alloc]; omega, World.cell?_alloc_new w1 _ _ 0, ba hB _⟩)
  have hmf : ∀ (fn : Fn) (first cap : Array Value) (w : World), (Instr.makeFunc fn first cap).run Tryd.prog w = .ok (.func fn first cap) w := fun _ _ _ _ => rfl
  clear H hs hd
  go_enter Tryd.func43, Tryd.ntmps43
  go_wp2_with (simp only [CV.out])
  (with_reducible refine (RV.out _).mono ?_)
  rintro e w1 ⟨rfl, h1⟩
  have B1 := Lib.hid (bt B0.out h1)
  clear h1 RV CV
  go_wp2_with fail
  go_ret
  exact P.out _ B1.out _ rfl
structure WoRegion (g C L i : Nat) (x y z : BitVec 8) (sv : Value) (A : Act) (w0 : World) (s : Nat → Bool) (a : Act) (w : World) : Prop where
  off : Off [13, 14, 15, 16, 17, 18, 19, 20, 21, 22, 23, 24, 25, 26] a A
  before : Below w0.heap.size w0 w
  t0 : s 0 = true → a.eval (.tmp 13) = sv
  t1 : s 1 = true → a.eval (.tmp 14) = .int .u8 (x.toNat : Nat)
  t2 : s 2 = true → a.eval (.tmp 15) = .slice (some ⟨g, 0, none⟩) L C
  t3 : s 3 = true → a.eval (.tmp 16) = .int .i64 (i : Nat)
  t4 : s 4 = true → a.eval (.tmp 17) = .pointer (some ⟨g, i, none⟩)
  t5 : s 5 = true → a.eval (.tmp 18) = .int .u8 (y.toNat : Nat)
  t6 : s 6 = true → a.eval (.tmp 19) = .int .u8 ((Gal.mul x y).toNat : Nat)
  t7 : s 7 = true → a.eval (.tmp 20) = .slice (some ⟨g, 0, none⟩) L C
  t8 : s 8 = true → a.eval (.tmp 21) = .int .i64 (i : Nat)
  t9 : s 9 = true → a.eval (.tmp 22) = .int .i64 ((i + 1 : Nat) : Int)
  t10 : s 10 = true → a.eval (.tmp 23) = .pointer (some ⟨g, (i + 1), none⟩)
  t11 : s 11 = true → a.eval (.tmp 24) = .int .u8 (z.toNat : Nat)
  t12 : s 12 = true → a.eval (.tmp 25) = .int .u8 ((Gal.mul x y ^^^ z).toNat : Nat)
  t13 : s 13 = true → ∃ v13, a.eval (.tmp 26) = v13 ∧ Bld (.int .u8 ((Gal.mul x y ^^^ z).toNat : Nat)) v13 w
set_option maxHeartbeats 2000000 in
set_option maxRecDepth 100000 in
theorem woRegion {id : Nat} {l : List Oper} {A : Act} {w : World} {Q : Exit → Act → World → Prop} (g C L i : Nat) (x y z : BitVec 8) (sv : Value)
    (hi : i + 1 < L) (hL : L ≤ 1000) (hg : g < w.heap.size) (hy : w.cell? ⟨g, i, none⟩ = some (.int .u8 (y.toNat : Nat))) (hz : w.cell? ⟨g, i + 1, none⟩ = some (.int .u8 (z.toNat : Nat)))
    (hB : tableH l.toArray 14 (fun i => match i with | 0 => [] | 1 => [] | 2 => [] | 3 => [] | 4 => [2, 3] | 5 => [4] | 6 => [1, 5] | 7 => [] | 8 => [] | 9 => [8] | 10 => [7, 9] | 11 => [10] | 12 => [6, 11] | 13 => [12] | _ => []) (fun _ => []) = true)
    (h0 : pick l 0 = some (.move (.tmp 5), some 13))
    (h1 : pick l 1 = some (.move (.tmp 1), some 14))
    (h2 : pick l 2 = some (.move (.tmp 0), some 15))
    (h3 : pick l 3 = some (.move (.tmp 6), some 16))
    (h4 : pick l 4 = some (.indexAddr 33 (.tmp 15) (.tmp 16), some 17))
    (h5 : pick l 5 = some (.load 5 (.tmp 17), some 18))
    (h6 : pick l 6 = some (.call { callee := .value (.func 77), args := #[.tmp 14, .tmp 18], argTypes := #[5, 5] }, some 19))
    (h7 : pick l 7 = some (.move (.tmp 0), some 20))
    (h8 : pick l 8 = some (.move (.tmp 6), some 21))
    (h9 : pick l 9 = some (.binOp .add 3 (.tmp 21) (.const (.int .i64 1)) 3, some 22))
    (h10 : pick l 10 = some (.indexAddr 33 (.tmp 20) (.tmp 22), some 23))
    (h11 : pick l 11 = some (.load 5 (.tmp 23), some 24))
    (h12 : pick l 12 = some (.binOp .xor 5 (.tmp 19) (.tmp 24) 5, some 25))
    (h13 : pick l 13 = some (.buildSlice 33 1 #[(0, .tmp 25)], some 26))
    (hs : A.tmps.size = 30)
    (x0 : A.eval (.tmp 0) = .slice (some ⟨g, 0, none⟩) L C)
    (x1 : A.eval (.tmp 1) = .int .u8 (x.toNat : Nat))
    (x5 : A.eval (.tmp 5) = sv)
    (x6 : A.eval (.tmp 6) = .int .i64 (i : Nat))
    (h : ∀ v13 w1, Below w.heap.size w w1 → Bld (.int .u8 ((Gal.mul x y ^^^ z).toNat : Nat)) v13 w1 → wpList Tryd.prog l.toArray Q (l.drop 14) ((((((((((((((A.put (some 13) (sv)).put (some 14) (.int .u8 (x.toNat : Nat))).put (some 15) (.slice (some ⟨g, 0, none⟩) L C)).put (some 16) (.int .i64 (i : Nat))).put (some 17) (.pointer (some ⟨g, i, none⟩))).put (some 18) (.int .u8 (y.toNat : Nat))).put (some 19) (.int .u8 ((Gal.mul x y).toNat : Nat))).put (some 20) (.slice (some ⟨g, 0, none⟩) L C)).put (some 21) (.int .i64 (i : Nat))).put (some 22) (.int .i64 ((i + 1 : Nat) : Int))).put (some 23) (.pointer (some ⟨g, (i + 1), none⟩))).put (some 24) (.int .u8 (z.toNat : Nat))).put (some 25) (.int .u8 ((Gal.mul x y ^^^ z).toNat : Nat))).put (some 26) (v13)) w1) :
    (Code.region id l.toArray true).wp Tryd.prog Q A w := by
  refine wp_region_head (by kernel_rfl) _ _ _ hB (WoRegion g C L i x y z sv A w) ⟨Off.refl _ _, (Below.refl _ _).drew, by simp, by simp, by simp, by simp, by simp, by simp, by simp, by simp, by simp, by simp, by simp, by simp, by simp, by simp⟩ ?_ ?_
  · intro s a w' S i' o il ho hsi hT K hK
    have sz : a.tmps.size = 30 := by rw [S.off.2.1]; exact hs
    have y0 : a.eval (.tmp 0) = .slice (some ⟨g, 0, none⟩) L C := by rw [S.off.eval (by decide)]; exact x0
    have y1 : a.eval (.tmp 1) = .int .u8 (x.toNat : Nat) := by rw [S.off.eval (by decide)]; exact x1
    have y5 : a.eval (.tmp 5) = sv := by rw [S.off.eval (by decide)]; exact x5
    have y6 : a.eval (.tmp 6) = .int .i64 (i : Nat) := by rw [S.off.eval (by decide)]; exact x6
    match i', il, ho, hsi, hT with
    | 0, _, ho, hsi, hT =>
      obtain ⟨e1, e2⟩ := pick_of h0 ho
      have BW := S.before
      refine step_val (v := sv) (by simp only [execOp, e1, y5]; go_simp) (hK _ _ ?_)
      rw [e2]
      exact ⟨S.off.put (by decide) _, S.before, fun _ => (eval_put _ _ _ (by omega)).trans rfl, fun g => by rw [eval_put_ne _ _ _ _ (by decide)]; exact S.t1 (by simpa using g), fun g => by rw [eval_put_ne _ _ _ _ (by decide)]; exact S.t2 (by simpa using g), fun g => by rw [eval_put_ne _ _ _ _ (by decide)]; exact S.t3 (by simpa using g), fun g => by rw [eval_put_ne _ _ _ _ (by decide)]; exact S.t4 (by simpa using g), fun g => by rw [eval_put_ne _ _ _ _ (by decide)]; exact S.t5 (by simpa using g), fun g => by rw [eval_put_ne _ _ _ _ (by decide)]; exact S.t6 (by simpa using g), fun g => by rw [eval_put_ne _ _ _ _ (by decide)]; exact S.t7 (by simpa using g), fun g => by rw [eval_put_ne _ _ _ _ (by decide)]; exact S.t8 (by simpa using g), fun g => by rw [eval_put_ne _ _ _ _ (by decide)]; exact S.t9 (by simpa using g), fun g => by rw [eval_put_ne _ _ _ _ (by decide)]; exact S.t10 (by simpa using g), fun g => by rw [eval_put_ne _ _ _ _ (by decide)]; exact S.t11 (by simpa using g), fun g => by rw [eval_put_ne _ _ _ _ (by decide)]; exact S.t12 (by simpa using g), fun g => (S.t13 (by simpa using g)).imp fun b hb => ⟨by rw [eval_put_ne _ _ _ _ (by decide)]; exact hb.1, hb.2⟩⟩
    | 1, _, ho, hsi, hT =>
      obtain ⟨e1, e2⟩ := pick_of h1 ho
      have BW := S.before
      refine step_val (v := .int .u8 (x.toNat : Nat)) (by simp only [execOp, e1, y1]; go_simp) (hK _ _ ?_)
      rw [e2]
      exact ⟨S.off.put (by decide) _, S.before, fun g => by rw [eval_put_ne _ _ _ _ (by decide)]; exact S.t0 (by simpa using g), fun _ => (eval_put _ _ _ (by omega)).trans rfl, fun g => by rw [eval_put_ne _ _ _ _ (by decide)]; exact S.t2 (by simpa using g), fun g => by rw [eval_put_ne _ _ _ _ (by decide)]; exact S.t3 (by simpa using g), fun g => by rw [eval_put_ne _ _ _ _ (by decide)]; exact S.t4 (by simpa using g), fun g => by rw [eval_put_ne _ _ _ _ (by decide)]; exact S.t5 (by simpa using g), fun g => by rw [eval_put_ne _ _ _ _ (by decide)]; exact S.t6 (by simpa using g), fun g => by rw [eval_put_ne _ _ _ _ (by decide)]; exact S.t7 (by simpa using g), fun g => by rw [eval_put_ne _ _ _ _ (by decide)]; exact S.t8 (by simpa using g), fun g => by rw [eval_put_ne _ _ _ _ (by decide)]; exact S.t9 (by simpa using g), fun g => by rw [eval_put_ne _ _ _ _ (by decide)]; exact S.t10 (by simpa using g), fun g => by rw [eval_put_ne _ _ _ _ (by decide)]; exact S.t11 (by simpa using g), fun g => by rw [eval_put_ne _ _ _ _ (by decide)]; exact S.t12 (by simpa using g), fun g => (S.t13 (by simpa using g)).imp fun b hb => ⟨by rw [eval_put_ne _ _ _ _ (by decide)]; exact hb.1, hb.2⟩⟩
    | 2, _, ho, hsi, hT =>
      obtain ⟨e1, e2⟩ := pick_of h2 ho
      have BW := S.before
      refine step_val (v := .slice (some ⟨g, 0, none⟩) L C) (by simp only [execOp, e1, y0]; go_simp) (hK _ _ ?_)
      rw [e2]
      exact ⟨S.off.put (by decide) _, S.before, fun g => by rw [eval_put_ne _ _ _ _ (by decide)]; exact S.t0 (by simpa using g), fun g => by rw [eval_put_ne _ _ _ _ (by decide)]; exact S.t1 (by simpa using g), fun _ => (eval_put _ _ _ (by omega)).trans rfl, fun g => by rw [eval_put_ne _ _ _ _ (by decide)]; exact S.t3 (by simpa using g), fun g => by rw [eval_put_ne _ _ _ _ (by decide)]; exact S.t4 (by simpa using g), fun g => by rw [eval_put_ne _ _ _ _ (by decide)]; exact S.t5 (by simpa using g), fun g => by rw [eval_put_ne _ _ _ _ (by decide)]; exact S.t6 (by simpa using g), fun g => by rw [eval_put_ne _ _ _ _ (by decide)]; exact S.t7 (by simpa using g), fun g => by rw [eval_put_ne _ _ _ _ (by decide)]; exact S.t8 (by simpa using g), fun g => by rw [eval_put_ne _ _ _ _ (by decide)]; exact S.t9 (by simpa using g), fun g => by rw [eval_put_ne _ _ _ _ (by decide)]; exact S.t10 (by simpa using g), fun g => by rw [eval_put_ne _ _ _ _ (by decide)]; exact S.t11 (by simpa using g), fun g => by rw [eval_put_ne _ _ _ _ (by decide)]; exact S.t12 (by simpa using g), fun g => (S.t13 (by simpa using g)).imp fun b hb => ⟨by rw [eval_put_ne _ _ _ _ (by decide)]; exact hb.1, hb.2⟩⟩
    | 3, _, ho, hsi, hT =>
      obtain ⟨e1, e2⟩ := pick_of h3 ho
      have BW := S.before
      refine step_val (v := .int .i64 (i : Nat)) (by simp only [execOp, e1, y6]; go_simp) (hK _ _ ?_)
      rw [e2]
      exact ⟨S.off.put (by decide) _, S.before, fun g => by rw [eval_put_ne _ _ _ _ (by decide)]; exact S.t0 (by simpa using g), fun g => by rw [eval_put_ne _ _ _ _ (by decide)]; exact S.t1 (by simpa using g), fun g => by rw [eval_put_ne _ _ _ _ (by decide)]; exact S.t2 (by simpa using g), fun _ => (eval_put _ _ _ (by omega)).trans rfl, fun g => by rw [eval_put_ne _ _ _ _ (by decide)]; exact S.t4 (by simpa using g), fun g => by rw [eval_put_ne _ _ _ _ (by decide)]; exact S.t5 (by simpa using g), fun g => by rw [eval_put_ne _ _ _ _ (by decide)]; exact S.t6 (by simpa using g), fun g => by rw [eval_put_ne _ _ _ _ (by decide)]; exact S.t7 (by simpa using g), fun g => by rw [eval_put_ne _ _ _ _ (by decide)]; exact S.t8 (by simpa using g), fun g => by rw [eval_put_ne _ _ _ _ (by decide)]; exact S.t9 (by simpa using g), fun g => by rw [eval_put_ne _ _ _ _ (by decide)]; exact S.t10 (by simpa using g), fun g => by rw [eval_put_ne _ _ _ _ (by decide)]; exact S.t11 (by simpa using g), fun g => by rw [eval_put_ne _ _ _ _ (by decide)]; exact S.t12 (by simpa using g), fun g => (S.t13 (by simpa using g)).imp fun b hb => ⟨by rw [eval_put_ne _ _ _ _ (by decide)]; exact hb.1, hb.2⟩⟩
    | 4, _, ho, hsi, hT =>
      obtain ⟨e1, e2⟩ := pick_of h4 ho
      have D2 : s 2 = true := list_pos hT (d := 2) (by decide)
      have D3 : s 3 = true := list_pos hT (d := 3) (by decide)
      have BW := S.before
      refine step_val (v := .pointer (some ⟨g, i, none⟩)) (by simp only [execOp, e1, S.t2 D2, S.t3 D3]; go_simp; intro h; omega) (hK _ _ ?_)
      rw [e2]
      exact ⟨S.off.put (by decide) _, S.before, fun g => by rw [eval_put_ne _ _ _ _ (by decide)]; exact S.t0 (by simpa using g), fun g => by rw [eval_put_ne _ _ _ _ (by decide)]; exact S.t1 (by simpa using g), fun g => by rw [eval_put_ne _ _ _ _ (by decide)]; exact S.t2 (by simpa using g), fun g => by rw [eval_put_ne _ _ _ _ (by decide)]; exact S.t3 (by simpa using g), fun _ => (eval_put _ _ _ (by omega)).trans rfl, fun g => by rw [eval_put_ne _ _ _ _ (by decide)]; exact S.t5 (by simpa using g), fun g => by rw [eval_put_ne _ _ _ _ (by decide)]; exact S.t6 (by simpa using g), fun g => by rw [eval_put_ne _ _ _ _ (by decide)]; exact S.t7 (by simpa using g), fun g => by rw [eval_put_ne _ _ _ _ (by decide)]; exact S.t8 (by simpa using g), fun g => by rw [eval_put_ne _ _ _ _ (by decide)]; exact S.t9 (by simpa using g), fun g => by rw [eval_put_ne _ _ _ _ (by decide)]; exact S.t10 (by simpa using g), fun g => by rw [eval_put_ne _ _ _ _ (by decide)]; exact S.t11 (by simpa using g), fun g => by rw [eval_put_ne _ _ _ _ (by decide)]; exact S.t12 (by simpa using g), fun g => (S.t13 (by simpa using g)).imp fun b hb => ⟨by rw [eval_put_ne _ _ _ _ (by decide)]; exact hb.1, hb.2⟩⟩
    | 5, _, ho, hsi, hT =>
      obtain ⟨e1, e2⟩ := pick_of h5 ho
      have D4 : s 4 = true := list_pos hT (d := 4) (by decide)
      have BW := S.before
      have cl := (BW.cell (p := ⟨g, i, none⟩) hg).trans hy
      refine step_val (v := .int .u8 (y.toNat : Nat)) (by simp only [execOp, e1, S.t4 D4]; go_simp) (hK _ _ ?_)
      rw [e2]
      exact ⟨S.off.put (by decide) _, S.before, fun g => by rw [eval_put_ne _ _ _ _ (by decide)]; exact S.t0 (by simpa using g), fun g => by rw [eval_put_ne _ _ _ _ (by decide)]; exact S.t1 (by simpa using g), fun g => by rw [eval_put_ne _ _ _ _ (by decide)]; exact S.t2 (by simpa using g), fun g => by rw [eval_put_ne _ _ _ _ (by decide)]; exact S.t3 (by simpa using g), fun g => by rw [eval_put_ne _ _ _ _ (by decide)]; exact S.t4 (by simpa using g), fun _ => (eval_put _ _ _ (by omega)).trans rfl, fun g => by rw [eval_put_ne _ _ _ _ (by decide)]; exact S.t6 (by simpa using g), fun g => by rw [eval_put_ne _ _ _ _ (by decide)]; exact S.t7 (by simpa using g), fun g => by rw [eval_put_ne _ _ _ _ (by decide)]; exact S.t8 (by simpa using g), fun g => by rw [eval_put_ne _ _ _ _ (by decide)]; exact S.t9 (by simpa using g), fun g => by rw [eval_put_ne _ _ _ _ (by decide)]; exact S.t10 (by simpa using g), fun g => by rw [eval_put_ne _ _ _ _ (by decide)]; exact S.t11 (by simpa using g), fun g => by rw [eval_put_ne _ _ _ _ (by decide)]; exact S.t12 (by simpa using g), fun g => (S.t13 (by simpa using g)).imp fun b hb => ⟨by rw [eval_put_ne _ _ _ _ (by decide)]; exact hb.1, hb.2⟩⟩
    | 6, _, ho, hsi, hT =>
      obtain ⟨e1, e2⟩ := pick_of h6 ho
      have D1 : s 1 = true := list_pos hT (d := 1) (by decide)
      have D5 : s 5 = true := list_pos hT (d := 5) (by decide)
      have BW := S.before
      refine step_call 77 (fun args w => by go_simp) _ _ e1 #[.int .u8 (x.toNat : Nat), .int .u8 (y.toNat : Nat)] (by simp only [List.map_toArray, List.map_cons, List.map_nil, S.t1 D1, S.t5 D5]) ((mul_any x y _).mono ?_)
      rintro e w2 ⟨rfl, BB⟩
      refine ⟨_, rfl, hK _ _ ?_⟩
      rw [e2]
      exact ⟨S.off.put (by decide) _, bt BW BB, fun g => by rw [eval_put_ne _ _ _ _ (by decide)]; exact S.t0 (by simpa using g), fun g => by rw [eval_put_ne _ _ _ _ (by decide)]; exact S.t1 (by simpa using g), fun g => by rw [eval_put_ne _ _ _ _ (by decide)]; exact S.t2 (by simpa using g), fun g => by rw [eval_put_ne _ _ _ _ (by decide)]; exact S.t3 (by simpa using g), fun g => by rw [eval_put_ne _ _ _ _ (by decide)]; exact S.t4 (by simpa using g), fun g => by rw [eval_put_ne _ _ _ _ (by decide)]; exact S.t5 (by simpa using g), fun _ => (eval_put _ _ _ (by omega)).trans rfl, fun g => by rw [eval_put_ne _ _ _ _ (by decide)]; exact S.t7 (by simpa using g), fun g => by rw [eval_put_ne _ _ _ _ (by decide)]; exact S.t8 (by simpa using g), fun g => by rw [eval_put_ne _ _ _ _ (by decide)]; exact S.t9 (by simpa using g), fun g => by rw [eval_put_ne _ _ _ _ (by decide)]; exact S.t10 (by simpa using g), fun g => by rw [eval_put_ne _ _ _ _ (by decide)]; exact S.t11 (by simpa using g), fun g => by rw [eval_put_ne _ _ _ _ (by decide)]; exact S.t12 (by simpa using g), fun g => (S.t13 (by simpa using g)).imp fun b hb => ⟨by rw [eval_put_ne _ _ _ _ (by decide)]; exact hb.1, (Bld.mono hb.2 BB)⟩⟩
    | 7, _, ho, hsi, hT =>
      obtain ⟨e1, e2⟩ := pick_of h7 ho
      have BW := S.before
      refine step_val (v := .slice (some ⟨g, 0, none⟩) L C) (by simp only [execOp, e1, y0]; go_simp) (hK _ _ ?_)
      rw [e2]
      exact ⟨S.off.put (by decide) _, S.before, fun g => by rw [eval_put_ne _ _ _ _ (by decide)]; exact S.t0 (by simpa using g), fun g => by rw [eval_put_ne _ _ _ _ (by decide)]; exact S.t1 (by simpa using g), fun g => by rw [eval_put_ne _ _ _ _ (by decide)]; exact S.t2 (by simpa using g), fun g => by rw [eval_put_ne _ _ _ _ (by decide)]; exact S.t3 (by simpa using g), fun g => by rw [eval_put_ne _ _ _ _ (by decide)]; exact S.t4 (by simpa using g), fun g => by rw [eval_put_ne _ _ _ _ (by decide)]; exact S.t5 (by simpa using g), fun g => by rw [eval_put_ne _ _ _ _ (by decide)]; exact S.t6 (by simpa using g), fun _ => (eval_put _ _ _ (by omega)).trans rfl, fun g => by rw [eval_put_ne _ _ _ _ (by decide)]; exact S.t8 (by simpa using g), fun g => by rw [eval_put_ne _ _ _ _ (by decide)]; exact S.t9 (by simpa using g), fun g => by rw [eval_put_ne _ _ _ _ (by decide)]; exact S.t10 (by simpa using g), fun g => by rw [eval_put_ne _ _ _ _ (by decide)]; exact S.t11 (by simpa using g), fun g => by rw [eval_put_ne _ _ _ _ (by decide)]; exact S.t12 (by simpa using g), fun g => (S.t13 (by simpa using g)).imp fun b hb => ⟨by rw [eval_put_ne _ _ _ _ (by decide)]; exact hb.1, hb.2⟩⟩
    | 8, _, ho, hsi, hT =>
      obtain ⟨e1, e2⟩ := pick_of h8 ho
      have BW := S.before
      refine step_val (v := .int .i64 (i : Nat)) (by simp only [execOp, e1, y6]; go_simp) (hK _ _ ?_)
      rw [e2]
      exact ⟨S.off.put (by decide) _, S.before, fun g => by rw [eval_put_ne _ _ _ _ (by decide)]; exact S.t0 (by simpa using g), fun g => by rw [eval_put_ne _ _ _ _ (by decide)]; exact S.t1 (by simpa using g), fun g => by rw [eval_put_ne _ _ _ _ (by decide)]; exact S.t2 (by simpa using g), fun g => by rw [eval_put_ne _ _ _ _ (by decide)]; exact S.t3 (by simpa using g), fun g => by rw [eval_put_ne _ _ _ _ (by decide)]; exact S.t4 (by simpa using g), fun g => by rw [eval_put_ne _ _ _ _ (by decide)]; exact S.t5 (by simpa using g), fun g => by rw [eval_put_ne _ _ _ _ (by decide)]; exact S.t6 (by simpa using g), fun g => by rw [eval_put_ne _ _ _ _ (by decide)]; exact S.t7 (by simpa using g), fun _ => (eval_put _ _ _ (by omega)).trans rfl, fun g => by rw [eval_put_ne _ _ _ _ (by decide)]; exact S.t9 (by simpa using g), fun g => by rw [eval_put_ne _ _ _ _ (by decide)]; exact S.t10 (by simpa using g), fun g => by rw [eval_put_ne _ _ _ _ (by decide)]; exact S.t11 (by simpa using g), fun g => by rw [eval_put_ne _ _ _ _ (by decide)]; exact S.t12 (by simpa using g), fun g => (S.t13 (by simpa using g)).imp fun b hb => ⟨by rw [eval_put_ne _ _ _ _ (by decide)]; exact hb.1, hb.2⟩⟩
    | 9, _, ho, hsi, hT =>
      obtain ⟨e1, e2⟩ := pick_of h9 ho
      have D8 : s 8 = true := list_pos hT (d := 8) (by decide)
      have BW := S.before
      have wr1 : IntKind.i64.wrap ((i : Int) + 1) = (i : Int) + 1 := by rw [IntKind.wrap_i64]; omega
      refine step_val (v := .int .i64 ((i + 1 : Nat) : Int)) (by simp only [execOp, e1, S.t8 D8]; go_simp) (hK _ _ ?_)
      rw [e2]
      exact ⟨S.off.put (by decide) _, S.before, fun g => by rw [eval_put_ne _ _ _ _ (by decide)]; exact S.t0 (by simpa using g), fun g => by rw [eval_put_ne _ _ _ _ (by decide)]; exact S.t1 (by simpa using g), fun g => by rw [eval_put_ne _ _ _ _ (by decide)]; exact S.t2 (by simpa using g), fun g => by rw [eval_put_ne _ _ _ _ (by decide)]; exact S.t3 (by simpa using g), fun g => by rw [eval_put_ne _ _ _ _ (by decide)]; exact S.t4 (by simpa using g), fun g => by rw [eval_put_ne _ _ _ _ (by decide)]; exact S.t5 (by simpa using g), fun g => by rw [eval_put_ne _ _ _ _ (by decide)]; exact S.t6 (by simpa using g), fun g => by rw [eval_put_ne _ _ _ _ (by decide)]; exact S.t7 (by simpa using g), fun g => by rw [eval_put_ne _ _ _ _ (by decide)]; exact S.t8 (by simpa using g), fun _ => (eval_put _ _ _ (by omega)).trans rfl, fun g => by rw [eval_put_ne _ _ _ _ (by decide)]; exact S.t10 (by simpa using g), fun g => by rw [eval_put_ne _ _ _ _ (by decide)]; exact S.t11 (by simpa using g), fun g => by rw [eval_put_ne _ _ _ _ (by decide)]; exact S.t12 (by simpa using g), fun g => (S.t13 (by simpa using g)).imp fun b hb => ⟨by rw [eval_put_ne _ _ _ _ (by decide)]; exact hb.1, hb.2⟩⟩
    | 10, _, ho, hsi, hT =>
      obtain ⟨e1, e2⟩ := pick_of h10 ho
      have D7 : s 7 = true := list_pos hT (d := 7) (by decide)
      have D9 : s 9 = true := list_pos hT (d := 9) (by decide)
      have BW := S.before
      refine step_val (v := .pointer (some ⟨g, (i + 1), none⟩)) (by simp only [execOp, e1, S.t7 D7, S.t9 D9]; go_simp; intro h; have := h (by omega); omega) (hK _ _ ?_)
      rw [e2]
      exact ⟨S.off.put (by decide) _, S.before, fun g => by rw [eval_put_ne _ _ _ _ (by decide)]; exact S.t0 (by simpa using g), fun g => by rw [eval_put_ne _ _ _ _ (by decide)]; exact S.t1 (by simpa using g), fun g => by rw [eval_put_ne _ _ _ _ (by decide)]; exact S.t2 (by simpa using g), fun g => by rw [eval_put_ne _ _ _ _ (by decide)]; exact S.t3 (by simpa using g), fun g => by rw [eval_put_ne _ _ _ _ (by decide)]; exact S.t4 (by simpa using g), fun g => by rw [eval_put_ne _ _ _ _ (by decide)]; exact S.t5 (by simpa using g), fun g => by rw [eval_put_ne _ _ _ _ (by decide)]; exact S.t6 (by simpa using g), fun g => by rw [eval_put_ne _ _ _ _ (by decide)]; exact S.t7 (by simpa using g), fun g => by rw [eval_put_ne _ _ _ _ (by decide)]; exact S.t8 (by simpa using g), fun g => by rw [eval_put_ne _ _ _ _ (by decide)]; exact S.t9 (by simpa using g), fun _ => (eval_put _ _ _ (by omega)).trans rfl, fun g => by rw [eval_put_ne _ _ _ _ (by decide)]; exact S.t11 (by simpa using g), fun g => by rw [eval_put_ne _ _ _ _ (by decide)]; exact S.t12 (by simpa using g), fun g => (S.t13 (by simpa using g)).imp fun b hb => ⟨by rw [eval_put_ne _ _ _ _ (by decide)]; exact hb.1, hb.2⟩⟩
    | 11, _, ho, hsi, hT =>
      obtain ⟨e1, e2⟩ := pick_of h11 ho
      have D10 : s 10 = true := list_pos hT (d := 10) (by decide)
      have BW := S.before
      have cl := (BW.cell (p := ⟨g, i + 1, none⟩) hg).trans hz
      refine step_val (v := .int .u8 (z.toNat : Nat)) (by simp only [execOp, e1, S.t10 D10]; go_simp) (hK _ _ ?_)
      rw [e2]
      exact ⟨S.off.put (by decide) _, S.before, fun g => by rw [eval_put_ne _ _ _ _ (by decide)]; exact S.t0 (by simpa using g), fun g => by rw [eval_put_ne _ _ _ _ (by decide)]; exact S.t1 (by simpa using g), fun g => by rw [eval_put_ne _ _ _ _ (by decide)]; exact S.t2 (by simpa using g), fun g => by rw [eval_put_ne _ _ _ _ (by decide)]; exact S.t3 (by simpa using g), fun g => by rw [eval_put_ne _ _ _ _ (by decide)]; exact S.t4 (by simpa using g), fun g => by rw [eval_put_ne _ _ _ _ (by decide)]; exact S.t5 (by simpa using g), fun g => by rw [eval_put_ne _ _ _ _ (by decide)]; exact S.t6 (by simpa using g), fun g => by rw [eval_put_ne _ _ _ _ (by decide)]; exact S.t7 (by simpa using g), fun g => by rw [eval_put_ne _ _ _ _ (by decide)]; exact S.t8 (by simpa using g), fun g => by rw [eval_put_ne _ _ _ _ (by decide)]; exact S.t9 (by simpa using g), fun g => by rw [eval_put_ne _ _ _ _ (by decide)]; exact S.t10 (by simpa using g), fun _ => (eval_put _ _ _ (by omega)).trans rfl, fun g => by rw [eval_put_ne _ _ _ _ (by decide)]; exact S.t12 (by simpa using g), fun g => (S.t13 (by simpa using g)).imp fun b hb => ⟨by rw [eval_put_ne _ _ _ _ (by decide)]; exact hb.1, hb.2⟩⟩
    | 12, _, ho, hsi, hT =>
      obtain ⟨e1, e2⟩ := pick_of h12 ho
      have D6 : s 6 = true := list_pos hT (d := 6) (by decide)
      have D11 : s 11 = true := list_pos hT (d := 11) (by decide)
      have BW := S.before
      have xr := xor8 (Gal.mul x y) z
      refine step_val (v := .int .u8 ((Gal.mul x y ^^^ z).toNat : Nat)) (by simp only [execOp, e1, S.t6 D6, S.t11 D11]; go_simp) (hK _ _ ?_)
      rw [e2]
      exact ⟨S.off.put (by decide) _, S.before, fun g => by rw [eval_put_ne _ _ _ _ (by decide)]; exact S.t0 (by simpa using g), fun g => by rw [eval_put_ne _ _ _ _ (by decide)]; exact S.t1 (by simpa using g), fun g => by rw [eval_put_ne _ _ _ _ (by decide)]; exact S.t2 (by simpa using g), fun g => by rw [eval_put_ne _ _ _ _ (by decide)]; exact S.t3 (by simpa using g), fun g => by rw [eval_put_ne _ _ _ _ (by decide)]; exact S.t4 (by simpa using g), fun g => by rw [eval_put_ne _ _ _ _ (by decide)]; exact S.t5 (by simpa using g), fun g => by rw [eval_put_ne _ _ _ _ (by decide)]; exact S.t6 (by simpa using g), fun g => by rw [eval_put_ne _ _ _ _ (by decide)]; exact S.t7 (by simpa using g), fun g => by rw [eval_put_ne _ _ _ _ (by decide)]; exact S.t8 (by simpa using g), fun g => by rw [eval_put_ne _ _ _ _ (by decide)]; exact S.t9 (by simpa using g), fun g => by rw [eval_put_ne _ _ _ _ (by decide)]; exact S.t10 (by simpa using g), fun g => by rw [eval_put_ne _ _ _ _ (by decide)]; exact S.t11 (by simpa using g), fun _ => (eval_put _ _ _ (by omega)).trans rfl, fun g => (S.t13 (by simpa using g)).imp fun b hb => ⟨by rw [eval_put_ne _ _ _ _ (by decide)]; exact hb.1, hb.2⟩⟩
    | 13, _, ho, hsi, hT =>
      obtain ⟨e1, e2⟩ := pick_of h13 ho
      have D12 : s 12 = true := list_pos hT (d := 12) (by decide)
      have BW := S.before
      have q25 : a.tmps[25]'(by omega) = .int .u8 ((Gal.mul x y ^^^ z).toNat : Nat) := by have := S.t12 D12; simpa [Act.eval, sz] using this
      refine step_to1 (w2 := w'.alloc (.cells #[.int .u8 ((Gal.mul x y ^^^ z).toNat : Nat)] 5)) (v := .slice (some ⟨w'.heap.size, 0, none⟩) 1 1) (by simp only [execOp, e1]; go_simp) (hK _ _ ?_)
      have BB := ba (Below.refl w'.heap.size w') (.cells #[.int .u8 ((Gal.mul x y ^^^ z).toNat : Nat)] 5)
      have FF := bld_new w' (.int .u8 ((Gal.mul x y ^^^ z).toNat : Nat)) 5
      rw [e2]
      exact ⟨S.off.put (by decide) _, bt BW BB, fun g => by rw [eval_put_ne _ _ _ _ (by decide)]; exact S.t0 (by simpa using g), fun g => by rw [eval_put_ne _ _ _ _ (by decide)]; exact S.t1 (by simpa using g), fun g => by rw [eval_put_ne _ _ _ _ (by decide)]; exact S.t2 (by simpa using g), fun g => by rw [eval_put_ne _ _ _ _ (by decide)]; exact S.t3 (by simpa using g), fun g => by rw [eval_put_ne _ _ _ _ (by decide)]; exact S.t4 (by simpa using g), fun g => by rw [eval_put_ne _ _ _ _ (by decide)]; exact S.t5 (by simpa using g), fun g => by rw [eval_put_ne _ _ _ _ (by decide)]; exact S.t6 (by simpa using g), fun g => by rw [eval_put_ne _ _ _ _ (by decide)]; exact S.t7 (by simpa using g), fun g => by rw [eval_put_ne _ _ _ _ (by decide)]; exact S.t8 (by simpa using g), fun g => by rw [eval_put_ne _ _ _ _ (by decide)]; exact S.t9 (by simpa using g), fun g => by rw [eval_put_ne _ _ _ _ (by decide)]; exact S.t10 (by simpa using g), fun g => by rw [eval_put_ne _ _ _ _ (by decide)]; exact S.t11 (by simpa using g), fun g => by rw [eval_put_ne _ _ _ _ (by decide)]; exact S.t12 (by simpa using g), fun _ => ⟨_, (eval_put _ _ _ (by omega)).trans rfl, FF⟩⟩
    | _ + 14, il, _, _, _ => exact absurd il (by omega)
  · intro s a w' S hall
    have a0 := hall 0 (by omega)
    have a1 := hall 1 (by omega)
    have a2 := hall 2 (by omega)
    have a3 := hall 3 (by omega)
    have a4 := hall 4 (by omega)
    have a5 := hall 5 (by omega)
    have a6 := hall 6 (by omega)
    have a7 := hall 7 (by omega)
    have a8 := hall 8 (by omega)
    have a9 := hall 9 (by omega)
    have a10 := hall 10 (by omega)
    have a11 := hall 11 (by omega)
    have a12 := hall 12 (by omega)
    have a13 := hall 13 (by omega)
    have e := off_norm _ (by intro d hd; simp at hd; omega) S.off
    obtain ⟨v13, M13, F13⟩ := S.t13 a13
    simp only [List.foldl, S.t0 a0, S.t1 a1, S.t2 a2, S.t3 a3, S.t4 a4, S.t5 a5, S.t6 a6, S.t7 a7, S.t8 a8, S.t9 a9, S.t10 a10, S.t11 a11, S.t12 a12, M13] at e
    rw [e]
    exact h _ _ S.before F13
/-- What without does. -/
def WoP (m : Nat) (U : Nat → BitVec 8) (w : World) (e : Ending) (w' : World) : Prop := ∃ v, e = .returned v ∧ w'.ownsRow w.heap.size 5 1 v m (vals U m) ∧ Below w.heap.size w w'
set_option maxRecDepth 100000 in
theorem without_any (g C L m : Nat) (x : BitVec 8) (U : Nat → BitVec 8) (hm : m + 1 = L) (hL : L ≤ 8) (w : World) (N : NumsK .u8 w g L (fun j => (U j).toNat)) :
    Calls Tryd.prog 65 #[.slice (some ⟨g, 0, none⟩) L C, .int .u8 (x.toNat : Nat)] w (WoP m (fun i => Gal.mul x (U i) ^^^ U (i + 1)) w) := by
  have HN := Lib.hid N
  have HL := Lib.hid hm
  have e1 : (L : Int) - 1 = (m : Int) := by omega
  have i1 : IntKind.i64.wrap ((L : Int) - 1) = (m : Int) := by rw [IntKind.wrap_i64]; omega
  have vs0 : ∀ k, vals (fun i => Gal.mul x (U i) ^^^ U (i + 1)) (k + 1) = vals (fun i => Gal.mul x (U i) ^^^ U (i + 1)) k ++ [.int .u8 ((Gal.mul x (U k) ^^^ U (k + 1)).toNat : Nat)] := fun k => vals_succ _ k
  have VS := Lib.hid vs0
  obtain ⟨G, hG⟩ : ∃ G, (fun i => Gal.mul x (U i) ^^^ U (i + 1)) = G := ⟨_, rfl⟩
  rw [hG] at VS ⊢
  clear N hm vs0 hG
  go_enter Tryd.func65, Tryd.ntmps65
  go_wp2_with fail
  go_loopw [5, 10] (fun o i wr => ∃ k : Nat, k ≤ m ∧ i = .int .i64 (k : Nat) ∧ wr.ownsRow w.heap.size 5 1 o k (vals G k) ∧ Below w.heap.size w wr) (fun o _ _ => m - slen o)
  case atStart => exact ⟨0, Nat.zero_le _, rfl, World.ownsRow_nil _ _ _ _, Below.refl _ _⟩
  case round =>
    obtain ⟨k, hk, rfl, hown, hB⟩ := hrel
    have HO := Lib.hid hown
    have HB := Lib.hid hB
    have SL := Lib.hid (own_slen hown)
    clear hown hB
    by_cases hlt : k < m
    · have NR := Lib.hid (HN.out.below HB.out)
      have L2 := HL.out
      have NS := Lib.hid (VS.out k)
      have km : (k : Int) < (m : Int) := by omega
      obtain ⟨i0, hi0, hz0, hz1, hz2⟩ := info_parts info_u8
      go_upto_region 5 with fail
      refine woRegion g C L k x (U k) (U (k + 1)) _ (by omega) (by omega) NR.out.1 (NR.out.cell (by omega)) (NR.out.cell (by omega)) (by kernel_rfl) rfl rfl rfl rfl rfl rfl rfl rfl rfl rfl rfl rfl rfl rfl rfl rfl rfl rfl rfl ?_
      intro v13 w1 B1 F1
      simp only [Act.put, List.setIfInBounds_toArray, List.set_cons_succ, List.set_cons_zero, List.drop_succ_cons, List.drop_zero]
      obtain ⟨Bd, rfl, hcl⟩ := F1.cells
      have HCL := Lib.hid hcl
      have HO1 := Lib.hid (own_below HO.out B1)
      have HB1 := Lib.hid (bt HB.out B1)
      obtain ⟨u, hu⟩ : ∃ u, (Gal.mul x (U k) ^^^ U (k + 1)).toNat = u := ⟨_, rfl⟩
      obtain ⟨u2, hu2⟩ : ∃ u, (Gal.mul x (U k)).toNat = u := ⟨_, rfl⟩
      obtain ⟨u3, hu3⟩ : ∃ u, (U k).toNat = u := ⟨_, rfl⟩
      obtain ⟨u4, hu4⟩ : ∃ u, (U (k + 1)).toNat = u := ⟨_, rfl⟩
      rw [hu] at HCL NS
      rw [hu, hu2, hu3, hu4]
      clear hu hu2 hu3 hu4 F1 hcl B1 NR
      go_wp2_with (at_builtin; refine wpList_append_own _ rfl _ _ 33 rfl w.heap.size 5 i0 (.int .u8 0) 1 1 Tryd.underlying33 hi0 hz0 hz1 hz2 rfl (by decide) _ _ _ rfl HO1.out ⟨Bd, 0, none⟩ 1 1 [.int .u8 (u : Int)] rfl rfl HCL.out (by simp [Value.oneCell']) (by unfold maxLen; omega) (by omega) HB1.out.size ?_; intro v' w2 hown2 hgrow _; obtain ⟨g', cap', rfl⟩ := ownsRow_succ hown2; have HO2 := Lib.hid hown2; have BW2 := Lib.hid (HB1.out.grown hgrow HB1.out.size (fun k e => own_block_ge HO1.out e)); clear hown2 hgrow)
      go_roundw
      case rel => exact ⟨k + 1, by omega, by go_num, by rw [NS.out]; exact HO2.out, BW2.out⟩
      case measure => rw [SL.out]; simp [slen]; omega
    · obtain rfl : k = m := by omega
      have FIN := Lib.hid (show ∀ v, wr.ownsRow w.heap.size 5 1 v k (vals G k) → WoP k G w (.returned v) wr from fun v h => ⟨v, rfl, h, HB.out⟩)
      clear HN VS
      go_wp2_with fail
      go_ret
      exact FIN.out _ HO.out
/-- Places as values. -/
def plv (l : List Nat) : List Value := l.map (fun p => .int .i64 (p : Nat))
/-- What doubtful does. -/
def DouP (l : List Nat) (w : World) (e : Ending) (w' : World) : Prop := ∃ v, e = .returned v ∧ w'.ownsRow w.heap.size 3 1 v l.length (plv l) ∧ Below w.heap.size w w'
set_option maxRecDepth 100000 in
theorem doubtful_any (b cb eb ce n : Nat) (f : Nat → BitVec 8) (er : Nat → Bool) (l : ByteArray) (hn : n ≤ 231) (hl : l.size ≤ 1000) (w : World) (H : Wd w b cb eb ce n f er) :
    Calls Tryd.prog 44 #[.agg #[.slice (some ⟨b, 0, none⟩) n cb, .slice (some ⟨eb, 0, none⟩) n ce], .string l] w (DouP (Blk.ers (Blk.dbt er (Blk.elem n) l.data.toList) n) w) := by
  have EL := Lib.hid (fun p hp w => element_any b cb eb ce n p (by omega) hp w)
  have EVA := Lib.hid (fun x w => eval_any l x (by omega) w)
  have HA := Lib.hid (H.alloc (.cells #[.slice (some ⟨b, 0, none⟩) n cb, .slice (some ⟨eb, 0, none⟩) n ce] 48))
  have cx0 := Lib.hid (show (w.alloc (.cells #[.slice (some ⟨b, 0, none⟩) n cb, .slice (some ⟨eb, 0, none⟩) n ce] 48)).cell? ⟨w.heap.size, 0, none⟩ = some (.slice (some ⟨b, 0, none⟩) n cb) from World.cell?_alloc_new w _ _ 0)
  have cx1 := Lib.hid (show (w.alloc (.cells #[.slice (some ⟨b, 0, none⟩) n cb, .slice (some ⟨eb, 0, none⟩) n ce] 48)).cell? ⟨w.heap.size, 1, none⟩ = some (.slice (some ⟨eb, 0, none⟩) n ce) from World.cell?_alloc_new w _ _ 1)
  have B0 := Lib.hid (ba (Below.refl w.heap.size w) (.cells #[.slice (some ⟨b, 0, none⟩) n cb, .slice (some ⟨eb, 0, none⟩) n ce] 48))
  have lx := Lib.hid (show w.heap.size < (w.alloc (.cells #[.slice (some ⟨b, 0, none⟩) n cb, .slice (some ⟨eb, 0, none⟩) n ce] 48)).heap.size by rw [World.size_alloc]; omega)
  have ES := Lib.hid (fun k => Blk.ers_succ (Blk.dbt er (Blk.elem n) l.data.toList) k)
  have DB := Lib.hid (fun k => (show Blk.dbt er (Blk.elem n) l.data.toList k = (er k || decide (Gal.evalV l.data.toList (Blk.elem n k) = 0#8)) from rfl))
  obtain ⟨P, hP⟩ : ∃ P, Blk.dbt er (Blk.elem n) l.data.toList = P := ⟨_, rfl⟩
  rw [hP] at ES DB ⊢
  clear H hP
  go_enter Tryd.func44, Tryd.ntmps44
  go_wp2_with fail
  obtain ⟨w1, hw1⟩ : ∃ w1, w.alloc (.cells #[.slice (some ⟨b, 0, none⟩) n cb, .slice (some ⟨eb, 0, none⟩) n ce] 48) = w1 := ⟨_, rfl⟩
  rw [hw1] at HA cx0 cx1 B0 lx ⊢
  clear hw1
  go_loopw [5, 11] (fun o i wr => ∃ k : Nat, k ≤ n ∧ i = .int .i64 (k : Nat) ∧ wr.ownsRow w1.heap.size 3 1 o (Blk.ers P k).length (plv (Blk.ers P k)) ∧ Below w1.heap.size w1 wr) (fun _ i _ => n - (intOf i).toNat)
  case atStart => exact ⟨0, Nat.zero_le _, rfl, World.ownsRow_nil _ _ _ _, Below.refl _ _⟩
  case round =>
    obtain ⟨k, hk, rfl, hown, hB⟩ := hrel
    have HO := Lib.hid hown
    have HB := Lib.hid hB
    clear hown hB
    by_cases hlt : k < n
    · have HR := HA.out.below HB.out
      have ck := HR.er.cell hlt
      have es := ES.out k
      have db := DB.out k
      have lk : (Blk.ers P k).length ≤ k := by
        have := List.length_filter_le P (List.range k)
        unfold Blk.ers
        simpa using this
      obtain ⟨v, hv⟩ : ∃ v, er k = v := ⟨_, rfl⟩
      rw [hv] at ck db
      obtain ⟨m, hm⟩ : ∃ m, (Blk.ers P k).length = m := ⟨_, rfl⟩
      rw [hm] at HO lk
      obtain ⟨i0, hi0, hz0, hz1, hz2⟩ := info_parts info_i64
      have b1 := HB.out.size
      have EY := Lib.hid (fun (q : P k = true) => (show Blk.ers P (k + 1) = Blk.ers P k ++ [k] by rw [es, if_pos q]))
      have EN := Lib.hid (fun (q : P k = false) => (show Blk.ers P (k + 1) = Blk.ers P k by rw [es, if_neg (by rw [q]; decide)]))
      have PL := Lib.hid (show plv (Blk.ers P k ++ [k]) = plv (Blk.ers P k) ++ [.int .i64 (k : Nat)] by unfold plv; rw [List.map_append]; rfl)
      have LE := Lib.hid (show (Blk.ers P k ++ [k]).length = m + 1 by rw [List.length_append, hm]; rfl)
      have HM := Lib.hid hm
      have DBH := Lib.hid db
      cases v with
      | true =>
        have EY2 := Lib.hid (EY.out (by rw [DBH.out]; rfl))
        clear es db hv hm HR ES DB EL EVA
        have B1 := Lib.hid (HB.out.alloc HB.out.size (.cells #[.int .i64 (k : Nat)] 3))
        go_wp2_with (at_builtin; refine wpList_append_own _ rfl _ _ 27 rfl w1.heap.size 3 i0 (.int .i64 0) 1 8 Tryd.underlying27 hi0 hz0 hz1 hz2 rfl (by decide) _ _ _ rfl (HO.out.alloc _) ⟨wr.heap.size, 0, none⟩ 1 1 [.int .i64 (k : Nat)] rfl rfl cell_one (by simp [Value.oneCell']) (by unfold maxLen; omega) (by omega) B1.out.size ?_; intro v' w2 hown2 hgrow _; obtain ⟨g', cap', rfl⟩ := ownsRow_succ hown2; have HO2 := Lib.hid hown2; have BW2 := Lib.hid (B1.out.grown hgrow B1.out.size (fun k e => own_block_ge HO.out e)); clear hown2 hgrow)
        go_roundw
        case rel => exact ⟨k + 1, by omega, by go_num, by rw [EY2.out, LE.out, PL.out]; exact HO2.out, BW2.out⟩
        case measure => simp [intOf]; omega
      | false =>
        have c0 := (HB.out.cell (p := ⟨w.heap.size, 0, none⟩) lx.out).trans cx0.out
        have c1 := (HB.out.cell (p := ⟨w.heap.size, 1, none⟩) lx.out).trans cx1.out
        have EK := Lib.hid (fun w => EL.out k hlt w)
        have VK := Lib.hid (fun w => EVA.out (Blk.elem n k) w)
        obtain ⟨xe, hxe⟩ : ∃ x, (Blk.elem n k).toNat = x := ⟨_, rfl⟩
        obtain ⟨xv, hxv⟩ : ∃ x, (Gal.evalV l.data.toList (Blk.elem n k)).toNat = x := ⟨_, rfl⟩
        rw [hxe] at EK VK
        rw [hxv] at VK
        have HX := Lib.hid hxv
        clear es db hv hm HR ES DB EL EVA hxe hxv
        go_wp2_with fail
        (with_reducible refine (EK.out _).mono ?_)
        rintro e w2 ⟨rfl, h2⟩
        have HO2 := Lib.hid (own_below HO.out h2)
        have HB2 := Lib.hid (bt HB.out h2)
        clear h2 c0 c1 ck
        go_wp2_with fail
        (with_reducible refine (VK.out _).mono ?_)
        rintro e w3 ⟨rfl, h2⟩
        have HO3 := Lib.hid (own_below HO2.out h2)
        have HB3 := Lib.hid (bt HB2.out h2)
        clear h2 HO HO2 HB2
        by_cases z : xv = 0
        · subst z
          have EY2 := Lib.hid (EY.out (by rw [DBH.out, Bool.false_or]; exact decide_eq_true (BitVec.eq_of_toNat_eq HX.out)))
          have B1 := Lib.hid (HB3.out.alloc HB3.out.size (.cells #[.int .i64 (k : Nat)] 3))
          clear EY EN DBH HX
          go_wp2_with (at_builtin; refine wpList_append_own _ rfl _ _ 27 rfl w1.heap.size 3 i0 (.int .i64 0) 1 8 Tryd.underlying27 hi0 hz0 hz1 hz2 rfl (by decide) _ _ _ rfl (HO3.out.alloc _) ⟨w3.heap.size, 0, none⟩ 1 1 [.int .i64 (k : Nat)] rfl rfl cell_one (by simp [Value.oneCell']) (by unfold maxLen; omega) (by omega) B1.out.size ?_; intro v' w4 hown2 hgrow _; obtain ⟨g', cap', rfl⟩ := ownsRow_succ hown2; have HO4 := Lib.hid hown2; have BW4 := Lib.hid (B1.out.grown hgrow B1.out.size (fun k e => own_block_ge HO3.out e)); clear hown2 hgrow)
          go_roundw
          case rel => exact ⟨k + 1, by omega, by go_num, by rw [EY2.out, LE.out, PL.out]; exact HO4.out, BW4.out⟩
          case measure => simp [intOf]; omega
        · have x1 : ((xv : Int) == (0 : Int)) = false := by simp; omega
          have EN2 := Lib.hid (EN.out (by rw [DBH.out, Bool.false_or]; exact decide_eq_false (fun q => z (by rw [← HX.out, q]; rfl))))
          clear EY EN DBH HX z
          go_wp2_with fail
          go_roundw
          case rel => exact ⟨k + 1, by omega, by go_num, by rw [EN2.out, HM.out]; exact HO3.out, HB3.out⟩
          case measure => simp [intOf]; omega
    · obtain rfl : k = n := by omega
      have FIN := Lib.hid (show ∀ v, wr.ownsRow w1.heap.size 3 1 v (Blk.ers P k).length (plv (Blk.ers P k)) → DouP (Blk.ers P k) w (.returned v) wr from fun v h => ⟨v, rfl, own_mono h B0.out.size, B0.out.trans (HB.out.mono B0.out.size)⟩)
      clear ES DB EL EVA HA cx0 cx1
      go_wp2_with fail
      go_ret
      exact FIN.out _ HO.out
end Go.Proofs.YtlpjhmafplljaaaDoor
