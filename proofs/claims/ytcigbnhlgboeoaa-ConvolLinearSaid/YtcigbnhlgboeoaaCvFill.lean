/- The contracts of perigeelaw06's filled and combined over this program. -/
import Derived.Test.YtcigbnhlgboeoaaCvAwake
import Derived.Test.YtcigbnhlgboeoaaRegG
namespace Go.Proofs.Ytcigbnhlgboeoaa
open Go.RowKit
set_option linter.unusedVariables false

/-- So many bytes of a string, filled with bytes 0. -/
def fil (s : ByteArray) (n : Nat) : ByteArray := ⟨(Gal.coefs (Gal.co s.data.toList) n).toArray⟩
theorem fil_size (s : ByteArray) (n : Nat) : (fil s n).size = n := coefs_size _ _
theorem fil_cut (s : ByteArray) (n : Nat) (h : n ≤ s.size) : s.extract 0 n = fil s n := by
  apply ByteArray.ext
  apply Array.toList_inj.1
  show (s.extract 0 n).data.toList = Gal.coefs (Gal.co s.data.toList) n
  rw [take_bytes]
  refine Gal.ext (by rw [Gal.coefs_length, List.length_take, ls]; omega) (fun i hi => ?_)
  rw [Gal.co_take, Gal.co_coefs]
theorem zeros_rep (m : Nat) : Gal.coefs (fun _ => 0#8) m = List.replicate m 0 := by
  apply List.ext_getElem
  · rw [Gal.coefs_length, List.length_replicate]
  · intro i h1 h2
    simp [Gal.coefs]
theorem fil_more (s : ByteArray) (n : Nat) (h : s.size ≤ n) : s ++ (⟨(Gal.coefs (fun _ => 0#8) (n - s.size)).toArray⟩ : ByteArray) = fil s n := by
  apply ByteArray.ext
  apply Array.toList_inj.1
  show (s ++ (⟨(Gal.coefs (fun _ => 0#8) (n - s.size)).toArray⟩ : ByteArray)).data.toList = Gal.coefs (Gal.co s.data.toList) n
  rw [ByteArray.data_append, Array.toList_append, zeros_rep]
  refine Gal.ext (by rw [Gal.coefs_length, List.length_append, ls, List.length_replicate]; omega) (fun i hi => ?_)
  have hi' : i < n := by
    rw [List.length_append, ls, List.length_replicate] at hi
    omega
  rw [Gal.co_zeros, Gal.co_coefs, if_pos hi']
set_option maxRecDepth 100000 in
theorem filled_any (s : ByteArray) (n : Nat) (h : n ≤ 1000) (hs : s.size ≤ 9223372036854775807) (w : World) :
    Calls Try.prog 16 #[.string s, .int .i64 n] w fun e w' => e = .returned (.string (fil s n)) ∧ Below w.heap.size w w' := by
  obtain ⟨m, hm⟩ : ∃ m, s.size = m := ⟨_, rfl⟩
  rw [hm] at hs
  by_cases g : n < m
  · have FC := Lib.hid (fil_cut s n (by omega))
    have t1 : decide ((n : Int) < (m : Int)) = true := by simp; omega
    go_enter Try.func16, Try.ntmps16
    go_wp2_with fail
    go_ret
    exact ⟨by rw [← FC.out]; rfl, Below.refl _ _⟩
  · have FM := Lib.hid (fil_more s n (by omega))
    rw [hm] at FM
    have t1 : decide ((n : Int) < (m : Int)) = false := by simp; omega
    obtain ⟨k, hk⟩ : ∃ k, n - m = k := ⟨_, rfl⟩
    have k1 : (n : Int) - (m : Int) = (k : Int) := by omega
    have k2 : k ≤ 1000 := by omega
    have m2 : m ≤ 1000 := by omega
    have zs := coefs_size (fun _ => 0#8) k
    rw [hk] at FM
    obtain ⟨i0, hi, hz0, hz1, hz2⟩ := info_parts info_u8
    obtain ⟨z, hz⟩ : ∃ z, (⟨(Gal.coefs (fun _ => 0#8) k).toArray⟩ : ByteArray) = z := ⟨_, rfl⟩
    rw [hz] at zs FM
    have HZ := Lib.hid hz
    clear hk hz g
    go_enter Try.func16, Try.ntmps16
    go_wp2_with (first
      | (at_make; refine wpList_make_full _ rfl _ _ 44 rfl w.heap.size 5 i0 (.int .u8 0) 1 Try.underlying44 hi hz0 hz1 .i64 .i64 _ _ k rfl rfl (by first | rfl | omega) (by first | rfl | omega) (by rw [hz2]; omega) (by unfold maxLen; omega) (Nat.le_refl _) ?_; intro w2 hown hgrow;
          have hb2 := Lib.hid ((Below.refl w.heap.size w).grown hgrow (Nat.le_refl _) (fun k e => by cases e));
          have cv := Lib.hid (nums_back (f := fun _ => 0#8) k (madeNums hown)); rw [HZ.out] at cv)
      | (simp only [cv.out]))
    go_ret
    exact ⟨by rw [← FM.out]; rfl, hb2.out⟩

structure CmbRegion (sb i N : Nat) (p q r : ByteArray) (xp xq xr u v : BitVec 8) (f : Nat → BitVec 8) (A : Act) (w0 : World) (s : Nat → Bool) (a : Act) (w : World) : Prop where
  off : Off [18, 19, 20, 21, 22, 23, 24, 25, 26, 27, 28, 29, 30, 31] a A
  before : s 14 = false → Below w0.heap.size w0 w
  behind : s 14 = true → ∃ w1, Below w0.heap.size w0 w1 ∧ w = w1.setCell ⟨sb, i, none⟩ (.int .u8 (v.toNat : Nat))
  t0 : s 0 = true → a.eval (.tmp 18) = .slice (some ⟨sb, 0, none⟩) N N
  t1 : s 1 = true → a.eval (.tmp 19) = .int .i64 (i : Nat)
  t2 : s 2 = true → a.eval (.tmp 20) = .string p
  t3 : s 3 = true → a.eval (.tmp 21) = .int .i64 (i : Nat)
  t4 : s 4 = true → a.eval (.tmp 22) = .int .u8 (xp.toNat : Nat)
  t5 : s 5 = true → a.eval (.tmp 23) = .string q
  t6 : s 6 = true → a.eval (.tmp 24) = .int .i64 (i : Nat)
  t7 : s 7 = true → a.eval (.tmp 25) = .int .u8 (xq.toNat : Nat)
  t8 : s 8 = true → a.eval (.tmp 26) = .int .u8 (u.toNat : Nat)
  t9 : s 9 = true → a.eval (.tmp 27) = .string r
  t10 : s 10 = true → a.eval (.tmp 28) = .int .i64 (i : Nat)
  t11 : s 11 = true → a.eval (.tmp 29) = .int .u8 (xr.toNat : Nat)
  t12 : s 12 = true → a.eval (.tmp 30) = .int .u8 (v.toNat : Nat)
  t13 : s 13 = true → a.eval (.tmp 31) = .pointer (some ⟨sb, i, none⟩)
set_option maxHeartbeats 2000000 in
set_option maxRecDepth 100000 in
theorem cmbRegion {id : Nat} {d : Bool} {l : List Oper} {A : Act} {w : World} {Q : Exit → Act → World → Prop} (sb i N : Nat) (p q r : ByteArray) (xp xq xr u v : BitVec 8) (f : Nat → BitVec 8)
    (ep : Gal.co p.data.toList i = xp) (eq : Gal.co q.data.toList i = xq) (er : Gal.co r.data.toList i = xr) (eu : xp ^^^ xq = u) (ev : u ^^^ xr = v) (hp : i < p.size) (hq : i < q.size) (hr : i < r.size) (hN : i < N) (hF : NumsK .u8 w sb N (fun j => (f j).toNat))
    (hB : tableL d l.toArray (fun i => match i with | 0 => [] | 1 => [] | 2 => [] | 3 => [] | 4 => [2, 3] | 5 => [] | 6 => [] | 7 => [5, 6] | 8 => [4, 7] | 9 => [] | 10 => [] | 11 => [9, 10] | 12 => [8, 11] | 13 => [0, 1] | 14 => [0, 1, 2, 3, 4, 5, 6, 7, 8, 9, 10, 11, 12, 13] | _ => []) (fun i => match i with | 0 => [14] | 1 => [14] | 2 => [14] | 3 => [14] | 4 => [14] | 5 => [14] | 6 => [14] | 7 => [14] | 8 => [14] | 9 => [14] | 10 => [14] | 11 => [14] | 12 => [14] | 13 => [14] | 14 => [] | _ => []) = true) (hl : l.length = 15)
    (h0 : pick l 0 = some (.move (.tmp 7), some 18))
    (h1 : pick l 1 = some (.move (.tmp 8), some 19))
    (h2 : pick l 2 = some (.move (.tmp 0), some 20))
    (h3 : pick l 3 = some (.move (.tmp 8), some 21))
    (h4 : pick l 4 = some (.index 9 (.tmp 20) (.tmp 21), some 22))
    (h5 : pick l 5 = some (.move (.tmp 1), some 23))
    (h6 : pick l 6 = some (.move (.tmp 8), some 24))
    (h7 : pick l 7 = some (.index 9 (.tmp 23) (.tmp 24), some 25))
    (h8 : pick l 8 = some (.binOp .xor 5 (.tmp 22) (.tmp 25) 5, some 26))
    (h9 : pick l 9 = some (.move (.tmp 2), some 27))
    (h10 : pick l 10 = some (.move (.tmp 8), some 28))
    (h11 : pick l 11 = some (.index 9 (.tmp 27) (.tmp 28), some 29))
    (h12 : pick l 12 = some (.binOp .xor 5 (.tmp 26) (.tmp 29) 5, some 30))
    (h13 : pick l 13 = some (.indexAddr 44 (.tmp 18) (.tmp 19), some 31))
    (h14 : pick l 14 = some (.store 5 (.tmp 31) (.tmp 30), none))
    (hs : A.tmps.size = 34)
    (x7 : A.eval (.tmp 7) = .slice (some ⟨sb, 0, none⟩) N N)
    (x8 : A.eval (.tmp 8) = .int .i64 (i : Nat))
    (x0 : A.eval (.tmp 0) = .string p)
    (x1 : A.eval (.tmp 1) = .string q)
    (x2 : A.eval (.tmp 2) = .string r)
    (h : ∀ w1, Below w.heap.size w w1 → Q .normal ((((((((((((((A.put (some 18) (.slice (some ⟨sb, 0, none⟩) N N)).put (some 19) (.int .i64 (i : Nat))).put (some 20) (.string p)).put (some 21) (.int .i64 (i : Nat))).put (some 22) (.int .u8 (xp.toNat : Nat))).put (some 23) (.string q)).put (some 24) (.int .i64 (i : Nat))).put (some 25) (.int .u8 (xq.toNat : Nat))).put (some 26) (.int .u8 (u.toNat : Nat))).put (some 27) (.string r)).put (some 28) (.int .i64 (i : Nat))).put (some 29) (.int .u8 (xr.toNat : Nat))).put (some 30) (.int .u8 (v.toNat : Nat))).put (some 31) (.pointer (some ⟨sb, i, none⟩))) (w1.setCell ⟨sb, i, none⟩ (.int .u8 (v.toNat : Nat)))) :
    (Code.region id l.toArray d).wp Try.prog Q A w := by
  refine wp_region_invL (by kernel_rfl) _ _ hB (CmbRegion sb i N p q r xp xq xr u v f A w) ⟨Off.refl _ _, fun _ => Below.refl _ _, by simp, by simp, by simp, by simp, by simp, by simp, by simp, by simp, by simp, by simp, by simp, by simp, by simp, by simp, by simp⟩ ⟨Off.refl _ _, fun _ => (Below.refl _ _).drew, by simp, by simp, by simp, by simp, by simp, by simp, by simp, by simp, by simp, by simp, by simp, by simp, by simp, by simp, by simp⟩ ?_ ?_
  · intro s a w' S i' o ho hsi hT K hK
    have sz : a.tmps.size = 34 := by rw [S.off.2.1]; exact hs
    have il : i' < 15 := by have := (List.getElem?_eq_some_iff.1 ho).1; omega
    have y7 : a.eval (.tmp 7) = .slice (some ⟨sb, 0, none⟩) N N := by rw [S.off.eval (by decide)]; exact x7
    have y8 : a.eval (.tmp 8) = .int .i64 (i : Nat) := by rw [S.off.eval (by decide)]; exact x8
    have y0 : a.eval (.tmp 0) = .string p := by rw [S.off.eval (by decide)]; exact x0
    have y1 : a.eval (.tmp 1) = .string q := by rw [S.off.eval (by decide)]; exact x1
    have y2 : a.eval (.tmp 2) = .string r := by rw [S.off.eval (by decide)]; exact x2
    match i', il, ho, hsi, hT with
    | 0, _, ho, hsi, hT =>
      obtain ⟨e1, e2⟩ := pick_of h0 ho
      have NL : s 14 = false := list_neg hT (k := 14) (by decide)
      have BW := S.before NL
      refine step_val (v := .slice (some ⟨sb, 0, none⟩) N N) (by simp only [execOp, e1, y7]; go_simp) (hK _ _ ?_)
      rw [e2]
      exact ⟨S.off.put (by decide) _, fun _ => S.before NL, fun g => absurd g (by simp [NL]), fun _ => (eval_put _ _ _ (by omega)).trans rfl, fun g => by rw [eval_put_ne _ _ _ _ (by decide)]; exact S.t1 (by simpa using g), fun g => by rw [eval_put_ne _ _ _ _ (by decide)]; exact S.t2 (by simpa using g), fun g => by rw [eval_put_ne _ _ _ _ (by decide)]; exact S.t3 (by simpa using g), fun g => by rw [eval_put_ne _ _ _ _ (by decide)]; exact S.t4 (by simpa using g), fun g => by rw [eval_put_ne _ _ _ _ (by decide)]; exact S.t5 (by simpa using g), fun g => by rw [eval_put_ne _ _ _ _ (by decide)]; exact S.t6 (by simpa using g), fun g => by rw [eval_put_ne _ _ _ _ (by decide)]; exact S.t7 (by simpa using g), fun g => by rw [eval_put_ne _ _ _ _ (by decide)]; exact S.t8 (by simpa using g), fun g => by rw [eval_put_ne _ _ _ _ (by decide)]; exact S.t9 (by simpa using g), fun g => by rw [eval_put_ne _ _ _ _ (by decide)]; exact S.t10 (by simpa using g), fun g => by rw [eval_put_ne _ _ _ _ (by decide)]; exact S.t11 (by simpa using g), fun g => by rw [eval_put_ne _ _ _ _ (by decide)]; exact S.t12 (by simpa using g), fun g => by rw [eval_put_ne _ _ _ _ (by decide)]; exact S.t13 (by simpa using g)⟩
    | 1, _, ho, hsi, hT =>
      obtain ⟨e1, e2⟩ := pick_of h1 ho
      have NL : s 14 = false := list_neg hT (k := 14) (by decide)
      have BW := S.before NL
      refine step_val (v := .int .i64 (i : Nat)) (by simp only [execOp, e1, y8]; go_simp) (hK _ _ ?_)
      rw [e2]
      exact ⟨S.off.put (by decide) _, fun _ => S.before NL, fun g => absurd g (by simp [NL]), fun g => by rw [eval_put_ne _ _ _ _ (by decide)]; exact S.t0 (by simpa using g), fun _ => (eval_put _ _ _ (by omega)).trans rfl, fun g => by rw [eval_put_ne _ _ _ _ (by decide)]; exact S.t2 (by simpa using g), fun g => by rw [eval_put_ne _ _ _ _ (by decide)]; exact S.t3 (by simpa using g), fun g => by rw [eval_put_ne _ _ _ _ (by decide)]; exact S.t4 (by simpa using g), fun g => by rw [eval_put_ne _ _ _ _ (by decide)]; exact S.t5 (by simpa using g), fun g => by rw [eval_put_ne _ _ _ _ (by decide)]; exact S.t6 (by simpa using g), fun g => by rw [eval_put_ne _ _ _ _ (by decide)]; exact S.t7 (by simpa using g), fun g => by rw [eval_put_ne _ _ _ _ (by decide)]; exact S.t8 (by simpa using g), fun g => by rw [eval_put_ne _ _ _ _ (by decide)]; exact S.t9 (by simpa using g), fun g => by rw [eval_put_ne _ _ _ _ (by decide)]; exact S.t10 (by simpa using g), fun g => by rw [eval_put_ne _ _ _ _ (by decide)]; exact S.t11 (by simpa using g), fun g => by rw [eval_put_ne _ _ _ _ (by decide)]; exact S.t12 (by simpa using g), fun g => by rw [eval_put_ne _ _ _ _ (by decide)]; exact S.t13 (by simpa using g)⟩
    | 2, _, ho, hsi, hT =>
      obtain ⟨e1, e2⟩ := pick_of h2 ho
      have NL : s 14 = false := list_neg hT (k := 14) (by decide)
      have BW := S.before NL
      refine step_val (v := .string p) (by simp only [execOp, e1, y0]; go_simp) (hK _ _ ?_)
      rw [e2]
      exact ⟨S.off.put (by decide) _, fun _ => S.before NL, fun g => absurd g (by simp [NL]), fun g => by rw [eval_put_ne _ _ _ _ (by decide)]; exact S.t0 (by simpa using g), fun g => by rw [eval_put_ne _ _ _ _ (by decide)]; exact S.t1 (by simpa using g), fun _ => (eval_put _ _ _ (by omega)).trans rfl, fun g => by rw [eval_put_ne _ _ _ _ (by decide)]; exact S.t3 (by simpa using g), fun g => by rw [eval_put_ne _ _ _ _ (by decide)]; exact S.t4 (by simpa using g), fun g => by rw [eval_put_ne _ _ _ _ (by decide)]; exact S.t5 (by simpa using g), fun g => by rw [eval_put_ne _ _ _ _ (by decide)]; exact S.t6 (by simpa using g), fun g => by rw [eval_put_ne _ _ _ _ (by decide)]; exact S.t7 (by simpa using g), fun g => by rw [eval_put_ne _ _ _ _ (by decide)]; exact S.t8 (by simpa using g), fun g => by rw [eval_put_ne _ _ _ _ (by decide)]; exact S.t9 (by simpa using g), fun g => by rw [eval_put_ne _ _ _ _ (by decide)]; exact S.t10 (by simpa using g), fun g => by rw [eval_put_ne _ _ _ _ (by decide)]; exact S.t11 (by simpa using g), fun g => by rw [eval_put_ne _ _ _ _ (by decide)]; exact S.t12 (by simpa using g), fun g => by rw [eval_put_ne _ _ _ _ (by decide)]; exact S.t13 (by simpa using g)⟩
    | 3, _, ho, hsi, hT =>
      obtain ⟨e1, e2⟩ := pick_of h3 ho
      have NL : s 14 = false := list_neg hT (k := 14) (by decide)
      have BW := S.before NL
      refine step_val (v := .int .i64 (i : Nat)) (by simp only [execOp, e1, y8]; go_simp) (hK _ _ ?_)
      rw [e2]
      exact ⟨S.off.put (by decide) _, fun _ => S.before NL, fun g => absurd g (by simp [NL]), fun g => by rw [eval_put_ne _ _ _ _ (by decide)]; exact S.t0 (by simpa using g), fun g => by rw [eval_put_ne _ _ _ _ (by decide)]; exact S.t1 (by simpa using g), fun g => by rw [eval_put_ne _ _ _ _ (by decide)]; exact S.t2 (by simpa using g), fun _ => (eval_put _ _ _ (by omega)).trans rfl, fun g => by rw [eval_put_ne _ _ _ _ (by decide)]; exact S.t4 (by simpa using g), fun g => by rw [eval_put_ne _ _ _ _ (by decide)]; exact S.t5 (by simpa using g), fun g => by rw [eval_put_ne _ _ _ _ (by decide)]; exact S.t6 (by simpa using g), fun g => by rw [eval_put_ne _ _ _ _ (by decide)]; exact S.t7 (by simpa using g), fun g => by rw [eval_put_ne _ _ _ _ (by decide)]; exact S.t8 (by simpa using g), fun g => by rw [eval_put_ne _ _ _ _ (by decide)]; exact S.t9 (by simpa using g), fun g => by rw [eval_put_ne _ _ _ _ (by decide)]; exact S.t10 (by simpa using g), fun g => by rw [eval_put_ne _ _ _ _ (by decide)]; exact S.t11 (by simpa using g), fun g => by rw [eval_put_ne _ _ _ _ (by decide)]; exact S.t12 (by simpa using g), fun g => by rw [eval_put_ne _ _ _ _ (by decide)]; exact S.t13 (by simpa using g)⟩
    | 4, _, ho, hsi, hT =>
      obtain ⟨e1, e2⟩ := pick_of h4 ho
      have D2 : s 2 = true := list_pos hT (d := 2) (by decide)
      have D3 : s 3 = true := list_pos hT (d := 3) (by decide)
      have NL : s 14 = false := list_neg hT (k := 14) (by decide)
      have BW := S.before NL
      have bc := byte_co p i hp
      rw [ep] at bc
      refine step_val (v := .int .u8 (xp.toNat : Nat)) (by simp only [execOp, e1, S.t2 D2, S.t3 D3]; go_simp) (hK _ _ ?_)
      rw [e2]
      exact ⟨S.off.put (by decide) _, fun _ => S.before NL, fun g => absurd g (by simp [NL]), fun g => by rw [eval_put_ne _ _ _ _ (by decide)]; exact S.t0 (by simpa using g), fun g => by rw [eval_put_ne _ _ _ _ (by decide)]; exact S.t1 (by simpa using g), fun g => by rw [eval_put_ne _ _ _ _ (by decide)]; exact S.t2 (by simpa using g), fun g => by rw [eval_put_ne _ _ _ _ (by decide)]; exact S.t3 (by simpa using g), fun _ => (eval_put _ _ _ (by omega)).trans rfl, fun g => by rw [eval_put_ne _ _ _ _ (by decide)]; exact S.t5 (by simpa using g), fun g => by rw [eval_put_ne _ _ _ _ (by decide)]; exact S.t6 (by simpa using g), fun g => by rw [eval_put_ne _ _ _ _ (by decide)]; exact S.t7 (by simpa using g), fun g => by rw [eval_put_ne _ _ _ _ (by decide)]; exact S.t8 (by simpa using g), fun g => by rw [eval_put_ne _ _ _ _ (by decide)]; exact S.t9 (by simpa using g), fun g => by rw [eval_put_ne _ _ _ _ (by decide)]; exact S.t10 (by simpa using g), fun g => by rw [eval_put_ne _ _ _ _ (by decide)]; exact S.t11 (by simpa using g), fun g => by rw [eval_put_ne _ _ _ _ (by decide)]; exact S.t12 (by simpa using g), fun g => by rw [eval_put_ne _ _ _ _ (by decide)]; exact S.t13 (by simpa using g)⟩
    | 5, _, ho, hsi, hT =>
      obtain ⟨e1, e2⟩ := pick_of h5 ho
      have NL : s 14 = false := list_neg hT (k := 14) (by decide)
      have BW := S.before NL
      refine step_val (v := .string q) (by simp only [execOp, e1, y1]; go_simp) (hK _ _ ?_)
      rw [e2]
      exact ⟨S.off.put (by decide) _, fun _ => S.before NL, fun g => absurd g (by simp [NL]), fun g => by rw [eval_put_ne _ _ _ _ (by decide)]; exact S.t0 (by simpa using g), fun g => by rw [eval_put_ne _ _ _ _ (by decide)]; exact S.t1 (by simpa using g), fun g => by rw [eval_put_ne _ _ _ _ (by decide)]; exact S.t2 (by simpa using g), fun g => by rw [eval_put_ne _ _ _ _ (by decide)]; exact S.t3 (by simpa using g), fun g => by rw [eval_put_ne _ _ _ _ (by decide)]; exact S.t4 (by simpa using g), fun _ => (eval_put _ _ _ (by omega)).trans rfl, fun g => by rw [eval_put_ne _ _ _ _ (by decide)]; exact S.t6 (by simpa using g), fun g => by rw [eval_put_ne _ _ _ _ (by decide)]; exact S.t7 (by simpa using g), fun g => by rw [eval_put_ne _ _ _ _ (by decide)]; exact S.t8 (by simpa using g), fun g => by rw [eval_put_ne _ _ _ _ (by decide)]; exact S.t9 (by simpa using g), fun g => by rw [eval_put_ne _ _ _ _ (by decide)]; exact S.t10 (by simpa using g), fun g => by rw [eval_put_ne _ _ _ _ (by decide)]; exact S.t11 (by simpa using g), fun g => by rw [eval_put_ne _ _ _ _ (by decide)]; exact S.t12 (by simpa using g), fun g => by rw [eval_put_ne _ _ _ _ (by decide)]; exact S.t13 (by simpa using g)⟩
    | 6, _, ho, hsi, hT =>
      obtain ⟨e1, e2⟩ := pick_of h6 ho
      have NL : s 14 = false := list_neg hT (k := 14) (by decide)
      have BW := S.before NL
      refine step_val (v := .int .i64 (i : Nat)) (by simp only [execOp, e1, y8]; go_simp) (hK _ _ ?_)
      rw [e2]
      exact ⟨S.off.put (by decide) _, fun _ => S.before NL, fun g => absurd g (by simp [NL]), fun g => by rw [eval_put_ne _ _ _ _ (by decide)]; exact S.t0 (by simpa using g), fun g => by rw [eval_put_ne _ _ _ _ (by decide)]; exact S.t1 (by simpa using g), fun g => by rw [eval_put_ne _ _ _ _ (by decide)]; exact S.t2 (by simpa using g), fun g => by rw [eval_put_ne _ _ _ _ (by decide)]; exact S.t3 (by simpa using g), fun g => by rw [eval_put_ne _ _ _ _ (by decide)]; exact S.t4 (by simpa using g), fun g => by rw [eval_put_ne _ _ _ _ (by decide)]; exact S.t5 (by simpa using g), fun _ => (eval_put _ _ _ (by omega)).trans rfl, fun g => by rw [eval_put_ne _ _ _ _ (by decide)]; exact S.t7 (by simpa using g), fun g => by rw [eval_put_ne _ _ _ _ (by decide)]; exact S.t8 (by simpa using g), fun g => by rw [eval_put_ne _ _ _ _ (by decide)]; exact S.t9 (by simpa using g), fun g => by rw [eval_put_ne _ _ _ _ (by decide)]; exact S.t10 (by simpa using g), fun g => by rw [eval_put_ne _ _ _ _ (by decide)]; exact S.t11 (by simpa using g), fun g => by rw [eval_put_ne _ _ _ _ (by decide)]; exact S.t12 (by simpa using g), fun g => by rw [eval_put_ne _ _ _ _ (by decide)]; exact S.t13 (by simpa using g)⟩
    | 7, _, ho, hsi, hT =>
      obtain ⟨e1, e2⟩ := pick_of h7 ho
      have D5 : s 5 = true := list_pos hT (d := 5) (by decide)
      have D6 : s 6 = true := list_pos hT (d := 6) (by decide)
      have NL : s 14 = false := list_neg hT (k := 14) (by decide)
      have BW := S.before NL
      have bc := byte_co q i hq
      rw [eq] at bc
      refine step_val (v := .int .u8 (xq.toNat : Nat)) (by simp only [execOp, e1, S.t5 D5, S.t6 D6]; go_simp) (hK _ _ ?_)
      rw [e2]
      exact ⟨S.off.put (by decide) _, fun _ => S.before NL, fun g => absurd g (by simp [NL]), fun g => by rw [eval_put_ne _ _ _ _ (by decide)]; exact S.t0 (by simpa using g), fun g => by rw [eval_put_ne _ _ _ _ (by decide)]; exact S.t1 (by simpa using g), fun g => by rw [eval_put_ne _ _ _ _ (by decide)]; exact S.t2 (by simpa using g), fun g => by rw [eval_put_ne _ _ _ _ (by decide)]; exact S.t3 (by simpa using g), fun g => by rw [eval_put_ne _ _ _ _ (by decide)]; exact S.t4 (by simpa using g), fun g => by rw [eval_put_ne _ _ _ _ (by decide)]; exact S.t5 (by simpa using g), fun g => by rw [eval_put_ne _ _ _ _ (by decide)]; exact S.t6 (by simpa using g), fun _ => (eval_put _ _ _ (by omega)).trans rfl, fun g => by rw [eval_put_ne _ _ _ _ (by decide)]; exact S.t8 (by simpa using g), fun g => by rw [eval_put_ne _ _ _ _ (by decide)]; exact S.t9 (by simpa using g), fun g => by rw [eval_put_ne _ _ _ _ (by decide)]; exact S.t10 (by simpa using g), fun g => by rw [eval_put_ne _ _ _ _ (by decide)]; exact S.t11 (by simpa using g), fun g => by rw [eval_put_ne _ _ _ _ (by decide)]; exact S.t12 (by simpa using g), fun g => by rw [eval_put_ne _ _ _ _ (by decide)]; exact S.t13 (by simpa using g)⟩
    | 8, _, ho, hsi, hT =>
      obtain ⟨e1, e2⟩ := pick_of h8 ho
      have D4 : s 4 = true := list_pos hT (d := 4) (by decide)
      have D7 : s 7 = true := list_pos hT (d := 7) (by decide)
      have NL : s 14 = false := list_neg hT (k := 14) (by decide)
      have BW := S.before NL
      have xo := xor8 xp xq
      rw [eu] at xo
      refine step_val (v := .int .u8 (u.toNat : Nat)) (by simp only [execOp, e1, S.t4 D4, S.t7 D7]; go_simp) (hK _ _ ?_)
      rw [e2]
      exact ⟨S.off.put (by decide) _, fun _ => S.before NL, fun g => absurd g (by simp [NL]), fun g => by rw [eval_put_ne _ _ _ _ (by decide)]; exact S.t0 (by simpa using g), fun g => by rw [eval_put_ne _ _ _ _ (by decide)]; exact S.t1 (by simpa using g), fun g => by rw [eval_put_ne _ _ _ _ (by decide)]; exact S.t2 (by simpa using g), fun g => by rw [eval_put_ne _ _ _ _ (by decide)]; exact S.t3 (by simpa using g), fun g => by rw [eval_put_ne _ _ _ _ (by decide)]; exact S.t4 (by simpa using g), fun g => by rw [eval_put_ne _ _ _ _ (by decide)]; exact S.t5 (by simpa using g), fun g => by rw [eval_put_ne _ _ _ _ (by decide)]; exact S.t6 (by simpa using g), fun g => by rw [eval_put_ne _ _ _ _ (by decide)]; exact S.t7 (by simpa using g), fun _ => (eval_put _ _ _ (by omega)).trans rfl, fun g => by rw [eval_put_ne _ _ _ _ (by decide)]; exact S.t9 (by simpa using g), fun g => by rw [eval_put_ne _ _ _ _ (by decide)]; exact S.t10 (by simpa using g), fun g => by rw [eval_put_ne _ _ _ _ (by decide)]; exact S.t11 (by simpa using g), fun g => by rw [eval_put_ne _ _ _ _ (by decide)]; exact S.t12 (by simpa using g), fun g => by rw [eval_put_ne _ _ _ _ (by decide)]; exact S.t13 (by simpa using g)⟩
    | 9, _, ho, hsi, hT =>
      obtain ⟨e1, e2⟩ := pick_of h9 ho
      have NL : s 14 = false := list_neg hT (k := 14) (by decide)
      have BW := S.before NL
      refine step_val (v := .string r) (by simp only [execOp, e1, y2]; go_simp) (hK _ _ ?_)
      rw [e2]
      exact ⟨S.off.put (by decide) _, fun _ => S.before NL, fun g => absurd g (by simp [NL]), fun g => by rw [eval_put_ne _ _ _ _ (by decide)]; exact S.t0 (by simpa using g), fun g => by rw [eval_put_ne _ _ _ _ (by decide)]; exact S.t1 (by simpa using g), fun g => by rw [eval_put_ne _ _ _ _ (by decide)]; exact S.t2 (by simpa using g), fun g => by rw [eval_put_ne _ _ _ _ (by decide)]; exact S.t3 (by simpa using g), fun g => by rw [eval_put_ne _ _ _ _ (by decide)]; exact S.t4 (by simpa using g), fun g => by rw [eval_put_ne _ _ _ _ (by decide)]; exact S.t5 (by simpa using g), fun g => by rw [eval_put_ne _ _ _ _ (by decide)]; exact S.t6 (by simpa using g), fun g => by rw [eval_put_ne _ _ _ _ (by decide)]; exact S.t7 (by simpa using g), fun g => by rw [eval_put_ne _ _ _ _ (by decide)]; exact S.t8 (by simpa using g), fun _ => (eval_put _ _ _ (by omega)).trans rfl, fun g => by rw [eval_put_ne _ _ _ _ (by decide)]; exact S.t10 (by simpa using g), fun g => by rw [eval_put_ne _ _ _ _ (by decide)]; exact S.t11 (by simpa using g), fun g => by rw [eval_put_ne _ _ _ _ (by decide)]; exact S.t12 (by simpa using g), fun g => by rw [eval_put_ne _ _ _ _ (by decide)]; exact S.t13 (by simpa using g)⟩
    | 10, _, ho, hsi, hT =>
      obtain ⟨e1, e2⟩ := pick_of h10 ho
      have NL : s 14 = false := list_neg hT (k := 14) (by decide)
      have BW := S.before NL
      refine step_val (v := .int .i64 (i : Nat)) (by simp only [execOp, e1, y8]; go_simp) (hK _ _ ?_)
      rw [e2]
      exact ⟨S.off.put (by decide) _, fun _ => S.before NL, fun g => absurd g (by simp [NL]), fun g => by rw [eval_put_ne _ _ _ _ (by decide)]; exact S.t0 (by simpa using g), fun g => by rw [eval_put_ne _ _ _ _ (by decide)]; exact S.t1 (by simpa using g), fun g => by rw [eval_put_ne _ _ _ _ (by decide)]; exact S.t2 (by simpa using g), fun g => by rw [eval_put_ne _ _ _ _ (by decide)]; exact S.t3 (by simpa using g), fun g => by rw [eval_put_ne _ _ _ _ (by decide)]; exact S.t4 (by simpa using g), fun g => by rw [eval_put_ne _ _ _ _ (by decide)]; exact S.t5 (by simpa using g), fun g => by rw [eval_put_ne _ _ _ _ (by decide)]; exact S.t6 (by simpa using g), fun g => by rw [eval_put_ne _ _ _ _ (by decide)]; exact S.t7 (by simpa using g), fun g => by rw [eval_put_ne _ _ _ _ (by decide)]; exact S.t8 (by simpa using g), fun g => by rw [eval_put_ne _ _ _ _ (by decide)]; exact S.t9 (by simpa using g), fun _ => (eval_put _ _ _ (by omega)).trans rfl, fun g => by rw [eval_put_ne _ _ _ _ (by decide)]; exact S.t11 (by simpa using g), fun g => by rw [eval_put_ne _ _ _ _ (by decide)]; exact S.t12 (by simpa using g), fun g => by rw [eval_put_ne _ _ _ _ (by decide)]; exact S.t13 (by simpa using g)⟩
    | 11, _, ho, hsi, hT =>
      obtain ⟨e1, e2⟩ := pick_of h11 ho
      have D9 : s 9 = true := list_pos hT (d := 9) (by decide)
      have D10 : s 10 = true := list_pos hT (d := 10) (by decide)
      have NL : s 14 = false := list_neg hT (k := 14) (by decide)
      have BW := S.before NL
      have bc := byte_co r i hr
      rw [er] at bc
      refine step_val (v := .int .u8 (xr.toNat : Nat)) (by simp only [execOp, e1, S.t9 D9, S.t10 D10]; go_simp) (hK _ _ ?_)
      rw [e2]
      exact ⟨S.off.put (by decide) _, fun _ => S.before NL, fun g => absurd g (by simp [NL]), fun g => by rw [eval_put_ne _ _ _ _ (by decide)]; exact S.t0 (by simpa using g), fun g => by rw [eval_put_ne _ _ _ _ (by decide)]; exact S.t1 (by simpa using g), fun g => by rw [eval_put_ne _ _ _ _ (by decide)]; exact S.t2 (by simpa using g), fun g => by rw [eval_put_ne _ _ _ _ (by decide)]; exact S.t3 (by simpa using g), fun g => by rw [eval_put_ne _ _ _ _ (by decide)]; exact S.t4 (by simpa using g), fun g => by rw [eval_put_ne _ _ _ _ (by decide)]; exact S.t5 (by simpa using g), fun g => by rw [eval_put_ne _ _ _ _ (by decide)]; exact S.t6 (by simpa using g), fun g => by rw [eval_put_ne _ _ _ _ (by decide)]; exact S.t7 (by simpa using g), fun g => by rw [eval_put_ne _ _ _ _ (by decide)]; exact S.t8 (by simpa using g), fun g => by rw [eval_put_ne _ _ _ _ (by decide)]; exact S.t9 (by simpa using g), fun g => by rw [eval_put_ne _ _ _ _ (by decide)]; exact S.t10 (by simpa using g), fun _ => (eval_put _ _ _ (by omega)).trans rfl, fun g => by rw [eval_put_ne _ _ _ _ (by decide)]; exact S.t12 (by simpa using g), fun g => by rw [eval_put_ne _ _ _ _ (by decide)]; exact S.t13 (by simpa using g)⟩
    | 12, _, ho, hsi, hT =>
      obtain ⟨e1, e2⟩ := pick_of h12 ho
      have D8 : s 8 = true := list_pos hT (d := 8) (by decide)
      have D11 : s 11 = true := list_pos hT (d := 11) (by decide)
      have NL : s 14 = false := list_neg hT (k := 14) (by decide)
      have BW := S.before NL
      have xo := xor8 u xr
      rw [ev] at xo
      refine step_val (v := .int .u8 (v.toNat : Nat)) (by simp only [execOp, e1, S.t8 D8, S.t11 D11]; go_simp) (hK _ _ ?_)
      rw [e2]
      exact ⟨S.off.put (by decide) _, fun _ => S.before NL, fun g => absurd g (by simp [NL]), fun g => by rw [eval_put_ne _ _ _ _ (by decide)]; exact S.t0 (by simpa using g), fun g => by rw [eval_put_ne _ _ _ _ (by decide)]; exact S.t1 (by simpa using g), fun g => by rw [eval_put_ne _ _ _ _ (by decide)]; exact S.t2 (by simpa using g), fun g => by rw [eval_put_ne _ _ _ _ (by decide)]; exact S.t3 (by simpa using g), fun g => by rw [eval_put_ne _ _ _ _ (by decide)]; exact S.t4 (by simpa using g), fun g => by rw [eval_put_ne _ _ _ _ (by decide)]; exact S.t5 (by simpa using g), fun g => by rw [eval_put_ne _ _ _ _ (by decide)]; exact S.t6 (by simpa using g), fun g => by rw [eval_put_ne _ _ _ _ (by decide)]; exact S.t7 (by simpa using g), fun g => by rw [eval_put_ne _ _ _ _ (by decide)]; exact S.t8 (by simpa using g), fun g => by rw [eval_put_ne _ _ _ _ (by decide)]; exact S.t9 (by simpa using g), fun g => by rw [eval_put_ne _ _ _ _ (by decide)]; exact S.t10 (by simpa using g), fun g => by rw [eval_put_ne _ _ _ _ (by decide)]; exact S.t11 (by simpa using g), fun _ => (eval_put _ _ _ (by omega)).trans rfl, fun g => by rw [eval_put_ne _ _ _ _ (by decide)]; exact S.t13 (by simpa using g)⟩
    | 13, _, ho, hsi, hT =>
      obtain ⟨e1, e2⟩ := pick_of h13 ho
      have D0 : s 0 = true := list_pos hT (d := 0) (by decide)
      have D1 : s 1 = true := list_pos hT (d := 1) (by decide)
      have NL : s 14 = false := list_neg hT (k := 14) (by decide)
      have BW := S.before NL
      refine step_val (v := .pointer (some ⟨sb, i, none⟩)) (by simp only [execOp, e1, S.t0 D0, S.t1 D1]; go_simp) (hK _ _ ?_)
      rw [e2]
      exact ⟨S.off.put (by decide) _, fun _ => S.before NL, fun g => absurd g (by simp [NL]), fun g => by rw [eval_put_ne _ _ _ _ (by decide)]; exact S.t0 (by simpa using g), fun g => by rw [eval_put_ne _ _ _ _ (by decide)]; exact S.t1 (by simpa using g), fun g => by rw [eval_put_ne _ _ _ _ (by decide)]; exact S.t2 (by simpa using g), fun g => by rw [eval_put_ne _ _ _ _ (by decide)]; exact S.t3 (by simpa using g), fun g => by rw [eval_put_ne _ _ _ _ (by decide)]; exact S.t4 (by simpa using g), fun g => by rw [eval_put_ne _ _ _ _ (by decide)]; exact S.t5 (by simpa using g), fun g => by rw [eval_put_ne _ _ _ _ (by decide)]; exact S.t6 (by simpa using g), fun g => by rw [eval_put_ne _ _ _ _ (by decide)]; exact S.t7 (by simpa using g), fun g => by rw [eval_put_ne _ _ _ _ (by decide)]; exact S.t8 (by simpa using g), fun g => by rw [eval_put_ne _ _ _ _ (by decide)]; exact S.t9 (by simpa using g), fun g => by rw [eval_put_ne _ _ _ _ (by decide)]; exact S.t10 (by simpa using g), fun g => by rw [eval_put_ne _ _ _ _ (by decide)]; exact S.t11 (by simpa using g), fun g => by rw [eval_put_ne _ _ _ _ (by decide)]; exact S.t12 (by simpa using g), fun _ => (eval_put _ _ _ (by omega)).trans rfl⟩
    | 14, _, ho, hsi, hT =>
      obtain ⟨e1, e2⟩ := pick_of h14 ho
      have D0 : s 0 = true := list_pos hT (d := 0) (by decide)
      have D1 : s 1 = true := list_pos hT (d := 1) (by decide)
      have D2 : s 2 = true := list_pos hT (d := 2) (by decide)
      have D3 : s 3 = true := list_pos hT (d := 3) (by decide)
      have D4 : s 4 = true := list_pos hT (d := 4) (by decide)
      have D5 : s 5 = true := list_pos hT (d := 5) (by decide)
      have D6 : s 6 = true := list_pos hT (d := 6) (by decide)
      have D7 : s 7 = true := list_pos hT (d := 7) (by decide)
      have D8 : s 8 = true := list_pos hT (d := 8) (by decide)
      have D9 : s 9 = true := list_pos hT (d := 9) (by decide)
      have D10 : s 10 = true := list_pos hT (d := 10) (by decide)
      have D11 : s 11 = true := list_pos hT (d := 11) (by decide)
      have D12 : s 12 = true := list_pos hT (d := 12) (by decide)
      have D13 : s 13 = true := list_pos hT (d := 13) (by decide)
      have BW := S.before hsi
      have cl := (hF.below BW).cell hN
      have fz := (hF.below BW).frozen hN
      refine step_to (w2 := w'.setCell ⟨sb, i, none⟩ (.int .u8 (v.toNat : Nat))) (by simp only [execOp, e1, S.t12 D12, S.t13 D13]; go_simp) (hK _ _ ?_)
      rw [e2]
      exact ⟨S.off.put_none _, fun g => absurd g (by simp), fun _ => ⟨w', BW, rfl⟩, fun g => S.t0 (by simpa using g), fun g => S.t1 (by simpa using g), fun g => S.t2 (by simpa using g), fun g => S.t3 (by simpa using g), fun g => S.t4 (by simpa using g), fun g => S.t5 (by simpa using g), fun g => S.t6 (by simpa using g), fun g => S.t7 (by simpa using g), fun g => S.t8 (by simpa using g), fun g => S.t9 (by simpa using g), fun g => S.t10 (by simpa using g), fun g => S.t11 (by simpa using g), fun g => S.t12 (by simpa using g), fun g => S.t13 (by simpa using g)⟩
  · intro s a w' S hall
    have a0 := hall 0 (by omega)
    have a1 := hall 1 (by omega)
    have a2 := hall 2 (by omega)
    have a3 := hall 3 (by omega)
    have a4 := hall 4 (by omega)
    have a5 := hall 5 (by omega)
    have a6 := hall 6 (by omega)
    have a7 := hall 7 (by omega)
    have a8 := hall 8 (by omega)
    have a9 := hall 9 (by omega)
    have a10 := hall 10 (by omega)
    have a11 := hall 11 (by omega)
    have a12 := hall 12 (by omega)
    have a13 := hall 13 (by omega)
    have a14 := hall 14 (by omega)
    have e := off_norm _ (by intro d hd; simp at hd; omega) S.off
    simp only [List.foldl, S.t0 a0, S.t1 a1, S.t2 a2, S.t3 a3, S.t4 a4, S.t5 a5, S.t6 a6, S.t7 a7, S.t8 a8, S.t9 a9, S.t10 a10, S.t11 a11, S.t12 a12, S.t13 a13] at e
    obtain ⟨w1, BW, rfl⟩ := S.behind a14
    rw [e]
    exact h _ BW
/-- The exclusive or of three strings. -/
def xor3 (p q r : ByteArray) (n : Nat) : ByteArray := ⟨(Gal.coefs (fun i => Gal.co p.data.toList i ^^^ Gal.co q.data.toList i ^^^ Gal.co r.data.toList i) n).toArray⟩
def x3k (p q r : ByteArray) (k i : Nat) : BitVec 8 := if i < k then Gal.co p.data.toList i ^^^ Gal.co q.data.toList i ^^^ Gal.co r.data.toList i else 0#8
set_option maxRecDepth 100000 in
theorem combined_any (p q r : ByteArray) (n : Nat) (hp : p.size = n) (hq : q.size = n) (hr : r.size = n) (h : n ≤ 100000) (w : World) :
    Calls Try.prog 17 #[.string p, .string q, .string r] w fun e w' => e = .returned (.string (xor3 p q r n)) ∧ Below w.heap.size w w' := by
  obtain ⟨i0, hi, hz0, hz1, hz2⟩ := info_parts info_u8
  have HP := Lib.hid hp
  have HQ := Lib.hid hq
  have HR := Lib.hid hr
  have XE := Lib.hid (show xor3 p q r n = ⟨(Gal.coefs (fun i => Gal.co p.data.toList i ^^^ Gal.co q.data.toList i ^^^ Gal.co r.data.toList i) n).toArray⟩ from rfl)
  clear hq hr
  go_enter Try.func17, Try.ntmps17
  go_wp2_with (at_make; refine wpList_make_full _ rfl _ _ 44 rfl w.heap.size 5 i0 (.int .u8 0) 1 Try.underlying44 hi hz0 hz1 .i64 .i64 _ _ n rfl rfl (by first | rfl | omega) (by first | rfl | omega) (by rw [hz2]; omega) (by unfold maxLen; omega) (Nat.le_refl _) ?_; intro w2 hown hgrow)
  have N0 := Lib.hid (NumsK.congr (g := fun j => (x3k p q r 0 j).toNat) (madeNums hown) (fun j _ => by unfold x3k; rw [if_neg (Nat.not_lt_zero j)]; rfl))
  have B0 := Lib.hid ((Below.refl w.heap.size w).grown hgrow (Nat.le_refl _) (fun k e => by cases e))
  clear hown hgrow hi hz0 hz1 hz2 hp
  go_loopw [8] (fun x wr => ∃ i : Nat, i ≤ n ∧ x = .int .i64 (i : Nat) ∧ NumsK .u8 wr w.heap.size n (fun j => (x3k p q r i j).toNat) ∧ Below w.heap.size w wr) (fun x _ => n - (intOf x).toNat)
  case atStart => exact ⟨0, Nat.zero_le _, rfl, N0.out, B0.out⟩
  case round =>
    obtain ⟨i, hi, rfl, hF, hB⟩ := hrel
    have NF := Lib.hid hF
    have NB := Lib.hid hB
    have sp := HP.out
    clear hF hB N0 B0
    by_cases hlt : i < n
    · have t1 : decide ((i : Int) < (n : Int)) = true := by simp; omega
      go_upto_region 5 with fail
      refine cmbRegion w.heap.size i n p q r (Gal.co p.data.toList i) (Gal.co q.data.toList i) (Gal.co r.data.toList i) (Gal.co p.data.toList i ^^^ Gal.co q.data.toList i) (Gal.co p.data.toList i ^^^ Gal.co q.data.toList i ^^^ Gal.co r.data.toList i) (x3k p q r i) rfl rfl rfl rfl rfl (by omega) (by rw [HQ.out]; exact hlt) (by rw [HR.out]; exact hlt) hlt NF.out (by kernel_rfl) rfl rfl rfl rfl rfl rfl rfl rfl rfl rfl rfl rfl rfl rfl rfl rfl rfl rfl rfl rfl rfl rfl ?_
      intro w1 B1
      simp only [Act.put, List.setIfInBounds_toArray, List.set_cons_succ, List.set_cons_zero]
      obtain ⟨v, hv⟩ : ∃ v, (Gal.co p.data.toList i ^^^ Gal.co q.data.toList i ^^^ Gal.co r.data.toList i).toNat = v := ⟨_, rfl⟩
      have N1 := Lib.hid ((NF.out.below B1).set (g := fun j => (x3k p q r (i + 1) j).toNat) i v hlt (by
        rw [← hv]
        unfold x3k
        rw [if_pos (by omega)]) (fun j hj hjk => by
        unfold x3k
        by_cases e : j < i
        · rw [if_pos e, if_pos (by omega)]
        · rw [if_neg e, if_neg (by omega)]))
      have N3 := Lib.hid ((bt NB.out B1).setCell (p := ⟨w.heap.size, i, none⟩) (Nat.le_refl _) (.int .u8 (v : Nat)))
      rw [hv]
      obtain ⟨w6, hw6⟩ : ∃ w6, w1.setCell ⟨w.heap.size, i, none⟩ (.int .u8 (v : Nat)) = w6 := ⟨_, rfl⟩
      rw [hw6] at N1 N3 ⊢
      clear hw6 B1 NF NB hv
      obtain ⟨y1, hy1⟩ : ∃ y, (Gal.co p.data.toList i).toNat = y := ⟨_, rfl⟩
      obtain ⟨y2, hy2⟩ : ∃ y, (Gal.co q.data.toList i).toNat = y := ⟨_, rfl⟩
      obtain ⟨y3, hy3⟩ : ∃ y, (Gal.co r.data.toList i).toNat = y := ⟨_, rfl⟩
      obtain ⟨y4, hy4⟩ : ∃ y, (Gal.co p.data.toList i ^^^ Gal.co q.data.toList i).toNat = y := ⟨_, rfl⟩
      rw [hy1, hy2, hy3, hy4]
      clear hy1 hy2 hy3 hy4
      go_wp2_with fail
      go_roundw
      case rel => exact ⟨i + 1, by omega, by go_num, N1.out, N3.out⟩
      case measure => simp [intOf]; omega
    · have t1 : decide ((i : Int) < (n : Int)) = false := by simp; omega
      have cv := nums_back n (NF.out.congr (g := fun j => (Gal.co p.data.toList j ^^^ Gal.co q.data.toList j ^^^ Gal.co r.data.toList j).toNat) (fun j hj => by unfold x3k; rw [if_pos (by omega)]))
      rw [← XE.out] at cv
      have CV := Lib.hid cv
      clear cv NF
      go_wp2_with (simp only [CV.out])
      go_ret
      exact ⟨rfl, NB.out⟩
end Go.Proofs.Ytcigbnhlgboeoaa
