/- Layer 8, the landed program: Sequence, Mix, Attach. -/
import Derived.Test.YtlfnglinalmpjaaMkAtt
import Derived.Test.YtlfnglinalmpjaaMkPBits
import Derived.Test.YtlfnglinalmpjaaVpCel
import Derived.Lib.AppendStr
namespace Go.Proofs.Ytlfnglinalmpjaa
open Go.RowKit
set_option linter.unusedVariables false

theorem nxt_bits : ∀ a, a < 256 → (2 * a % 256) ||| (((((a ^^^ a / 4) ^^^ a / 16) ^^^ a / 128)) % 2) = Mk.nxt a := by decide +kernel
theorem and_one (x : Nat) (h : x < 256) : bits .and .u8 (x : Int) 1 = ((x % 2 : Nat) : Int) := by
  have := u8_and_nat x 1 h (by decide)
  rw [show (1 : Nat) = 2 ^ 1 - 1 from rfl, Nat.and_two_pow_sub_one_eq_mod] at this
  exact this
theorem u8_or' (a b : Nat) (ha : a < 256) (hb : b < 256) : bits .or .u8 (a : Int) (b : Int) = ((a ||| b : Nat) : Int) := by
  have l : a ||| b < 256 := Nat.or_lt_two_pow (n := 8) ha hb
  show IntKind.u8.wrap ((BitVec.ofInt 8 (a : Int) ||| BitVec.ofInt 8 (b : Int)).toNat : Int) = _
  rw [BitVec.toNat_or, BitVec.toNat_ofInt, BitVec.toNat_ofInt, IntKind.wrap_u8]
  rw [show ((a : Int) % ((2 ^ 8 : Nat) : Int)).toNat = a by omega, show ((b : Int) % ((2 ^ 8 : Nat) : Int)).toNat = b by omega]
  omega
set_option maxRecDepth 100000 in
set_option maxHeartbeats 1000000 in
theorem behind_any (i : Nat) (w : World) :
    Calls Try.prog 42 #[.int .u8 (Mk.sst i : Nat)] w fun e w' => e = .returned (.int .u8 (Mk.sst (i + 8) : Nat)) ∧ w = w' := by
  go_enter Try.func42, Try.ntmps42
  go_wp2_with fail
  go_loopw [0, 4] (fun a x wr => ∃ k : Nat, k ≤ 8 ∧ x = .int .i64 (k : Nat) ∧ a = .int .u8 (Mk.sst (i + k) : Nat) ∧ wr = w) (fun _ x _ => 8 - (intOf x).toNat)
  case atStart => exact ⟨0, Nat.zero_le _, rfl, rfl, rfl⟩
  case round =>
    obtain ⟨k, hk, rfl, rfl, hw⟩ := hrel
    have HW := Lib.hid hw
    clear hw
    by_cases hlt : k < 8
    · have t1 : decide ((k : Int) < 8) = true := by simp; omega
      have NX := Lib.hid (show Mk.sst (i + (k + 1)) = Mk.nxt (Mk.sst (i + k)) from rfl)
      have al := Mk.sst_lt (i + k)
      obtain ⟨a, ha⟩ : ∃ a, Mk.sst (i + k) = a := ⟨_, rfl⟩
      rw [ha] at al NX ⊢
      have NB := nxt_bits a al
      obtain ⟨a4, h4⟩ : ∃ x, a / 4 = x := ⟨_, rfl⟩
      obtain ⟨a16, h16⟩ : ∃ x, a / 16 = x := ⟨_, rfl⟩
      obtain ⟨a128, h128⟩ : ∃ x, a / 128 = x := ⟨_, rfl⟩
      have l4 : a4 < 256 := by omega
      have l16 : a16 < 256 := by omega
      have l128 : a128 < 256 := by omega
      have s4 : (a : Int) / 4 = (a4 : Int) := by omega
      have s16 : (a : Int) / 16 = (a16 : Int) := by omega
      have s128 : (a : Int) / 128 = (a128 : Int) := by omega
      rw [h4, h16, h128] at NB
      have e1 := u8_xor_nat a a4 al l4
      have m1 := Nat.xor_lt_two_pow (n := 8) al l4
      obtain ⟨y1, hy1⟩ : ∃ y, a ^^^ a4 = y := ⟨_, rfl⟩
      rw [hy1] at e1 m1 NB
      have e2 := u8_xor_nat y1 a16 m1 l16
      have m2 := Nat.xor_lt_two_pow (n := 8) m1 l16
      obtain ⟨y2, hy2⟩ : ∃ y, y1 ^^^ a16 = y := ⟨_, rfl⟩
      rw [hy2] at e2 m2 NB
      have e3 := u8_xor_nat y2 a128 m2 l128
      have m3 := Nat.xor_lt_two_pow (n := 8) m2 l128
      obtain ⟨y3, hy3⟩ : ∃ y, y2 ^^^ a128 = y := ⟨_, rfl⟩
      rw [hy3] at e3 m3 NB
      have e4 := and_one y3 m3
      obtain ⟨q, hq⟩ : ∃ q, y3 % 2 = q := ⟨_, rfl⟩
      rw [hq] at e4 NB
      obtain ⟨d, hd⟩ : ∃ d, 2 * a % 256 = d := ⟨_, rfl⟩
      rw [hd] at NB
      have e5 : IntKind.u8.wrap ((a : Int) * 2) = (d : Int) := by rw [IntKind.wrap_u8]; omega
      have e6 := u8_or' d q (by omega) (by omega)
      rw [NB] at e6
      obtain ⟨r, hr⟩ : ∃ r, Mk.nxt a = r := ⟨_, rfl⟩
      rw [hr] at e6 NX
      clear ha NB h4 h16 h128 hy1 hy2 hy3 hq hd hr m1 m2 m3 l4 l16 l128
      go_wp2_with fail
      go_roundw
      case rel => exact ⟨k + 1, by omega, by go_num, by rw [NX.out], HW.out⟩
      case measure => simp [intOf]; omega
    · have t1 : decide ((k : Int) < 8) = false := by simp; omega
      obtain rfl : k = 8 := by omega
      go_wp2_with fail
      go_ret
      exact ⟨rfl, HW.out.symm⟩
/-- The bytes made so far. -/
def sqs (i j : Nat) : Nat := if j < i then Mk.sqb j else 0
/-- What sequence leaves. -/
def SqP (n : Nat) (w : World) (e : Ending) (w' : World) : Prop := ∃ g, e = .returned (.slice (some ⟨g, 0, none⟩) n n) ∧ w.heap.size ≤ g ∧ NumsK .u8 w' g n Mk.sqb ∧ Below w.heap.size w w'
set_option maxRecDepth 100000 in
set_option maxHeartbeats 1000000 in
theorem psequence_any (n : Nat) (hn : n ≤ 65536) (w : World) :
    Calls Try.prog 32 #[.int .i64 (n : Nat)] w (SqP n w) := by
  obtain ⟨i0, hi, hz0, hz1, hz2⟩ := info_parts info_u8
  have BH := Lib.hid (fun i w => behind_any i w)
  go_enter Try.func32, Try.ntmps32
  go_wp2_with (at_make; refine wpList_make_full _ rfl _ _ 53 rfl w.heap.size 5 i0 (.int .u8 0) 1 Try.underlying53 hi hz0 hz1 .i64 .i64 _ _ n rfl rfl (by first | rfl | omega) (by first | rfl | omega) (by rw [hz2]; omega) (by unfold maxLen; omega) (Nat.le_refl _) ?_; intro w2 hown hgrow)
  have N0 := Lib.hid (NumsK.congr (g := sqs 0) (madeNums hown) (fun j _ => (if_neg (Nat.not_lt_zero j)).symm))
  have B0 := Lib.hid ((Below.refl w.heap.size w).grown hgrow (Nat.le_refl _) (fun k e => by cases e))
  clear hown hgrow hi hz0 hz1 hz2
  go_loopw [4, 10] (fun s x wr => ∃ i : Nat, i ≤ n ∧ x = .int .i64 (i : Nat) ∧ s = .int .u8 (Mk.sqb i : Nat) ∧ NumsK .u8 wr w.heap.size n (sqs i) ∧ Below w.heap.size w wr) (fun _ x _ => n - (intOf x).toNat)
  case atStart => exact ⟨0, Nat.zero_le _, rfl, rfl, N0.out, B0.out⟩
  case round =>
    obtain ⟨i, hi, rfl, rfl, hN, hB⟩ := hrel
    have HB := Lib.hid hB
    clear N0 B0
    by_cases hlt : i < n
    · have t1 : decide ((i : Int) < (n : Int)) = true := by simp; omega
      have k9 : (i : Int) < (n : Int) := by omega
      have cN := hN.cell hlt
      have fN := hN.frozen hlt
      obtain ⟨a, ha⟩ : ∃ a, Mk.sqb i = a := ⟨_, rfl⟩
      have BI := Lib.hid (show ∀ w, Calls Try.prog 42 #[.int .u8 (a : Nat)] w (fun e w' => e = .returned (.int .u8 (Mk.sqb (i + 1) : Nat)) ∧ w = w') from fun w => by
        have := BH.out (8 * i) w
        rw [show 8 * i + 8 = 8 * (i + 1) by omega] at this
        rw [← ha]
        exact this)
      have N1 := Lib.hid (hN.set (g := sqs (i + 1)) i a hlt (by unfold sqs; rw [if_pos (by omega)]; exact ha) (fun j _ hj => by
        unfold sqs
        by_cases h : j < i
        · rw [if_pos h, if_pos (by omega)]
        · rw [if_neg h, if_neg (by omega)]))
      have B1 := Lib.hid (hB.setCell (p := ⟨w.heap.size, i, none⟩) (Nat.le_refl _) (.int .u8 (a : Nat)))
      rw [ha]
      obtain ⟨b, hb⟩ : ∃ b, Mk.sqb (i + 1) = b := ⟨_, rfl⟩
      rw [hb] at BI
      have HBB := Lib.hid hb
      clear hN hB ha hb
      go_wp2_with fail
      (with_reducible refine (BI.out _).mono ?_)
      rintro e w3 ⟨rfl, hw3⟩
      have N3 := Lib.hid (hw3 ▸ N1.out)
      have B3 := Lib.hid (hw3 ▸ B1.out)
      clear hw3 N1 B1
      go_wp2_with fail
      go_roundw
      case rel => exact ⟨i + 1, by omega, by go_num, by rw [HBB.out], N3.out, B3.out⟩
      case measure => simp [intOf]; omega
    · have t1 : decide ((i : Int) < (n : Int)) = false := by simp; omega
      have FN := Lib.hid (hN.congr (g := Mk.sqb) (fun j hj => if_pos (by omega)))
      clear hN
      go_wp2_with fail
      go_ret
      exact ⟨w.heap.size, rfl, Nat.le_refl _, FN.out, HB.out⟩
theorem psq_no (n : Int) (h : n < 0 ∨ 65536 < n) (w : World) :
    Calls Try.prog 10 #[.int .i64 n] w fun e w' => e = .returned (.tuple #[.string ⟨#[]⟩, .int .i64 2]) ∧ w = w' := by
  by_cases g : n < 0
  · have t1 : decide (n < 0) = true := by simp; omega
    go_enter Try.func10, Try.ntmps10
    go_wp2_with fail
    go_ret2
    exact ⟨rfl, rfl⟩
  · have t1 : decide (n < 0) = false := by simp; omega
    have t2 : decide (65536 < n) = true := by simp; omega
    go_enter Try.func10, Try.ntmps10
    go_wp2_with fail
    go_ret2
    exact ⟨rfl, rfl⟩
theorem sqb_nums {w : World} {g n : Nat} (h : NumsK .u8 w g n Mk.sqb) : NumsK .u8 w g n (fun j => (sqv j).toNat) := h.congr (fun j _ => (sqv_nat j).symm)
set_option maxRecDepth 100000 in
theorem psq_any (n : Nat) (hn : n ≤ 65536) (w : World) :
    Calls Try.prog 10 #[.int .i64 (n : Nat)] w fun e w' => e = .returned (.tuple #[.string (seqS n), .int .i64 0]) ∧ Below w.heap.size w w' := by
  have t1 : decide ((n : Int) < 0) = false := decide_eq_false (by omega)
  have t2 : decide (65536 < (n : Int)) = false := by simp; omega
  have SQ := Lib.hid (fun w => psequence_any n hn w)
  have HS := Lib.hid (show seqS n = ⟨(Gal.coefs sqv n).toArray⟩ from rfl)
  obtain ⟨R, hR⟩ : ∃ R, seqS n = R := ⟨_, rfl⟩
  rw [hR] at HS ⊢
  clear hR
  go_enter Try.func10, Try.ntmps10
  go_wp2_with fail
  (with_reducible refine (SQ.out _).mono ?_)
  rintro e w1 ⟨g, rfl, _, hN, hB⟩
  have CV := Lib.hid (nums_back n (sqb_nums hN))
  have B1 := Lib.hid hB
  clear hN hB
  go_wp2_with (simp only [CV.out])
  go_ret2
  exact ⟨by rw [HS.out]; rfl, B1.out⟩
structure PmRegion (b : ByteArray) (g n cap i x y z : Nat) (A : Act) (w0 : World) (s : Nat → Bool) (a : Act) (w : World) : Prop where
  off : Off [17, 18, 19, 20, 21, 22, 23, 24, 25] a A
  before : Below w0.heap.size w0 w
  t0 : s 0 = true → a.eval (.tmp 17) = .slice (some ⟨g, 0, none⟩) n cap
  t1 : s 1 = true → a.eval (.tmp 18) = .int .i64 (i : Nat)
  t2 : s 2 = true → a.eval (.tmp 19) = .pointer (some ⟨g, i, none⟩)
  t3 : s 3 = true → a.eval (.tmp 20) = .int .u8 (x : Nat)
  t4 : s 4 = true → a.eval (.tmp 21) = .string b
  t5 : s 5 = true → a.eval (.tmp 22) = .int .i64 (i : Nat)
  t6 : s 6 = true → a.eval (.tmp 23) = .int .u8 (y : Nat)
  t7 : s 7 = true → a.eval (.tmp 24) = .int .u8 (z : Nat)
  t8 : s 8 = true → a.eval (.tmp 25) = .pointer (some ⟨g, i, none⟩)
set_option maxHeartbeats 2000000 in
set_option maxRecDepth 100000 in
theorem pmRegion {id : Nat} {l : List Oper} {A : Act} {w : World} {Q : Exit → Act → World → Prop} (b : ByteArray) (g n cap i x y z : Nat)
    (hi : i < n) (hin : (i : Int) < (n : Int)) (hb : i < b.size) (lg : g < w.heap.size) (cx : w.cell? ⟨g, i, none⟩ = some (.int .u8 (x : Nat))) (hy : (Gal.co b.data.toList i).toNat = y) (hz : bits .xor .u8 (x : Int) (y : Int) = (z : Int))
    (hB : tableH l.toArray 9 (fun i => match i with | 0 => [] | 1 => [] | 2 => [0, 1] | 3 => [2] | 4 => [] | 5 => [] | 6 => [4, 5] | 7 => [3, 6] | 8 => [0, 1] | _ => []) (fun _ => []) = true)
    (h0 : pick l 0 = some (.move (.tmp 4), some 17))
    (h1 : pick l 1 = some (.move (.tmp 5), some 18))
    (h2 : pick l 2 = some (.indexAddr 53 (.tmp 17) (.tmp 18), some 19))
    (h3 : pick l 3 = some (.load 5 (.tmp 19), some 20))
    (h4 : pick l 4 = some (.move (.tmp 0), some 21))
    (h5 : pick l 5 = some (.move (.tmp 5), some 22))
    (h6 : pick l 6 = some (.index 9 (.tmp 21) (.tmp 22), some 23))
    (h7 : pick l 7 = some (.binOp .xor 5 (.tmp 20) (.tmp 23) 5, some 24))
    (h8 : pick l 8 = some (.indexAddr 53 (.tmp 17) (.tmp 18), some 25))
    (hs : A.tmps.size = 29)
    (x0 : A.eval (.tmp 0) = .string b)
    (x4 : A.eval (.tmp 4) = .slice (some ⟨g, 0, none⟩) n cap)
    (x5 : A.eval (.tmp 5) = .int .i64 (i : Nat))
    (h : ∀ w1, Below w.heap.size w w1 → wpList Try.prog l.toArray Q (l.drop 9) (((((((((A.put (some 17) (.slice (some ⟨g, 0, none⟩) n cap)).put (some 18) (.int .i64 (i : Nat))).put (some 19) (.pointer (some ⟨g, i, none⟩))).put (some 20) (.int .u8 (x : Nat))).put (some 21) (.string b)).put (some 22) (.int .i64 (i : Nat))).put (some 23) (.int .u8 (y : Nat))).put (some 24) (.int .u8 (z : Nat))).put (some 25) (.pointer (some ⟨g, i, none⟩))) w1) :
    (Code.region id l.toArray true).wp Try.prog Q A w := by
  refine wp_region_head (by kernel_rfl) _ _ _ hB (PmRegion b g n cap i x y z A w) ⟨Off.refl _ _, (Below.refl _ _).drew, by simp, by simp, by simp, by simp, by simp, by simp, by simp, by simp, by simp⟩ ?_ ?_
  · intro s a w' S i' o il ho hsi hT K hK
    have sz : a.tmps.size = 29 := by rw [S.off.2.1]; exact hs
    have y0 : a.eval (.tmp 0) = .string b := by rw [S.off.eval (by decide)]; exact x0
    have y4 : a.eval (.tmp 4) = .slice (some ⟨g, 0, none⟩) n cap := by rw [S.off.eval (by decide)]; exact x4
    have y5 : a.eval (.tmp 5) = .int .i64 (i : Nat) := by rw [S.off.eval (by decide)]; exact x5
    match i', il, ho, hsi, hT with
    | 0, _, ho, hsi, hT =>
      obtain ⟨e1, e2⟩ := pick_of h0 ho
      have BW := S.before
      refine step_val (v := .slice (some ⟨g, 0, none⟩) n cap) (by simp only [execOp, e1, y4]; go_simp) (hK _ _ ?_)
      rw [e2]
      exact ⟨S.off.put (by decide) _, S.before, fun _ => (eval_put _ _ _ (by omega)).trans rfl, fun g => by rw [eval_put_ne _ _ _ _ (by decide)]; exact S.t1 (by simpa using g), fun g => by rw [eval_put_ne _ _ _ _ (by decide)]; exact S.t2 (by simpa using g), fun g => by rw [eval_put_ne _ _ _ _ (by decide)]; exact S.t3 (by simpa using g), fun g => by rw [eval_put_ne _ _ _ _ (by decide)]; exact S.t4 (by simpa using g), fun g => by rw [eval_put_ne _ _ _ _ (by decide)]; exact S.t5 (by simpa using g), fun g => by rw [eval_put_ne _ _ _ _ (by decide)]; exact S.t6 (by simpa using g), fun g => by rw [eval_put_ne _ _ _ _ (by decide)]; exact S.t7 (by simpa using g), fun g => by rw [eval_put_ne _ _ _ _ (by decide)]; exact S.t8 (by simpa using g)⟩
    | 1, _, ho, hsi, hT =>
      obtain ⟨e1, e2⟩ := pick_of h1 ho
      have BW := S.before
      refine step_val (v := .int .i64 (i : Nat)) (by simp only [execOp, e1, y5]; go_simp) (hK _ _ ?_)
      rw [e2]
      exact ⟨S.off.put (by decide) _, S.before, fun g => by rw [eval_put_ne _ _ _ _ (by decide)]; exact S.t0 (by simpa using g), fun _ => (eval_put _ _ _ (by omega)).trans rfl, fun g => by rw [eval_put_ne _ _ _ _ (by decide)]; exact S.t2 (by simpa using g), fun g => by rw [eval_put_ne _ _ _ _ (by decide)]; exact S.t3 (by simpa using g), fun g => by rw [eval_put_ne _ _ _ _ (by decide)]; exact S.t4 (by simpa using g), fun g => by rw [eval_put_ne _ _ _ _ (by decide)]; exact S.t5 (by simpa using g), fun g => by rw [eval_put_ne _ _ _ _ (by decide)]; exact S.t6 (by simpa using g), fun g => by rw [eval_put_ne _ _ _ _ (by decide)]; exact S.t7 (by simpa using g), fun g => by rw [eval_put_ne _ _ _ _ (by decide)]; exact S.t8 (by simpa using g)⟩
    | 2, _, ho, hsi, hT =>
      obtain ⟨e1, e2⟩ := pick_of h2 ho
      have D0 : s 0 = true := list_pos hT (d := 0) (by decide)
      have D1 : s 1 = true := list_pos hT (d := 1) (by decide)
      have BW := S.before
      refine step_val (v := .pointer (some ⟨g, i, none⟩)) (by simp only [execOp, e1, S.t0 D0, S.t1 D1]; go_simp) (hK _ _ ?_)
      rw [e2]
      exact ⟨S.off.put (by decide) _, S.before, fun g => by rw [eval_put_ne _ _ _ _ (by decide)]; exact S.t0 (by simpa using g), fun g => by rw [eval_put_ne _ _ _ _ (by decide)]; exact S.t1 (by simpa using g), fun _ => (eval_put _ _ _ (by omega)).trans rfl, fun g => by rw [eval_put_ne _ _ _ _ (by decide)]; exact S.t3 (by simpa using g), fun g => by rw [eval_put_ne _ _ _ _ (by decide)]; exact S.t4 (by simpa using g), fun g => by rw [eval_put_ne _ _ _ _ (by decide)]; exact S.t5 (by simpa using g), fun g => by rw [eval_put_ne _ _ _ _ (by decide)]; exact S.t6 (by simpa using g), fun g => by rw [eval_put_ne _ _ _ _ (by decide)]; exact S.t7 (by simpa using g), fun g => by rw [eval_put_ne _ _ _ _ (by decide)]; exact S.t8 (by simpa using g)⟩
    | 3, _, ho, hsi, hT =>
      obtain ⟨e1, e2⟩ := pick_of h3 ho
      have D2 : s 2 = true := list_pos hT (d := 2) (by decide)
      have BW := S.before
      have cl := (BW.cell (p := ⟨g, i, none⟩) lg).trans cx
      refine step_val (v := .int .u8 (x : Nat)) (by simp only [execOp, e1, S.t2 D2]; go_simp) (hK _ _ ?_)
      rw [e2]
      exact ⟨S.off.put (by decide) _, S.before, fun g => by rw [eval_put_ne _ _ _ _ (by decide)]; exact S.t0 (by simpa using g), fun g => by rw [eval_put_ne _ _ _ _ (by decide)]; exact S.t1 (by simpa using g), fun g => by rw [eval_put_ne _ _ _ _ (by decide)]; exact S.t2 (by simpa using g), fun _ => (eval_put _ _ _ (by omega)).trans rfl, fun g => by rw [eval_put_ne _ _ _ _ (by decide)]; exact S.t4 (by simpa using g), fun g => by rw [eval_put_ne _ _ _ _ (by decide)]; exact S.t5 (by simpa using g), fun g => by rw [eval_put_ne _ _ _ _ (by decide)]; exact S.t6 (by simpa using g), fun g => by rw [eval_put_ne _ _ _ _ (by decide)]; exact S.t7 (by simpa using g), fun g => by rw [eval_put_ne _ _ _ _ (by decide)]; exact S.t8 (by simpa using g)⟩
    | 4, _, ho, hsi, hT =>
      obtain ⟨e1, e2⟩ := pick_of h4 ho
      have BW := S.before
      refine step_val (v := .string b) (by simp only [execOp, e1, y0]; go_simp) (hK _ _ ?_)
      rw [e2]
      exact ⟨S.off.put (by decide) _, S.before, fun g => by rw [eval_put_ne _ _ _ _ (by decide)]; exact S.t0 (by simpa using g), fun g => by rw [eval_put_ne _ _ _ _ (by decide)]; exact S.t1 (by simpa using g), fun g => by rw [eval_put_ne _ _ _ _ (by decide)]; exact S.t2 (by simpa using g), fun g => by rw [eval_put_ne _ _ _ _ (by decide)]; exact S.t3 (by simpa using g), fun _ => (eval_put _ _ _ (by omega)).trans rfl, fun g => by rw [eval_put_ne _ _ _ _ (by decide)]; exact S.t5 (by simpa using g), fun g => by rw [eval_put_ne _ _ _ _ (by decide)]; exact S.t6 (by simpa using g), fun g => by rw [eval_put_ne _ _ _ _ (by decide)]; exact S.t7 (by simpa using g), fun g => by rw [eval_put_ne _ _ _ _ (by decide)]; exact S.t8 (by simpa using g)⟩
    | 5, _, ho, hsi, hT =>
      obtain ⟨e1, e2⟩ := pick_of h5 ho
      have BW := S.before
      refine step_val (v := .int .i64 (i : Nat)) (by simp only [execOp, e1, y5]; go_simp) (hK _ _ ?_)
      rw [e2]
      exact ⟨S.off.put (by decide) _, S.before, fun g => by rw [eval_put_ne _ _ _ _ (by decide)]; exact S.t0 (by simpa using g), fun g => by rw [eval_put_ne _ _ _ _ (by decide)]; exact S.t1 (by simpa using g), fun g => by rw [eval_put_ne _ _ _ _ (by decide)]; exact S.t2 (by simpa using g), fun g => by rw [eval_put_ne _ _ _ _ (by decide)]; exact S.t3 (by simpa using g), fun g => by rw [eval_put_ne _ _ _ _ (by decide)]; exact S.t4 (by simpa using g), fun _ => (eval_put _ _ _ (by omega)).trans rfl, fun g => by rw [eval_put_ne _ _ _ _ (by decide)]; exact S.t6 (by simpa using g), fun g => by rw [eval_put_ne _ _ _ _ (by decide)]; exact S.t7 (by simpa using g), fun g => by rw [eval_put_ne _ _ _ _ (by decide)]; exact S.t8 (by simpa using g)⟩
    | 6, _, ho, hsi, hT =>
      obtain ⟨e1, e2⟩ := pick_of h6 ho
      have D4 : s 4 = true := list_pos hT (d := 4) (by decide)
      have D5 : s 5 = true := list_pos hT (d := 5) (by decide)
      have BW := S.before
      have bc := byte_co b i hb
      rw [hy] at bc
      refine step_val (v := .int .u8 (y : Nat)) (by simp only [execOp, e1, S.t4 D4, S.t5 D5]; go_simp) (hK _ _ ?_)
      rw [e2]
      exact ⟨S.off.put (by decide) _, S.before, fun g => by rw [eval_put_ne _ _ _ _ (by decide)]; exact S.t0 (by simpa using g), fun g => by rw [eval_put_ne _ _ _ _ (by decide)]; exact S.t1 (by simpa using g), fun g => by rw [eval_put_ne _ _ _ _ (by decide)]; exact S.t2 (by simpa using g), fun g => by rw [eval_put_ne _ _ _ _ (by decide)]; exact S.t3 (by simpa using g), fun g => by rw [eval_put_ne _ _ _ _ (by decide)]; exact S.t4 (by simpa using g), fun g => by rw [eval_put_ne _ _ _ _ (by decide)]; exact S.t5 (by simpa using g), fun _ => (eval_put _ _ _ (by omega)).trans rfl, fun g => by rw [eval_put_ne _ _ _ _ (by decide)]; exact S.t7 (by simpa using g), fun g => by rw [eval_put_ne _ _ _ _ (by decide)]; exact S.t8 (by simpa using g)⟩
    | 7, _, ho, hsi, hT =>
      obtain ⟨e1, e2⟩ := pick_of h7 ho
      have D3 : s 3 = true := list_pos hT (d := 3) (by decide)
      have D6 : s 6 = true := list_pos hT (d := 6) (by decide)
      have BW := S.before
      refine step_val (v := .int .u8 (z : Nat)) (by simp only [execOp, e1, S.t3 D3, S.t6 D6]; go_simp; try exact hz) (hK _ _ ?_)
      rw [e2]
      exact ⟨S.off.put (by decide) _, S.before, fun g => by rw [eval_put_ne _ _ _ _ (by decide)]; exact S.t0 (by simpa using g), fun g => by rw [eval_put_ne _ _ _ _ (by decide)]; exact S.t1 (by simpa using g), fun g => by rw [eval_put_ne _ _ _ _ (by decide)]; exact S.t2 (by simpa using g), fun g => by rw [eval_put_ne _ _ _ _ (by decide)]; exact S.t3 (by simpa using g), fun g => by rw [eval_put_ne _ _ _ _ (by decide)]; exact S.t4 (by simpa using g), fun g => by rw [eval_put_ne _ _ _ _ (by decide)]; exact S.t5 (by simpa using g), fun g => by rw [eval_put_ne _ _ _ _ (by decide)]; exact S.t6 (by simpa using g), fun _ => (eval_put _ _ _ (by omega)).trans rfl, fun g => by rw [eval_put_ne _ _ _ _ (by decide)]; exact S.t8 (by simpa using g)⟩
    | 8, _, ho, hsi, hT =>
      obtain ⟨e1, e2⟩ := pick_of h8 ho
      have D0 : s 0 = true := list_pos hT (d := 0) (by decide)
      have D1 : s 1 = true := list_pos hT (d := 1) (by decide)
      have BW := S.before
      refine step_val (v := .pointer (some ⟨g, i, none⟩)) (by simp only [execOp, e1, S.t0 D0, S.t1 D1]; go_simp) (hK _ _ ?_)
      rw [e2]
      exact ⟨S.off.put (by decide) _, S.before, fun g => by rw [eval_put_ne _ _ _ _ (by decide)]; exact S.t0 (by simpa using g), fun g => by rw [eval_put_ne _ _ _ _ (by decide)]; exact S.t1 (by simpa using g), fun g => by rw [eval_put_ne _ _ _ _ (by decide)]; exact S.t2 (by simpa using g), fun g => by rw [eval_put_ne _ _ _ _ (by decide)]; exact S.t3 (by simpa using g), fun g => by rw [eval_put_ne _ _ _ _ (by decide)]; exact S.t4 (by simpa using g), fun g => by rw [eval_put_ne _ _ _ _ (by decide)]; exact S.t5 (by simpa using g), fun g => by rw [eval_put_ne _ _ _ _ (by decide)]; exact S.t6 (by simpa using g), fun g => by rw [eval_put_ne _ _ _ _ (by decide)]; exact S.t7 (by simpa using g), fun _ => (eval_put _ _ _ (by omega)).trans rfl⟩
    | _ + 9, il, _, _, _ => exact absurd il (by omega)
  · intro s a w' S hall
    have a0 := hall 0 (by omega)
    have a1 := hall 1 (by omega)
    have a2 := hall 2 (by omega)
    have a3 := hall 3 (by omega)
    have a4 := hall 4 (by omega)
    have a5 := hall 5 (by omega)
    have a6 := hall 6 (by omega)
    have a7 := hall 7 (by omega)
    have a8 := hall 8 (by omega)
    have e := off_norm _ (by intro d hd; simp at hd; omega) S.off
    simp only [List.foldl, S.t0 a0, S.t1 a1, S.t2 a2, S.t3 a3, S.t4 a4, S.t5 a5, S.t6 a6, S.t7 a7, S.t8 a8] at e
    rw [e]
    exact h _ S.before
theorem pmix_long (b : ByteArray) (n : Nat) (hn : b.size = n) (h : 65536 < n) (w : World) :
    Calls Try.prog 12 #[.string b] w fun e w' => e = .returned (.tuple #[.string ⟨#[]⟩, .int .i64 3]) ∧ w = w' := by
  have l1 : decide ((65536 : Int) < (n : Int)) = true := by simp; omega
  go_enter Try.func12, Try.ntmps12
  go_wp2_with fail
  go_ret2
  exact ⟨rfl, rfl⟩
/-- The bytes that are mixed so far. -/
def mxs (b : ByteArray) (i j : Nat) : Nat := if j < i then (mixv b j).toNat else Mk.sqb j
set_option maxRecDepth 100000 in
set_option maxHeartbeats 1000000 in
theorem pmix_any (b : ByteArray) (n : Nat) (hn : b.size = n) (h : n ≤ 65536) (w : World) :
    Calls Try.prog 12 #[.string b] w fun e w' => e = .returned (.tuple #[.string (mixS b n), .int .i64 0]) ∧ Below w.heap.size w w' := by
  have l1 : decide ((65536 : Int) < (n : Int)) = false := by simp; omega
  have SQ := Lib.hid (fun w => psequence_any n h w)
  have HS := Lib.hid (show mixS b n = ⟨(Gal.coefs (mixv b) n).toArray⟩ from rfl)
  obtain ⟨R, hR⟩ : ∃ R, mixS b n = R := ⟨_, rfl⟩
  rw [hR] at HS ⊢
  clear hR
  have HN := Lib.hid hn
  go_enter Try.func12, Try.ntmps12
  go_wp2_with fail
  (with_reducible refine (SQ.out _).mono ?_)
  rintro e w1 ⟨g, rfl, hg, hN, h1⟩
  have B1 := Lib.hid h1
  have HG := Lib.hid hg
  have N0 := Lib.hid (hN.congr (g := mxs b 0) (fun j _ => (if_neg (Nat.not_lt_zero j)).symm))
  clear h1 hN hg SQ
  go_wp2_with fail
  go_loopw [14] (fun x wr => ∃ i : Nat, i ≤ n ∧ x = .int .i64 (i : Nat) ∧ NumsK .u8 wr g n (mxs b i) ∧ Below w.heap.size w wr) (fun x _ => n - (intOf x).toNat)
  case atStart => exact ⟨0, Nat.zero_le _, rfl, N0.out, B1.out⟩
  case round =>
    obtain ⟨i, hi, rfl, hN, hB⟩ := hrel
    clear N0 B1
    by_cases hlt : i < n
    · have t3 : decide ((i : Int) < (n : Int)) = true := by simp; omega
      have k9 : (i : Int) < (n : Int) := by omega
      have cx := hN.cell hlt
      rw [show mxs b i i = Mk.sqb i from if_neg (Nat.lt_irrefl i)] at cx
      have xl := Mk.sqb_lt i
      obtain ⟨x, hx⟩ : ∃ x, Mk.sqb i = x := ⟨_, rfl⟩
      obtain ⟨y, hy⟩ : ∃ y, (Gal.co b.data.toList i).toNat = y := ⟨_, rfl⟩
      obtain ⟨z, hz⟩ : ∃ z, (mixv b i).toNat = z := ⟨_, rfl⟩
      have e1 : bits .xor .u8 (x : Int) (y : Int) = (z : Int) := by
        have := xor8 (sqv i) (Gal.co b.data.toList i)
        rw [sqv_nat, hx, hy] at this
        rw [this, ← hz]
        unfold mixv
        rw [BitVec.xor_comm]
      rw [hx] at cx
      have N1 := Lib.hid (fun w2 (q : Below wr.heap.size wr w2) => (hN.below q).set (g := mxs b (i + 1)) i z hlt (by unfold mxs; rw [if_pos (by omega)]; exact hz) (fun j _ hj => by
        unfold mxs
        by_cases h : j < i
        · rw [if_pos h, if_pos (by omega)]
        · rw [if_neg h, if_neg (by omega)]))
      have C1 := Lib.hid (fun w2 (q : Below wr.heap.size wr w2) => And.intro ((hN.below q).cell hlt) ((hN.below q).frozen hlt))
      have LG := Lib.hid hN.1
      have CX := Lib.hid cx
      have HB := Lib.hid hB
      have HY := Lib.hid hy
      have E1 := Lib.hid e1
      clear hN hB cx hx hy hz e1 xl
      go_upto_region 7 with fail
      refine pmRegion b g n n i x y z hlt k9 (by rw [HN.out]; exact hlt) LG.out CX.out HY.out E1.out (by kernel_rfl) rfl rfl rfl rfl rfl rfl rfl rfl rfl rfl rfl rfl rfl ?_
      intro w6 B6
      simp only [Act.put, List.setIfInBounds_toArray, List.set_cons_succ, List.set_cons_zero, List.drop_succ_cons, List.drop_zero]
      have c6 := (C1.out _ B6).1
      have z6 := (C1.out _ B6).2
      have N2 := Lib.hid (N1.out _ B6)
      have B2 := Lib.hid ((bt HB.out B6).setCell (p := ⟨g, i, none⟩) HG.out (.int .u8 (z : Nat)))
      clear B6 N1 C1 CX HY E1 HB
      go_wp2_with fail
      go_roundw
      case rel => exact ⟨i + 1, by omega, by go_num, N2.out, B2.out⟩
      case measure => simp [intOf]; omega
    · have t3 : decide ((i : Int) < (n : Int)) = false := by simp; omega
      have FN := hN.congr (g := fun j => (mixv b j).toNat) (fun j hj => if_pos (by omega))
      have CV := Lib.hid (nums_back n FN)
      have HB := Lib.hid hB
      clear hN hB FN
      go_wp2_with (simp only [CV.out])
      go_ret2
      exact ⟨by rw [HS.out]; rfl, HB.out⟩
end Go.Proofs.Ytlfnglinalmpjaa
