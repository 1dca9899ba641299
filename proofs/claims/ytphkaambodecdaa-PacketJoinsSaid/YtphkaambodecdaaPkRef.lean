/- Layer 9: the reference's Valid, two, Code and Put. -/
import Derived.Test.YtphkaambodecdaaPkMath
import Derived.Test.YtphkaambodecdaaCelKit
import Derived.Test.YtphkaambodecdaaRowKit
namespace Go.Proofs.Ytphkaambodecdaa
open Go.RowKit
set_option linter.unusedVariables false

/-- A packet as a value, and as cells. -/
def pkVal (p : Pkt) : Value := .agg #[.bool p.cmd, .int .i64 p.ap, .int .i64 p.fl, .int .i64 p.ct, .string p.da]
def pkCel (p : Pkt) : Nat → Value
  | 0 => .bool p.cmd
  | 1 => .int .i64 p.ap
  | 2 => .int .i64 p.fl
  | 3 => .int .i64 p.ct
  | _ => .string p.da
theorem pk_new (p : Pkt) (w : World) : Cel (w.alloc (.cells #[.bool p.cmd, .int .i64 p.ap, .int .i64 p.fl, .int .i64 p.ct, .string p.da] 23)) w.heap.size 5 (pkCel p) := Cel.new w _ _ (fun j hj => by
  match j, hj with
  | 0, _ => rfl
  | 1, _ => rfl
  | 2, _ => rfl
  | 3, _ => rfl
  | 4, _ => rfl)
/-- A string of bytes. -/
def bs (l : List UInt8) : ByteArray := ⟨l.toArray⟩
theorem bs_size (l : List UInt8) : (bs l).size = l.length := by
  show l.toArray.size = _
  exact List.size_toArray
theorem bs_app (a b : List UInt8) : bs a ++ bs b = bs (a ++ b) := by
  apply ByteArray.ext
  simp [bs]
theorem bs_self (s : ByteArray) : bs s.data.toList = s := by
  apply ByteArray.ext
  simp [bs]
set_option maxRecDepth 100000 in
theorem rvalid_any (p : Pkt) (hs : p.da.size ≤ 1000000000) (w : World) : Calls Try.prog 14 #[pkVal p] w fun e w' => e = .returned (.bool (decide (Pk.Ok p))) ∧ Below w.heap.size w w' := by
  have C := pk_new p w
  have B := Lib.hid (ba (Below.refl w.heap.size w) (.cells #[.bool p.cmd, .int .i64 p.ap, .int .i64 p.fl, .int .i64 p.ct, .string p.da] 23))
  have OKE : Hid (decide (Pk.Ok p) = decide ((0 ≤ p.ap ∧ p.ap ≤ 2047) ∧ (0 ≤ p.fl ∧ p.fl ≤ 3) ∧ (0 ≤ p.ct ∧ p.ct ≤ 16383) ∧ 1 ≤ p.da.size ∧ p.da.size ≤ 1024)) := Lib.hid rfl
  obtain ⟨b, hb⟩ : ∃ b, decide (Pk.Ok p) = b := ⟨_, rfl⟩
  rw [hb] at OKE ⊢
  clear hb
  obtain ⟨cmd, ap, fl, ct, da⟩ := p
  unfold pkVal
  simp only at B OKE hs ⊢
  obtain ⟨D, hD⟩ : ∃ D, da.size = D := ⟨_, rfl⟩
  rw [hD] at OKE hs
  obtain ⟨w1, hw1⟩ : ∃ w1, w.alloc (.cells #[.bool cmd, .int .i64 ap, .int .i64 fl, .int .i64 ct, .string da] 23) = w1 := ⟨_, rfl⟩
  obtain ⟨X, hX⟩ : ∃ X, w.heap.size = X := ⟨_, rfl⟩
  simp only at C
  rw [hw1, hX] at C
  have c0 : w1.cell? ⟨X, 0, none⟩ = some (.bool cmd) := C.cell (j := 0) (by omega)
  have c1 : w1.cell? ⟨X, 1, none⟩ = some (.int .i64 ap) := C.cell (j := 1) (by omega)
  have c2 : w1.cell? ⟨X, 2, none⟩ = some (.int .i64 fl) := C.cell (j := 2) (by omega)
  have c3 : w1.cell? ⟨X, 3, none⟩ = some (.int .i64 ct) := C.cell (j := 3) (by omega)
  have c4 : w1.cell? ⟨X, 4, none⟩ = some (.string da) := C.cell (j := 4) (by omega)
  rw [hw1] at B
  have HW := Lib.hid hw1
  have HX := Lib.hid hX
  clear C hw1 hX
  by_cases g0 : ¬ 0 ≤ ap
  · have t0 : decide ((0 : Int) ≤ ap) = false := by simp; omega
    have E := Lib.hid (show b = false by rw [OKE.out]; exact decide_eq_false (fun h => by omega))
    clear g0 OKE
    go_enter Try.func14, Try.ntmps14
    go_wp2_with (simp only [HW.out, HX.out])
    go_ret
    exact ⟨by rw [E.out]; rfl, by have := B.out; rw [HX.out] at this; exact this⟩
  replace g0 := Decidable.of_not_not g0
  have t0 : decide ((0 : Int) ≤ ap) = true := by simp; omega
  by_cases g1 : ¬ ap ≤ 2047
  · have t1 : decide (ap ≤ 2047) = false := by simp; omega
    have E := Lib.hid (show b = false by rw [OKE.out]; exact decide_eq_false (fun h => by omega))
    clear g0 g1 OKE
    go_enter Try.func14, Try.ntmps14
    go_wp2_with (simp only [HW.out, HX.out])
    go_ret
    exact ⟨by rw [E.out]; rfl, by have := B.out; rw [HX.out] at this; exact this⟩
  replace g1 := Decidable.of_not_not g1
  have t1 : decide (ap ≤ 2047) = true := by simp; omega
  by_cases g2 : ¬ 0 ≤ fl
  · have t2 : decide ((0 : Int) ≤ fl) = false := by simp; omega
    have E := Lib.hid (show b = false by rw [OKE.out]; exact decide_eq_false (fun h => by omega))
    clear g0 g1 g2 OKE
    go_enter Try.func14, Try.ntmps14
    go_wp2_with (simp only [HW.out, HX.out])
    go_ret
    exact ⟨by rw [E.out]; rfl, by have := B.out; rw [HX.out] at this; exact this⟩
  replace g2 := Decidable.of_not_not g2
  have t2 : decide ((0 : Int) ≤ fl) = true := by simp; omega
  by_cases g3 : ¬ fl ≤ 3
  · have t3 : decide (fl ≤ 3) = false := by simp; omega
    have E := Lib.hid (show b = false by rw [OKE.out]; exact decide_eq_false (fun h => by omega))
    clear g0 g1 g2 g3 OKE
    go_enter Try.func14, Try.ntmps14
    go_wp2_with (simp only [HW.out, HX.out])
    go_ret
    exact ⟨by rw [E.out]; rfl, by have := B.out; rw [HX.out] at this; exact this⟩
  replace g3 := Decidable.of_not_not g3
  have t3 : decide (fl ≤ 3) = true := by simp; omega
  by_cases g4 : ¬ 0 ≤ ct
  · have t4 : decide ((0 : Int) ≤ ct) = false := by simp; omega
    have E := Lib.hid (show b = false by rw [OKE.out]; exact decide_eq_false (fun h => by omega))
    clear g0 g1 g2 g3 g4 OKE
    go_enter Try.func14, Try.ntmps14
    go_wp2_with (simp only [HW.out, HX.out])
    go_ret
    exact ⟨by rw [E.out]; rfl, by have := B.out; rw [HX.out] at this; exact this⟩
  replace g4 := Decidable.of_not_not g4
  have t4 : decide ((0 : Int) ≤ ct) = true := by simp; omega
  by_cases g5 : ¬ ct ≤ 16383
  · have t5 : decide (ct ≤ 16383) = false := by simp; omega
    have E := Lib.hid (show b = false by rw [OKE.out]; exact decide_eq_false (fun h => by omega))
    clear g0 g1 g2 g3 g4 g5 OKE
    go_enter Try.func14, Try.ntmps14
    go_wp2_with (simp only [HW.out, HX.out])
    go_ret
    exact ⟨by rw [E.out]; rfl, by have := B.out; rw [HX.out] at this; exact this⟩
  replace g5 := Decidable.of_not_not g5
  have t5 : decide (ct ≤ 16383) = true := by simp; omega
  by_cases g6 : ¬ 1 ≤ D
  · have t6 : decide ((1 : Int) ≤ (D : Int)) = false := by simp; omega
    have n6 : decide (1 ≤ D) = false := decide_eq_false g6
    have E := Lib.hid (show b = false by rw [OKE.out]; exact decide_eq_false (fun h => by omega))
    clear g0 g1 g2 g3 g4 g5 g6 OKE
    go_enter Try.func14, Try.ntmps14
    go_wp2_with (simp only [HW.out, HX.out])
    go_ret
    exact ⟨by rw [E.out]; rfl, by have := B.out; rw [HX.out] at this; exact this⟩
  replace g6 := Decidable.of_not_not g6
  have t6 : decide ((1 : Int) ≤ (D : Int)) = true := by simp; omega
  have n6 : decide (1 ≤ D) = true := decide_eq_true g6
  by_cases g7 : ¬ D ≤ 1024
  · have t7 : decide ((D : Int) ≤ 1024) = false := by simp; omega
    have n7 : decide (D ≤ 1024) = false := decide_eq_false g7
    have E := Lib.hid (show b = false by rw [OKE.out]; exact decide_eq_false (fun h => by omega))
    clear g0 g1 g2 g3 g4 g5 g6 g7 OKE
    go_enter Try.func14, Try.ntmps14
    go_wp2_with (simp only [HW.out, HX.out])
    go_ret
    exact ⟨by rw [E.out]; rfl, by have := B.out; rw [HX.out] at this; exact this⟩
  replace g7 := Decidable.of_not_not g7
  have t7 : decide ((D : Int) ≤ 1024) = true := by simp; omega
  have n7 : decide (D ≤ 1024) = true := decide_eq_true g7
  have E := Lib.hid (show b = true by rw [OKE.out]; exact decide_eq_true ⟨⟨g0, g1⟩, ⟨g2, g3⟩, ⟨g4, g5⟩, g6, g7⟩)
  clear g0 g1 g2 g3 g4 g5 g6 g7 OKE
  go_enter Try.func14, Try.ntmps14
  go_wp2_with (simp only [HW.out, HX.out])
  go_ret
  exact ⟨by rw [E.out]; rfl, by have := B.out; rw [HX.out] at this; exact this⟩
/-- A slice written out. -/
theorem own_new2 {w : World} {base n : Nat} {t : TypeId} (vs : List Value) (hn : vs.length = n) (hl : n ≤ maxLen) (hb : base ≤ w.heap.size) : (w.alloc (.cells vs.toArray t)).ownsRow base t 1 (.slice (some ⟨w.heap.size, 0, none⟩) n n) n vs :=
  ⟨by rw [hn, Nat.mul_one], .inr ⟨w.heap.size, n, vs.toArray, rfl, hb, heap_alloc_last w _, Nat.le_refl _, hl, by simp [hn], by simp [← hn]⟩⟩
/-- The bytes of two. -/
def tw (n j : Nat) : BitVec 8 := BitVec.ofNat 8 (if j = 0 then n / 256 else n % 256)
theorem tw_str (n : Nat) : (⟨(Gal.coefs (tw n) 2).toArray⟩ : ByteArray) = bs (Pk.hd n) := rfl
theorem tw_vals (n : Nat) (h : n < 65536) : vals (tw n) 2 = [.int .u8 (n / 256 : Nat), .int .u8 (n % 256 : Nat)] := by
  unfold vals
  rw [show (List.range 2) = [0, 1] from rfl]
  simp only [List.map_cons, List.map_nil]
  rw [show (tw n 0).toNat = n / 256 by unfold tw; rw [BitVec.toNat_ofNat]; simp; omega, show (tw n 1).toNat = n % 256 by unfold tw; rw [BitVec.toNat_ofNat]; simp]
set_option maxRecDepth 100000 in
theorem rtwo_any (n : Nat) (h : n < 65536) (w : World) : Calls Try.prog 48 #[.int .i64 (n : Nat)] w fun e w' => e = .returned (.string (bs (Pk.hd n))) ∧ Below w.heap.size w w' := by
  obtain ⟨q, hq⟩ : ∃ q, n / 256 = q := ⟨_, rfl⟩
  obtain ⟨r, hr⟩ : ∃ r, n % 256 = r := ⟨_, rfl⟩
  have q1 : (n : Int) / 256 = (q : Int) := by omega
  have q2 : (n : Int).tdiv 256 = (q : Int) := by rw [Int.tdiv_eq_ediv_of_nonneg (by omega)]; omega
  have r1 : (n : Int) % 256 = (r : Int) := by omega
  have r2 : (n : Int).tmod 256 = (r : Int) := by rw [Int.tmod_eq_emod_of_nonneg (by omega)]; omega
  have q3 : IntKind.u8.wrap (q : Int) = (q : Int) := by rw [IntKind.wrap_u8]; omega
  have r3 : IntKind.u8.wrap (r : Int) = (r : Int) := by rw [IntKind.wrap_u8]; omega
  have tv := tw_vals n h
  rw [hq, hr] at tv
  obtain ⟨w1, hw1⟩ : ∃ w1, w.alloc (.cells #[.int .u8 (q : Nat), .int .u8 (r : Nat)] 5) = w1 := ⟨_, rfl⟩
  have B := Lib.hid (show Below w.heap.size w w1 from hw1 ▸ ba (Below.refl _ _) _)
  have O : w1.ownsRow w.heap.size 5 1 (.slice (some ⟨w.heap.size, 0, none⟩) 2 2) 2 (vals (tw n) 2) := by
    rw [tv, ← hw1]
    exact own_new2 [.int .u8 (q : Nat), .int .u8 (r : Nat)] rfl (by unfold maxLen; omega) (Nat.le_refl _)
  have CV := Lib.hid (own_back O)
  rw [tw_str] at CV
  have HW := Lib.hid hw1
  clear hq hr O hw1 tv
  go_enter Try.func48, Try.ntmps48
  go_wp2_with (first | simp only [CV.out] | simp only [HW.out])
  go_ret
  exact ⟨rfl, B.out⟩
structure CdRegion (X n1 fl fm ct n2 D n3 : Nat) (da S1 S2 S12 S3 S123 R : ByteArray) (A : Act) (w0 : World) (s : Nat → Bool) (a : Act) (w : World) : Prop where
  off : Off [10, 11, 12, 13, 14, 15, 16, 17, 18, 19, 20, 21, 22, 23, 24, 25, 26, 27, 28] a A
  before : Below w0.heap.size w0 w
  t0 : s 0 = true → a.eval (.tmp 10) = .int .i64 (n1 : Nat)
  t1 : s 1 = true → a.eval (.tmp 11) = .string S1
  t2 : s 2 = true → a.eval (.tmp 12) = .pointer (some ⟨X, 2, none⟩)
  t3 : s 3 = true → a.eval (.tmp 13) = .int .i64 (fl : Nat)
  t4 : s 4 = true → a.eval (.tmp 14) = .int .i64 (fm : Nat)
  t5 : s 5 = true → a.eval (.tmp 15) = .pointer (some ⟨X, 3, none⟩)
  t6 : s 6 = true → a.eval (.tmp 16) = .int .i64 (ct : Nat)
  t7 : s 7 = true → a.eval (.tmp 17) = .int .i64 (n2 : Nat)
  t8 : s 8 = true → a.eval (.tmp 18) = .string S2
  t9 : s 9 = true → a.eval (.tmp 19) = .string S12
  t10 : s 10 = true → a.eval (.tmp 20) = .pointer (some ⟨X, 4, none⟩)
  t11 : s 11 = true → a.eval (.tmp 21) = .string da
  t12 : s 12 = true → a.eval (.tmp 22) = .int .i64 (D : Nat)
  t13 : s 13 = true → a.eval (.tmp 23) = .int .i64 (n3 : Nat)
  t14 : s 14 = true → a.eval (.tmp 24) = .string S3
  t15 : s 15 = true → a.eval (.tmp 25) = .string S123
  t16 : s 16 = true → a.eval (.tmp 26) = .pointer (some ⟨X, 4, none⟩)
  t17 : s 17 = true → a.eval (.tmp 27) = .string da
  t18 : s 18 = true → a.eval (.tmp 28) = .string R
set_option maxHeartbeats 2000000 in
set_option maxRecDepth 100000 in
theorem cdRegion {id : Nat} {l : List Oper} {A : Act} {w : World} {Q : Exit → Act → World → Prop} (X n1 fl fm ct n2 D n3 : Nat) (da S1 S2 S12 S3 S123 R : ByteArray)
    (hfm : fl * 16384 = fm) (hf3 : fl ≤ 3) (hct : ct ≤ 16383) (hb : fm + ct = n2) (hD : da.size = D) (hc : n3 + 1 = D) (hD9 : D ≤ 1024) (lX : X < w.heap.size)
    (hS1 : ∀ w, Calls Try.prog 48 #[.int .i64 (n1 : Nat)] w (fun e w' => e = .returned (.string S1) ∧ Below w.heap.size w w')) (hS2 : ∀ w, Calls Try.prog 48 #[.int .i64 (n2 : Nat)] w (fun e w' => e = .returned (.string S2) ∧ Below w.heap.size w w')) (hS3 : ∀ w, Calls Try.prog 48 #[.int .i64 (n3 : Nat)] w (fun e w' => e = .returned (.string S3) ∧ Below w.heap.size w w'))
    (z1 : S1.size = 2) (z2 : S2.size = 2) (z3 : S3.size = 2) (e12 : S1 ++ S2 = S12) (z12 : S12.size = 4) (e123 : S12 ++ S3 = S123) (z123 : S123.size = 6) (eR : S123 ++ da = R)
    (c2 : w.cell? ⟨X, 2, none⟩ = some (.int .i64 (fl : Nat))) (c3 : w.cell? ⟨X, 3, none⟩ = some (.int .i64 (ct : Nat))) (c4 : w.cell? ⟨X, 4, none⟩ = some (.string da))
    (hB : tableH l.toArray 19 (fun i => match i with | 0 => [] | 1 => [0] | 2 => [] | 3 => [2] | 4 => [3] | 5 => [] | 6 => [5] | 7 => [4, 6] | 8 => [7] | 9 => [1, 8] | 10 => [] | 11 => [10] | 12 => [11] | 13 => [12] | 14 => [13] | 15 => [9, 14] | 16 => [] | 17 => [16] | 18 => [15, 17] | _ => []) (fun _ => []) = true)
    (h0 : pick l 0 = some (.move (.tmp 3), some 10))
    (h1 : pick l 1 = some (.call { callee := .value (.func 48), args := #[.tmp 10], argTypes := #[3] }, some 11))
    (h2 : pick l 2 = some (.fieldAddr 23 (.tmp 1) 2, some 12))
    (h3 : pick l 3 = some (.load 3 (.tmp 12), some 13))
    (h4 : pick l 4 = some (.binOp .mul 3 (.tmp 13) (.const (.int .i64 16384)) 3, some 14))
    (h5 : pick l 5 = some (.fieldAddr 23 (.tmp 1) 3, some 15))
    (h6 : pick l 6 = some (.load 3 (.tmp 15), some 16))
    (h7 : pick l 7 = some (.binOp .add 3 (.tmp 14) (.tmp 16) 3, some 17))
    (h8 : pick l 8 = some (.call { callee := .value (.func 48), args := #[.tmp 17], argTypes := #[3] }, some 18))
    (h9 : pick l 9 = some (.binOp .add 9 (.tmp 11) (.tmp 18) 9, some 19))
    (h10 : pick l 10 = some (.fieldAddr 23 (.tmp 1) 4, some 20))
    (h11 : pick l 11 = some (.load 9 (.tmp 20), some 21))
    (h12 : pick l 12 = some (.call { callee := .builtin .len, args := #[.tmp 21], argTypes := #[9] }, some 22))
    (h13 : pick l 13 = some (.binOp .sub 3 (.tmp 22) (.const (.int .i64 1)) 3, some 23))
    (h14 : pick l 14 = some (.call { callee := .value (.func 48), args := #[.tmp 23], argTypes := #[3] }, some 24))
    (h15 : pick l 15 = some (.binOp .add 9 (.tmp 19) (.tmp 24) 9, some 25))
    (h16 : pick l 16 = some (.fieldAddr 23 (.tmp 1) 4, some 26))
    (h17 : pick l 17 = some (.load 9 (.tmp 26), some 27))
    (h18 : pick l 18 = some (.binOp .add 9 (.tmp 25) (.tmp 27) 9, some 28))
    (hs : A.tmps.size = 29)
    (x1 : A.eval (.tmp 1) = .pointer (some ⟨X, 0, none⟩))
    (x3 : A.eval (.tmp 3) = .int .i64 (n1 : Nat))
    (h : ∀ w1, Below w.heap.size w w1 → wpList Try.prog l.toArray Q (l.drop 19) (((((((((((((((((((A.put (some 10) (.int .i64 (n1 : Nat))).put (some 11) (.string S1)).put (some 12) (.pointer (some ⟨X, 2, none⟩))).put (some 13) (.int .i64 (fl : Nat))).put (some 14) (.int .i64 (fm : Nat))).put (some 15) (.pointer (some ⟨X, 3, none⟩))).put (some 16) (.int .i64 (ct : Nat))).put (some 17) (.int .i64 (n2 : Nat))).put (some 18) (.string S2)).put (some 19) (.string S12)).put (some 20) (.pointer (some ⟨X, 4, none⟩))).put (some 21) (.string da)).put (some 22) (.int .i64 (D : Nat))).put (some 23) (.int .i64 (n3 : Nat))).put (some 24) (.string S3)).put (some 25) (.string S123)).put (some 26) (.pointer (some ⟨X, 4, none⟩))).put (some 27) (.string da)).put (some 28) (.string R)) w1) :
    (Code.region id l.toArray true).wp Try.prog Q A w := by
  refine wp_region_head (by kernel_rfl) _ _ _ hB (CdRegion X n1 fl fm ct n2 D n3 da S1 S2 S12 S3 S123 R A w) ⟨Off.refl _ _, (Below.refl _ _).drew, by simp, by simp, by simp, by simp, by simp, by simp, by simp, by simp, by simp, by simp, by simp, by simp, by simp, by simp, by simp, by simp, by simp, by simp, by simp⟩ ?_ ?_
  · intro s a w' S i' o il ho hsi hT K hK
    have sz : a.tmps.size = 29 := by rw [S.off.2.1]; exact hs
    have y1 : a.eval (.tmp 1) = .pointer (some ⟨X, 0, none⟩) := by rw [S.off.eval (by decide)]; exact x1
    have y3 : a.eval (.tmp 3) = .int .i64 (n1 : Nat) := by rw [S.off.eval (by decide)]; exact x3
    match i', il, ho, hsi, hT with
    | 0, _, ho, hsi, hT =>
      obtain ⟨e1, e2⟩ := pick_of h0 ho
      have BW := S.before
      refine step_val (v := .int .i64 (n1 : Nat)) (by simp only [execOp, e1, y3]; go_simp) (hK _ _ ?_)
      rw [e2]
      exact ⟨S.off.put (by decide) _, S.before, fun _ => (eval_put _ _ _ (by omega)).trans rfl, fun g => by rw [eval_put_ne _ _ _ _ (by decide)]; exact S.t1 (by simpa using g), fun g => by rw [eval_put_ne _ _ _ _ (by decide)]; exact S.t2 (by simpa using g), fun g => by rw [eval_put_ne _ _ _ _ (by decide)]; exact S.t3 (by simpa using g), fun g => by rw [eval_put_ne _ _ _ _ (by decide)]; exact S.t4 (by simpa using g), fun g => by rw [eval_put_ne _ _ _ _ (by decide)]; exact S.t5 (by simpa using g), fun g => by rw [eval_put_ne _ _ _ _ (by decide)]; exact S.t6 (by simpa using g), fun g => by rw [eval_put_ne _ _ _ _ (by decide)]; exact S.t7 (by simpa using g), fun g => by rw [eval_put_ne _ _ _ _ (by decide)]; exact S.t8 (by simpa using g), fun g => by rw [eval_put_ne _ _ _ _ (by decide)]; exact S.t9 (by simpa using g), fun g => by rw [eval_put_ne _ _ _ _ (by decide)]; exact S.t10 (by simpa using g), fun g => by rw [eval_put_ne _ _ _ _ (by decide)]; exact S.t11 (by simpa using g), fun g => by rw [eval_put_ne _ _ _ _ (by decide)]; exact S.t12 (by simpa using g), fun g => by rw [eval_put_ne _ _ _ _ (by decide)]; exact S.t13 (by simpa using g), fun g => by rw [eval_put_ne _ _ _ _ (by decide)]; exact S.t14 (by simpa using g), fun g => by rw [eval_put_ne _ _ _ _ (by decide)]; exact S.t15 (by simpa using g), fun g => by rw [eval_put_ne _ _ _ _ (by decide)]; exact S.t16 (by simpa using g), fun g => by rw [eval_put_ne _ _ _ _ (by decide)]; exact S.t17 (by simpa using g), fun g => by rw [eval_put_ne _ _ _ _ (by decide)]; exact S.t18 (by simpa using g)⟩
    | 1, _, ho, hsi, hT =>
      obtain ⟨e1, e2⟩ := pick_of h1 ho
      have D0 : s 0 = true := list_pos hT (d := 0) (by decide)
      have BW := S.before
      refine step_call 48 (fun args w => by go_simp) _ _ e1 #[.int .i64 (n1 : Nat)] (by simp only [List.map_toArray, List.map_cons, List.map_nil, S.t0 D0]) ((hS1 w').mono ?_)
      rintro e w2 ⟨rfl, BB⟩
      refine ⟨_, rfl, hK _ _ ?_⟩
      rw [e2]
      exact ⟨S.off.put (by decide) _, bt BW BB, fun g => by rw [eval_put_ne _ _ _ _ (by decide)]; exact S.t0 (by simpa using g), fun _ => (eval_put _ _ _ (by omega)).trans rfl, fun g => by rw [eval_put_ne _ _ _ _ (by decide)]; exact S.t2 (by simpa using g), fun g => by rw [eval_put_ne _ _ _ _ (by decide)]; exact S.t3 (by simpa using g), fun g => by rw [eval_put_ne _ _ _ _ (by decide)]; exact S.t4 (by simpa using g), fun g => by rw [eval_put_ne _ _ _ _ (by decide)]; exact S.t5 (by simpa using g), fun g => by rw [eval_put_ne _ _ _ _ (by decide)]; exact S.t6 (by simpa using g), fun g => by rw [eval_put_ne _ _ _ _ (by decide)]; exact S.t7 (by simpa using g), fun g => by rw [eval_put_ne _ _ _ _ (by decide)]; exact S.t8 (by simpa using g), fun g => by rw [eval_put_ne _ _ _ _ (by decide)]; exact S.t9 (by simpa using g), fun g => by rw [eval_put_ne _ _ _ _ (by decide)]; exact S.t10 (by simpa using g), fun g => by rw [eval_put_ne _ _ _ _ (by decide)]; exact S.t11 (by simpa using g), fun g => by rw [eval_put_ne _ _ _ _ (by decide)]; exact S.t12 (by simpa using g), fun g => by rw [eval_put_ne _ _ _ _ (by decide)]; exact S.t13 (by simpa using g), fun g => by rw [eval_put_ne _ _ _ _ (by decide)]; exact S.t14 (by simpa using g), fun g => by rw [eval_put_ne _ _ _ _ (by decide)]; exact S.t15 (by simpa using g), fun g => by rw [eval_put_ne _ _ _ _ (by decide)]; exact S.t16 (by simpa using g), fun g => by rw [eval_put_ne _ _ _ _ (by decide)]; exact S.t17 (by simpa using g), fun g => by rw [eval_put_ne _ _ _ _ (by decide)]; exact S.t18 (by simpa using g)⟩
    | 2, _, ho, hsi, hT =>
      obtain ⟨e1, e2⟩ := pick_of h2 ho
      have BW := S.before
      refine step_val (v := .pointer (some ⟨X, 2, none⟩)) (by simp only [execOp, e1, y1]; go_simp) (hK _ _ ?_)
      rw [e2]
      exact ⟨S.off.put (by decide) _, S.before, fun g => by rw [eval_put_ne _ _ _ _ (by decide)]; exact S.t0 (by simpa using g), fun g => by rw [eval_put_ne _ _ _ _ (by decide)]; exact S.t1 (by simpa using g), fun _ => (eval_put _ _ _ (by omega)).trans rfl, fun g => by rw [eval_put_ne _ _ _ _ (by decide)]; exact S.t3 (by simpa using g), fun g => by rw [eval_put_ne _ _ _ _ (by decide)]; exact S.t4 (by simpa using g), fun g => by rw [eval_put_ne _ _ _ _ (by decide)]; exact S.t5 (by simpa using g), fun g => by rw [eval_put_ne _ _ _ _ (by decide)]; exact S.t6 (by simpa using g), fun g => by rw [eval_put_ne _ _ _ _ (by decide)]; exact S.t7 (by simpa using g), fun g => by rw [eval_put_ne _ _ _ _ (by decide)]; exact S.t8 (by simpa using g), fun g => by rw [eval_put_ne _ _ _ _ (by decide)]; exact S.t9 (by simpa using g), fun g => by rw [eval_put_ne _ _ _ _ (by decide)]; exact S.t10 (by simpa using g), fun g => by rw [eval_put_ne _ _ _ _ (by decide)]; exact S.t11 (by simpa using g), fun g => by rw [eval_put_ne _ _ _ _ (by decide)]; exact S.t12 (by simpa using g), fun g => by rw [eval_put_ne _ _ _ _ (by decide)]; exact S.t13 (by simpa using g), fun g => by rw [eval_put_ne _ _ _ _ (by decide)]; exact S.t14 (by simpa using g), fun g => by rw [eval_put_ne _ _ _ _ (by decide)]; exact S.t15 (by simpa using g), fun g => by rw [eval_put_ne _ _ _ _ (by decide)]; exact S.t16 (by simpa using g), fun g => by rw [eval_put_ne _ _ _ _ (by decide)]; exact S.t17 (by simpa using g), fun g => by rw [eval_put_ne _ _ _ _ (by decide)]; exact S.t18 (by simpa using g)⟩
    | 3, _, ho, hsi, hT =>
      obtain ⟨e1, e2⟩ := pick_of h3 ho
      have D2 : s 2 = true := list_pos hT (d := 2) (by decide)
      have BW := S.before
      have cl := (BW.cell (p := ⟨X, 2, none⟩) lX).trans c2
      refine step_val (v := .int .i64 (fl : Nat)) (by simp only [execOp, e1, S.t2 D2]; go_simp) (hK _ _ ?_)
      rw [e2]
      exact ⟨S.off.put (by decide) _, S.before, fun g => by rw [eval_put_ne _ _ _ _ (by decide)]; exact S.t0 (by simpa using g), fun g => by rw [eval_put_ne _ _ _ _ (by decide)]; exact S.t1 (by simpa using g), fun g => by rw [eval_put_ne _ _ _ _ (by decide)]; exact S.t2 (by simpa using g), fun _ => (eval_put _ _ _ (by omega)).trans rfl, fun g => by rw [eval_put_ne _ _ _ _ (by decide)]; exact S.t4 (by simpa using g), fun g => by rw [eval_put_ne _ _ _ _ (by decide)]; exact S.t5 (by simpa using g), fun g => by rw [eval_put_ne _ _ _ _ (by decide)]; exact S.t6 (by simpa using g), fun g => by rw [eval_put_ne _ _ _ _ (by decide)]; exact S.t7 (by simpa using g), fun g => by rw [eval_put_ne _ _ _ _ (by decide)]; exact S.t8 (by simpa using g), fun g => by rw [eval_put_ne _ _ _ _ (by decide)]; exact S.t9 (by simpa using g), fun g => by rw [eval_put_ne _ _ _ _ (by decide)]; exact S.t10 (by simpa using g), fun g => by rw [eval_put_ne _ _ _ _ (by decide)]; exact S.t11 (by simpa using g), fun g => by rw [eval_put_ne _ _ _ _ (by decide)]; exact S.t12 (by simpa using g), fun g => by rw [eval_put_ne _ _ _ _ (by decide)]; exact S.t13 (by simpa using g), fun g => by rw [eval_put_ne _ _ _ _ (by decide)]; exact S.t14 (by simpa using g), fun g => by rw [eval_put_ne _ _ _ _ (by decide)]; exact S.t15 (by simpa using g), fun g => by rw [eval_put_ne _ _ _ _ (by decide)]; exact S.t16 (by simpa using g), fun g => by rw [eval_put_ne _ _ _ _ (by decide)]; exact S.t17 (by simpa using g), fun g => by rw [eval_put_ne _ _ _ _ (by decide)]; exact S.t18 (by simpa using g)⟩
    | 4, _, ho, hsi, hT =>
      obtain ⟨e1, e2⟩ := pick_of h4 ho
      have D3 : s 3 = true := list_pos hT (d := 3) (by decide)
      have BW := S.before
      refine step_val (v := .int .i64 (fm : Nat)) (by simp only [execOp, e1, S.t3 D3]; go_simp; rw [IntKind.wrap_i64]; omega) (hK _ _ ?_)
      rw [e2]
      exact ⟨S.off.put (by decide) _, S.before, fun g => by rw [eval_put_ne _ _ _ _ (by decide)]; exact S.t0 (by simpa using g), fun g => by rw [eval_put_ne _ _ _ _ (by decide)]; exact S.t1 (by simpa using g), fun g => by rw [eval_put_ne _ _ _ _ (by decide)]; exact S.t2 (by simpa using g), fun g => by rw [eval_put_ne _ _ _ _ (by decide)]; exact S.t3 (by simpa using g), fun _ => (eval_put _ _ _ (by omega)).trans rfl, fun g => by rw [eval_put_ne _ _ _ _ (by decide)]; exact S.t5 (by simpa using g), fun g => by rw [eval_put_ne _ _ _ _ (by decide)]; exact S.t6 (by simpa using g), fun g => by rw [eval_put_ne _ _ _ _ (by decide)]; exact S.t7 (by simpa using g), fun g => by rw [eval_put_ne _ _ _ _ (by decide)]; exact S.t8 (by simpa using g), fun g => by rw [eval_put_ne _ _ _ _ (by decide)]; exact S.t9 (by simpa using g), fun g => by rw [eval_put_ne _ _ _ _ (by decide)]; exact S.t10 (by simpa using g), fun g => by rw [eval_put_ne _ _ _ _ (by decide)]; exact S.t11 (by simpa using g), fun g => by rw [eval_put_ne _ _ _ _ (by decide)]; exact S.t12 (by simpa using g), fun g => by rw [eval_put_ne _ _ _ _ (by decide)]; exact S.t13 (by simpa using g), fun g => by rw [eval_put_ne _ _ _ _ (by decide)]; exact S.t14 (by simpa using g), fun g => by rw [eval_put_ne _ _ _ _ (by decide)]; exact S.t15 (by simpa using g), fun g => by rw [eval_put_ne _ _ _ _ (by decide)]; exact S.t16 (by simpa using g), fun g => by rw [eval_put_ne _ _ _ _ (by decide)]; exact S.t17 (by simpa using g), fun g => by rw [eval_put_ne _ _ _ _ (by decide)]; exact S.t18 (by simpa using g)⟩
    | 5, _, ho, hsi, hT =>
      obtain ⟨e1, e2⟩ := pick_of h5 ho
      have BW := S.before
      refine step_val (v := .pointer (some ⟨X, 3, none⟩)) (by simp only [execOp, e1, y1]; go_simp) (hK _ _ ?_)
      rw [e2]
      exact ⟨S.off.put (by decide) _, S.before, fun g => by rw [eval_put_ne _ _ _ _ (by decide)]; exact S.t0 (by simpa using g), fun g => by rw [eval_put_ne _ _ _ _ (by decide)]; exact S.t1 (by simpa using g), fun g => by rw [eval_put_ne _ _ _ _ (by decide)]; exact S.t2 (by simpa using g), fun g => by rw [eval_put_ne _ _ _ _ (by decide)]; exact S.t3 (by simpa using g), fun g => by rw [eval_put_ne _ _ _ _ (by decide)]; exact S.t4 (by simpa using g), fun _ => (eval_put _ _ _ (by omega)).trans rfl, fun g => by rw [eval_put_ne _ _ _ _ (by decide)]; exact S.t6 (by simpa using g), fun g => by rw [eval_put_ne _ _ _ _ (by decide)]; exact S.t7 (by simpa using g), fun g => by rw [eval_put_ne _ _ _ _ (by decide)]; exact S.t8 (by simpa using g), fun g => by rw [eval_put_ne _ _ _ _ (by decide)]; exact S.t9 (by simpa using g), fun g => by rw [eval_put_ne _ _ _ _ (by decide)]; exact S.t10 (by simpa using g), fun g => by rw [eval_put_ne _ _ _ _ (by decide)]; exact S.t11 (by simpa using g), fun g => by rw [eval_put_ne _ _ _ _ (by decide)]; exact S.t12 (by simpa using g), fun g => by rw [eval_put_ne _ _ _ _ (by decide)]; exact S.t13 (by simpa using g), fun g => by rw [eval_put_ne _ _ _ _ (by decide)]; exact S.t14 (by simpa using g), fun g => by rw [eval_put_ne _ _ _ _ (by decide)]; exact S.t15 (by simpa using g), fun g => by rw [eval_put_ne _ _ _ _ (by decide)]; exact S.t16 (by simpa using g), fun g => by rw [eval_put_ne _ _ _ _ (by decide)]; exact S.t17 (by simpa using g), fun g => by rw [eval_put_ne _ _ _ _ (by decide)]; exact S.t18 (by simpa using g)⟩
    | 6, _, ho, hsi, hT =>
      obtain ⟨e1, e2⟩ := pick_of h6 ho
      have D5 : s 5 = true := list_pos hT (d := 5) (by decide)
      have BW := S.before
      have cl := (BW.cell (p := ⟨X, 3, none⟩) lX).trans c3
      refine step_val (v := .int .i64 (ct : Nat)) (by simp only [execOp, e1, S.t5 D5]; go_simp) (hK _ _ ?_)
      rw [e2]
      exact ⟨S.off.put (by decide) _, S.before, fun g => by rw [eval_put_ne _ _ _ _ (by decide)]; exact S.t0 (by simpa using g), fun g => by rw [eval_put_ne _ _ _ _ (by decide)]; exact S.t1 (by simpa using g), fun g => by rw [eval_put_ne _ _ _ _ (by decide)]; exact S.t2 (by simpa using g), fun g => by rw [eval_put_ne _ _ _ _ (by decide)]; exact S.t3 (by simpa using g), fun g => by rw [eval_put_ne _ _ _ _ (by decide)]; exact S.t4 (by simpa using g), fun g => by rw [eval_put_ne _ _ _ _ (by decide)]; exact S.t5 (by simpa using g), fun _ => (eval_put _ _ _ (by omega)).trans rfl, fun g => by rw [eval_put_ne _ _ _ _ (by decide)]; exact S.t7 (by simpa using g), fun g => by rw [eval_put_ne _ _ _ _ (by decide)]; exact S.t8 (by simpa using g), fun g => by rw [eval_put_ne _ _ _ _ (by decide)]; exact S.t9 (by simpa using g), fun g => by rw [eval_put_ne _ _ _ _ (by decide)]; exact S.t10 (by simpa using g), fun g => by rw [eval_put_ne _ _ _ _ (by decide)]; exact S.t11 (by simpa using g), fun g => by rw [eval_put_ne _ _ _ _ (by decide)]; exact S.t12 (by simpa using g), fun g => by rw [eval_put_ne _ _ _ _ (by decide)]; exact S.t13 (by simpa using g), fun g => by rw [eval_put_ne _ _ _ _ (by decide)]; exact S.t14 (by simpa using g), fun g => by rw [eval_put_ne _ _ _ _ (by decide)]; exact S.t15 (by simpa using g), fun g => by rw [eval_put_ne _ _ _ _ (by decide)]; exact S.t16 (by simpa using g), fun g => by rw [eval_put_ne _ _ _ _ (by decide)]; exact S.t17 (by simpa using g), fun g => by rw [eval_put_ne _ _ _ _ (by decide)]; exact S.t18 (by simpa using g)⟩
    | 7, _, ho, hsi, hT =>
      obtain ⟨e1, e2⟩ := pick_of h7 ho
      have D4 : s 4 = true := list_pos hT (d := 4) (by decide)
      have D6 : s 6 = true := list_pos hT (d := 6) (by decide)
      have BW := S.before
      refine step_val (v := .int .i64 (n2 : Nat)) (by simp only [execOp, e1, S.t4 D4, S.t6 D6]; go_simp; rw [IntKind.wrap_i64]; omega) (hK _ _ ?_)
      rw [e2]
      exact ⟨S.off.put (by decide) _, S.before, fun g => by rw [eval_put_ne _ _ _ _ (by decide)]; exact S.t0 (by simpa using g), fun g => by rw [eval_put_ne _ _ _ _ (by decide)]; exact S.t1 (by simpa using g), fun g => by rw [eval_put_ne _ _ _ _ (by decide)]; exact S.t2 (by simpa using g), fun g => by rw [eval_put_ne _ _ _ _ (by decide)]; exact S.t3 (by simpa using g), fun g => by rw [eval_put_ne _ _ _ _ (by decide)]; exact S.t4 (by simpa using g), fun g => by rw [eval_put_ne _ _ _ _ (by decide)]; exact S.t5 (by simpa using g), fun g => by rw [eval_put_ne _ _ _ _ (by decide)]; exact S.t6 (by simpa using g), fun _ => (eval_put _ _ _ (by omega)).trans rfl, fun g => by rw [eval_put_ne _ _ _ _ (by decide)]; exact S.t8 (by simpa using g), fun g => by rw [eval_put_ne _ _ _ _ (by decide)]; exact S.t9 (by simpa using g), fun g => by rw [eval_put_ne _ _ _ _ (by decide)]; exact S.t10 (by simpa using g), fun g => by rw [eval_put_ne _ _ _ _ (by decide)]; exact S.t11 (by simpa using g), fun g => by rw [eval_put_ne _ _ _ _ (by decide)]; exact S.t12 (by simpa using g), fun g => by rw [eval_put_ne _ _ _ _ (by decide)]; exact S.t13 (by simpa using g), fun g => by rw [eval_put_ne _ _ _ _ (by decide)]; exact S.t14 (by simpa using g), fun g => by rw [eval_put_ne _ _ _ _ (by decide)]; exact S.t15 (by simpa using g), fun g => by rw [eval_put_ne _ _ _ _ (by decide)]; exact S.t16 (by simpa using g), fun g => by rw [eval_put_ne _ _ _ _ (by decide)]; exact S.t17 (by simpa using g), fun g => by rw [eval_put_ne _ _ _ _ (by decide)]; exact S.t18 (by simpa using g)⟩
    | 8, _, ho, hsi, hT =>
      obtain ⟨e1, e2⟩ := pick_of h8 ho
      have D7 : s 7 = true := list_pos hT (d := 7) (by decide)
      have BW := S.before
      refine step_call 48 (fun args w => by go_simp) _ _ e1 #[.int .i64 (n2 : Nat)] (by simp only [List.map_toArray, List.map_cons, List.map_nil, S.t7 D7]) ((hS2 w').mono ?_)
      rintro e w2 ⟨rfl, BB⟩
      refine ⟨_, rfl, hK _ _ ?_⟩
      rw [e2]
      exact ⟨S.off.put (by decide) _, bt BW BB, fun g => by rw [eval_put_ne _ _ _ _ (by decide)]; exact S.t0 (by simpa using g), fun g => by rw [eval_put_ne _ _ _ _ (by decide)]; exact S.t1 (by simpa using g), fun g => by rw [eval_put_ne _ _ _ _ (by decide)]; exact S.t2 (by simpa using g), fun g => by rw [eval_put_ne _ _ _ _ (by decide)]; exact S.t3 (by simpa using g), fun g => by rw [eval_put_ne _ _ _ _ (by decide)]; exact S.t4 (by simpa using g), fun g => by rw [eval_put_ne _ _ _ _ (by decide)]; exact S.t5 (by simpa using g), fun g => by rw [eval_put_ne _ _ _ _ (by decide)]; exact S.t6 (by simpa using g), fun g => by rw [eval_put_ne _ _ _ _ (by decide)]; exact S.t7 (by simpa using g), fun _ => (eval_put _ _ _ (by omega)).trans rfl, fun g => by rw [eval_put_ne _ _ _ _ (by decide)]; exact S.t9 (by simpa using g), fun g => by rw [eval_put_ne _ _ _ _ (by decide)]; exact S.t10 (by simpa using g), fun g => by rw [eval_put_ne _ _ _ _ (by decide)]; exact S.t11 (by simpa using g), fun g => by rw [eval_put_ne _ _ _ _ (by decide)]; exact S.t12 (by simpa using g), fun g => by rw [eval_put_ne _ _ _ _ (by decide)]; exact S.t13 (by simpa using g), fun g => by rw [eval_put_ne _ _ _ _ (by decide)]; exact S.t14 (by simpa using g), fun g => by rw [eval_put_ne _ _ _ _ (by decide)]; exact S.t15 (by simpa using g), fun g => by rw [eval_put_ne _ _ _ _ (by decide)]; exact S.t16 (by simpa using g), fun g => by rw [eval_put_ne _ _ _ _ (by decide)]; exact S.t17 (by simpa using g), fun g => by rw [eval_put_ne _ _ _ _ (by decide)]; exact S.t18 (by simpa using g)⟩
    | 9, _, ho, hsi, hT =>
      obtain ⟨e1, e2⟩ := pick_of h9 ho
      have D1 : s 1 = true := list_pos hT (d := 1) (by decide)
      have D8 : s 8 = true := list_pos hT (d := 8) (by decide)
      have BW := S.before
      refine step_val (v := .string S12) (by simp only [execOp, e1, S.t1 D1, S.t8 D8]; go_simp) (hK _ _ ?_)
      rw [e2]
      exact ⟨S.off.put (by decide) _, S.before, fun g => by rw [eval_put_ne _ _ _ _ (by decide)]; exact S.t0 (by simpa using g), fun g => by rw [eval_put_ne _ _ _ _ (by decide)]; exact S.t1 (by simpa using g), fun g => by rw [eval_put_ne _ _ _ _ (by decide)]; exact S.t2 (by simpa using g), fun g => by rw [eval_put_ne _ _ _ _ (by decide)]; exact S.t3 (by simpa using g), fun g => by rw [eval_put_ne _ _ _ _ (by decide)]; exact S.t4 (by simpa using g), fun g => by rw [eval_put_ne _ _ _ _ (by decide)]; exact S.t5 (by simpa using g), fun g => by rw [eval_put_ne _ _ _ _ (by decide)]; exact S.t6 (by simpa using g), fun g => by rw [eval_put_ne _ _ _ _ (by decide)]; exact S.t7 (by simpa using g), fun g => by rw [eval_put_ne _ _ _ _ (by decide)]; exact S.t8 (by simpa using g), fun _ => (eval_put _ _ _ (by omega)).trans rfl, fun g => by rw [eval_put_ne _ _ _ _ (by decide)]; exact S.t10 (by simpa using g), fun g => by rw [eval_put_ne _ _ _ _ (by decide)]; exact S.t11 (by simpa using g), fun g => by rw [eval_put_ne _ _ _ _ (by decide)]; exact S.t12 (by simpa using g), fun g => by rw [eval_put_ne _ _ _ _ (by decide)]; exact S.t13 (by simpa using g), fun g => by rw [eval_put_ne _ _ _ _ (by decide)]; exact S.t14 (by simpa using g), fun g => by rw [eval_put_ne _ _ _ _ (by decide)]; exact S.t15 (by simpa using g), fun g => by rw [eval_put_ne _ _ _ _ (by decide)]; exact S.t16 (by simpa using g), fun g => by rw [eval_put_ne _ _ _ _ (by decide)]; exact S.t17 (by simpa using g), fun g => by rw [eval_put_ne _ _ _ _ (by decide)]; exact S.t18 (by simpa using g)⟩
    | 10, _, ho, hsi, hT =>
      obtain ⟨e1, e2⟩ := pick_of h10 ho
      have BW := S.before
      refine step_val (v := .pointer (some ⟨X, 4, none⟩)) (by simp only [execOp, e1, y1]; go_simp) (hK _ _ ?_)
      rw [e2]
      exact ⟨S.off.put (by decide) _, S.before, fun g => by rw [eval_put_ne _ _ _ _ (by decide)]; exact S.t0 (by simpa using g), fun g => by rw [eval_put_ne _ _ _ _ (by decide)]; exact S.t1 (by simpa using g), fun g => by rw [eval_put_ne _ _ _ _ (by decide)]; exact S.t2 (by simpa using g), fun g => by rw [eval_put_ne _ _ _ _ (by decide)]; exact S.t3 (by simpa using g), fun g => by rw [eval_put_ne _ _ _ _ (by decide)]; exact S.t4 (by simpa using g), fun g => by rw [eval_put_ne _ _ _ _ (by decide)]; exact S.t5 (by simpa using g), fun g => by rw [eval_put_ne _ _ _ _ (by decide)]; exact S.t6 (by simpa using g), fun g => by rw [eval_put_ne _ _ _ _ (by decide)]; exact S.t7 (by simpa using g), fun g => by rw [eval_put_ne _ _ _ _ (by decide)]; exact S.t8 (by simpa using g), fun g => by rw [eval_put_ne _ _ _ _ (by decide)]; exact S.t9 (by simpa using g), fun _ => (eval_put _ _ _ (by omega)).trans rfl, fun g => by rw [eval_put_ne _ _ _ _ (by decide)]; exact S.t11 (by simpa using g), fun g => by rw [eval_put_ne _ _ _ _ (by decide)]; exact S.t12 (by simpa using g), fun g => by rw [eval_put_ne _ _ _ _ (by decide)]; exact S.t13 (by simpa using g), fun g => by rw [eval_put_ne _ _ _ _ (by decide)]; exact S.t14 (by simpa using g), fun g => by rw [eval_put_ne _ _ _ _ (by decide)]; exact S.t15 (by simpa using g), fun g => by rw [eval_put_ne _ _ _ _ (by decide)]; exact S.t16 (by simpa using g), fun g => by rw [eval_put_ne _ _ _ _ (by decide)]; exact S.t17 (by simpa using g), fun g => by rw [eval_put_ne _ _ _ _ (by decide)]; exact S.t18 (by simpa using g)⟩
    | 11, _, ho, hsi, hT =>
      obtain ⟨e1, e2⟩ := pick_of h11 ho
      have D10 : s 10 = true := list_pos hT (d := 10) (by decide)
      have BW := S.before
      have cl := (BW.cell (p := ⟨X, 4, none⟩) lX).trans c4
      refine step_val (v := .string da) (by simp only [execOp, e1, S.t10 D10]; go_simp) (hK _ _ ?_)
      rw [e2]
      exact ⟨S.off.put (by decide) _, S.before, fun g => by rw [eval_put_ne _ _ _ _ (by decide)]; exact S.t0 (by simpa using g), fun g => by rw [eval_put_ne _ _ _ _ (by decide)]; exact S.t1 (by simpa using g), fun g => by rw [eval_put_ne _ _ _ _ (by decide)]; exact S.t2 (by simpa using g), fun g => by rw [eval_put_ne _ _ _ _ (by decide)]; exact S.t3 (by simpa using g), fun g => by rw [eval_put_ne _ _ _ _ (by decide)]; exact S.t4 (by simpa using g), fun g => by rw [eval_put_ne _ _ _ _ (by decide)]; exact S.t5 (by simpa using g), fun g => by rw [eval_put_ne _ _ _ _ (by decide)]; exact S.t6 (by simpa using g), fun g => by rw [eval_put_ne _ _ _ _ (by decide)]; exact S.t7 (by simpa using g), fun g => by rw [eval_put_ne _ _ _ _ (by decide)]; exact S.t8 (by simpa using g), fun g => by rw [eval_put_ne _ _ _ _ (by decide)]; exact S.t9 (by simpa using g), fun g => by rw [eval_put_ne _ _ _ _ (by decide)]; exact S.t10 (by simpa using g), fun _ => (eval_put _ _ _ (by omega)).trans rfl, fun g => by rw [eval_put_ne _ _ _ _ (by decide)]; exact S.t12 (by simpa using g), fun g => by rw [eval_put_ne _ _ _ _ (by decide)]; exact S.t13 (by simpa using g), fun g => by rw [eval_put_ne _ _ _ _ (by decide)]; exact S.t14 (by simpa using g), fun g => by rw [eval_put_ne _ _ _ _ (by decide)]; exact S.t15 (by simpa using g), fun g => by rw [eval_put_ne _ _ _ _ (by decide)]; exact S.t16 (by simpa using g), fun g => by rw [eval_put_ne _ _ _ _ (by decide)]; exact S.t17 (by simpa using g), fun g => by rw [eval_put_ne _ _ _ _ (by decide)]; exact S.t18 (by simpa using g)⟩
    | 12, _, ho, hsi, hT =>
      obtain ⟨e1, e2⟩ := pick_of h12 ho
      have D11 : s 11 = true := list_pos hT (d := 11) (by decide)
      have BW := S.before
      have q21 : a.tmps[21]'(by omega) = .string da := by have := S.t11 D11; simpa [Act.eval, sz] using this
      refine step_val (v := .int .i64 (D : Nat)) (by simp only [execOp, e1]; go_simp; try rw [hD]) (hK _ _ ?_)
      rw [e2]
      exact ⟨S.off.put (by decide) _, S.before, fun g => by rw [eval_put_ne _ _ _ _ (by decide)]; exact S.t0 (by simpa using g), fun g => by rw [eval_put_ne _ _ _ _ (by decide)]; exact S.t1 (by simpa using g), fun g => by rw [eval_put_ne _ _ _ _ (by decide)]; exact S.t2 (by simpa using g), fun g => by rw [eval_put_ne _ _ _ _ (by decide)]; exact S.t3 (by simpa using g), fun g => by rw [eval_put_ne _ _ _ _ (by decide)]; exact S.t4 (by simpa using g), fun g => by rw [eval_put_ne _ _ _ _ (by decide)]; exact S.t5 (by simpa using g), fun g => by rw [eval_put_ne _ _ _ _ (by decide)]; exact S.t6 (by simpa using g), fun g => by rw [eval_put_ne _ _ _ _ (by decide)]; exact S.t7 (by simpa using g), fun g => by rw [eval_put_ne _ _ _ _ (by decide)]; exact S.t8 (by simpa using g), fun g => by rw [eval_put_ne _ _ _ _ (by decide)]; exact S.t9 (by simpa using g), fun g => by rw [eval_put_ne _ _ _ _ (by decide)]; exact S.t10 (by simpa using g), fun g => by rw [eval_put_ne _ _ _ _ (by decide)]; exact S.t11 (by simpa using g), fun _ => (eval_put _ _ _ (by omega)).trans rfl, fun g => by rw [eval_put_ne _ _ _ _ (by decide)]; exact S.t13 (by simpa using g), fun g => by rw [eval_put_ne _ _ _ _ (by decide)]; exact S.t14 (by simpa using g), fun g => by rw [eval_put_ne _ _ _ _ (by decide)]; exact S.t15 (by simpa using g), fun g => by rw [eval_put_ne _ _ _ _ (by decide)]; exact S.t16 (by simpa using g), fun g => by rw [eval_put_ne _ _ _ _ (by decide)]; exact S.t17 (by simpa using g), fun g => by rw [eval_put_ne _ _ _ _ (by decide)]; exact S.t18 (by simpa using g)⟩
    | 13, _, ho, hsi, hT =>
      obtain ⟨e1, e2⟩ := pick_of h13 ho
      have D12 : s 12 = true := list_pos hT (d := 12) (by decide)
      have BW := S.before
      refine step_val (v := .int .i64 (n3 : Nat)) (by simp only [execOp, e1, S.t12 D12]; go_simp; rw [IntKind.wrap_i64]; omega) (hK _ _ ?_)
      rw [e2]
      exact ⟨S.off.put (by decide) _, S.before, fun g => by rw [eval_put_ne _ _ _ _ (by decide)]; exact S.t0 (by simpa using g), fun g => by rw [eval_put_ne _ _ _ _ (by decide)]; exact S.t1 (by simpa using g), fun g => by rw [eval_put_ne _ _ _ _ (by decide)]; exact S.t2 (by simpa using g), fun g => by rw [eval_put_ne _ _ _ _ (by decide)]; exact S.t3 (by simpa using g), fun g => by rw [eval_put_ne _ _ _ _ (by decide)]; exact S.t4 (by simpa using g), fun g => by rw [eval_put_ne _ _ _ _ (by decide)]; exact S.t5 (by simpa using g), fun g => by rw [eval_put_ne _ _ _ _ (by decide)]; exact S.t6 (by simpa using g), fun g => by rw [eval_put_ne _ _ _ _ (by decide)]; exact S.t7 (by simpa using g), fun g => by rw [eval_put_ne _ _ _ _ (by decide)]; exact S.t8 (by simpa using g), fun g => by rw [eval_put_ne _ _ _ _ (by decide)]; exact S.t9 (by simpa using g), fun g => by rw [eval_put_ne _ _ _ _ (by decide)]; exact S.t10 (by simpa using g), fun g => by rw [eval_put_ne _ _ _ _ (by decide)]; exact S.t11 (by simpa using g), fun g => by rw [eval_put_ne _ _ _ _ (by decide)]; exact S.t12 (by simpa using g), fun _ => (eval_put _ _ _ (by omega)).trans rfl, fun g => by rw [eval_put_ne _ _ _ _ (by decide)]; exact S.t14 (by simpa using g), fun g => by rw [eval_put_ne _ _ _ _ (by decide)]; exact S.t15 (by simpa using g), fun g => by rw [eval_put_ne _ _ _ _ (by decide)]; exact S.t16 (by simpa using g), fun g => by rw [eval_put_ne _ _ _ _ (by decide)]; exact S.t17 (by simpa using g), fun g => by rw [eval_put_ne _ _ _ _ (by decide)]; exact S.t18 (by simpa using g)⟩
    | 14, _, ho, hsi, hT =>
      obtain ⟨e1, e2⟩ := pick_of h14 ho
      have D13 : s 13 = true := list_pos hT (d := 13) (by decide)
      have BW := S.before
      refine step_call 48 (fun args w => by go_simp) _ _ e1 #[.int .i64 (n3 : Nat)] (by simp only [List.map_toArray, List.map_cons, List.map_nil, S.t13 D13]) ((hS3 w').mono ?_)
      rintro e w2 ⟨rfl, BB⟩
      refine ⟨_, rfl, hK _ _ ?_⟩
      rw [e2]
      exact ⟨S.off.put (by decide) _, bt BW BB, fun g => by rw [eval_put_ne _ _ _ _ (by decide)]; exact S.t0 (by simpa using g), fun g => by rw [eval_put_ne _ _ _ _ (by decide)]; exact S.t1 (by simpa using g), fun g => by rw [eval_put_ne _ _ _ _ (by decide)]; exact S.t2 (by simpa using g), fun g => by rw [eval_put_ne _ _ _ _ (by decide)]; exact S.t3 (by simpa using g), fun g => by rw [eval_put_ne _ _ _ _ (by decide)]; exact S.t4 (by simpa using g), fun g => by rw [eval_put_ne _ _ _ _ (by decide)]; exact S.t5 (by simpa using g), fun g => by rw [eval_put_ne _ _ _ _ (by decide)]; exact S.t6 (by simpa using g), fun g => by rw [eval_put_ne _ _ _ _ (by decide)]; exact S.t7 (by simpa using g), fun g => by rw [eval_put_ne _ _ _ _ (by decide)]; exact S.t8 (by simpa using g), fun g => by rw [eval_put_ne _ _ _ _ (by decide)]; exact S.t9 (by simpa using g), fun g => by rw [eval_put_ne _ _ _ _ (by decide)]; exact S.t10 (by simpa using g), fun g => by rw [eval_put_ne _ _ _ _ (by decide)]; exact S.t11 (by simpa using g), fun g => by rw [eval_put_ne _ _ _ _ (by decide)]; exact S.t12 (by simpa using g), fun g => by rw [eval_put_ne _ _ _ _ (by decide)]; exact S.t13 (by simpa using g), fun _ => (eval_put _ _ _ (by omega)).trans rfl, fun g => by rw [eval_put_ne _ _ _ _ (by decide)]; exact S.t15 (by simpa using g), fun g => by rw [eval_put_ne _ _ _ _ (by decide)]; exact S.t16 (by simpa using g), fun g => by rw [eval_put_ne _ _ _ _ (by decide)]; exact S.t17 (by simpa using g), fun g => by rw [eval_put_ne _ _ _ _ (by decide)]; exact S.t18 (by simpa using g)⟩
    | 15, _, ho, hsi, hT =>
      obtain ⟨e1, e2⟩ := pick_of h15 ho
      have D9 : s 9 = true := list_pos hT (d := 9) (by decide)
      have D14 : s 14 = true := list_pos hT (d := 14) (by decide)
      have BW := S.before
      refine step_val (v := .string S123) (by simp only [execOp, e1, S.t9 D9, S.t14 D14]; go_simp) (hK _ _ ?_)
      rw [e2]
      exact ⟨S.off.put (by decide) _, S.before, fun g => by rw [eval_put_ne _ _ _ _ (by decide)]; exact S.t0 (by simpa using g), fun g => by rw [eval_put_ne _ _ _ _ (by decide)]; exact S.t1 (by simpa using g), fun g => by rw [eval_put_ne _ _ _ _ (by decide)]; exact S.t2 (by simpa using g), fun g => by rw [eval_put_ne _ _ _ _ (by decide)]; exact S.t3 (by simpa using g), fun g => by rw [eval_put_ne _ _ _ _ (by decide)]; exact S.t4 (by simpa using g), fun g => by rw [eval_put_ne _ _ _ _ (by decide)]; exact S.t5 (by simpa using g), fun g => by rw [eval_put_ne _ _ _ _ (by decide)]; exact S.t6 (by simpa using g), fun g => by rw [eval_put_ne _ _ _ _ (by decide)]; exact S.t7 (by simpa using g), fun g => by rw [eval_put_ne _ _ _ _ (by decide)]; exact S.t8 (by simpa using g), fun g => by rw [eval_put_ne _ _ _ _ (by decide)]; exact S.t9 (by simpa using g), fun g => by rw [eval_put_ne _ _ _ _ (by decide)]; exact S.t10 (by simpa using g), fun g => by rw [eval_put_ne _ _ _ _ (by decide)]; exact S.t11 (by simpa using g), fun g => by rw [eval_put_ne _ _ _ _ (by decide)]; exact S.t12 (by simpa using g), fun g => by rw [eval_put_ne _ _ _ _ (by decide)]; exact S.t13 (by simpa using g), fun g => by rw [eval_put_ne _ _ _ _ (by decide)]; exact S.t14 (by simpa using g), fun _ => (eval_put _ _ _ (by omega)).trans rfl, fun g => by rw [eval_put_ne _ _ _ _ (by decide)]; exact S.t16 (by simpa using g), fun g => by rw [eval_put_ne _ _ _ _ (by decide)]; exact S.t17 (by simpa using g), fun g => by rw [eval_put_ne _ _ _ _ (by decide)]; exact S.t18 (by simpa using g)⟩
    | 16, _, ho, hsi, hT =>
      obtain ⟨e1, e2⟩ := pick_of h16 ho
      have BW := S.before
      refine step_val (v := .pointer (some ⟨X, 4, none⟩)) (by simp only [execOp, e1, y1]; go_simp) (hK _ _ ?_)
      rw [e2]
      exact ⟨S.off.put (by decide) _, S.before, fun g => by rw [eval_put_ne _ _ _ _ (by decide)]; exact S.t0 (by simpa using g), fun g => by rw [eval_put_ne _ _ _ _ (by decide)]; exact S.t1 (by simpa using g), fun g => by rw [eval_put_ne _ _ _ _ (by decide)]; exact S.t2 (by simpa using g), fun g => by rw [eval_put_ne _ _ _ _ (by decide)]; exact S.t3 (by simpa using g), fun g => by rw [eval_put_ne _ _ _ _ (by decide)]; exact S.t4 (by simpa using g), fun g => by rw [eval_put_ne _ _ _ _ (by decide)]; exact S.t5 (by simpa using g), fun g => by rw [eval_put_ne _ _ _ _ (by decide)]; exact S.t6 (by simpa using g), fun g => by rw [eval_put_ne _ _ _ _ (by decide)]; exact S.t7 (by simpa using g), fun g => by rw [eval_put_ne _ _ _ _ (by decide)]; exact S.t8 (by simpa using g), fun g => by rw [eval_put_ne _ _ _ _ (by decide)]; exact S.t9 (by simpa using g), fun g => by rw [eval_put_ne _ _ _ _ (by decide)]; exact S.t10 (by simpa using g), fun g => by rw [eval_put_ne _ _ _ _ (by decide)]; exact S.t11 (by simpa using g), fun g => by rw [eval_put_ne _ _ _ _ (by decide)]; exact S.t12 (by simpa using g), fun g => by rw [eval_put_ne _ _ _ _ (by decide)]; exact S.t13 (by simpa using g), fun g => by rw [eval_put_ne _ _ _ _ (by decide)]; exact S.t14 (by simpa using g), fun g => by rw [eval_put_ne _ _ _ _ (by decide)]; exact S.t15 (by simpa using g), fun _ => (eval_put _ _ _ (by omega)).trans rfl, fun g => by rw [eval_put_ne _ _ _ _ (by decide)]; exact S.t17 (by simpa using g), fun g => by rw [eval_put_ne _ _ _ _ (by decide)]; exact S.t18 (by simpa using g)⟩
    | 17, _, ho, hsi, hT =>
      obtain ⟨e1, e2⟩ := pick_of h17 ho
      have D16 : s 16 = true := list_pos hT (d := 16) (by decide)
      have BW := S.before
      have cl := (BW.cell (p := ⟨X, 4, none⟩) lX).trans c4
      refine step_val (v := .string da) (by simp only [execOp, e1, S.t16 D16]; go_simp) (hK _ _ ?_)
      rw [e2]
      exact ⟨S.off.put (by decide) _, S.before, fun g => by rw [eval_put_ne _ _ _ _ (by decide)]; exact S.t0 (by simpa using g), fun g => by rw [eval_put_ne _ _ _ _ (by decide)]; exact S.t1 (by simpa using g), fun g => by rw [eval_put_ne _ _ _ _ (by decide)]; exact S.t2 (by simpa using g), fun g => by rw [eval_put_ne _ _ _ _ (by decide)]; exact S.t3 (by simpa using g), fun g => by rw [eval_put_ne _ _ _ _ (by decide)]; exact S.t4 (by simpa using g), fun g => by rw [eval_put_ne _ _ _ _ (by decide)]; exact S.t5 (by simpa using g), fun g => by rw [eval_put_ne _ _ _ _ (by decide)]; exact S.t6 (by simpa using g), fun g => by rw [eval_put_ne _ _ _ _ (by decide)]; exact S.t7 (by simpa using g), fun g => by rw [eval_put_ne _ _ _ _ (by decide)]; exact S.t8 (by simpa using g), fun g => by rw [eval_put_ne _ _ _ _ (by decide)]; exact S.t9 (by simpa using g), fun g => by rw [eval_put_ne _ _ _ _ (by decide)]; exact S.t10 (by simpa using g), fun g => by rw [eval_put_ne _ _ _ _ (by decide)]; exact S.t11 (by simpa using g), fun g => by rw [eval_put_ne _ _ _ _ (by decide)]; exact S.t12 (by simpa using g), fun g => by rw [eval_put_ne _ _ _ _ (by decide)]; exact S.t13 (by simpa using g), fun g => by rw [eval_put_ne _ _ _ _ (by decide)]; exact S.t14 (by simpa using g), fun g => by rw [eval_put_ne _ _ _ _ (by decide)]; exact S.t15 (by simpa using g), fun g => by rw [eval_put_ne _ _ _ _ (by decide)]; exact S.t16 (by simpa using g), fun _ => (eval_put _ _ _ (by omega)).trans rfl, fun g => by rw [eval_put_ne _ _ _ _ (by decide)]; exact S.t18 (by simpa using g)⟩
    | 18, _, ho, hsi, hT =>
      obtain ⟨e1, e2⟩ := pick_of h18 ho
      have D15 : s 15 = true := list_pos hT (d := 15) (by decide)
      have D17 : s 17 = true := list_pos hT (d := 17) (by decide)
      have BW := S.before
      refine step_val (v := .string R) (by simp only [execOp, e1, S.t15 D15, S.t17 D17]; go_simp; omega) (hK _ _ ?_)
      rw [e2]
      exact ⟨S.off.put (by decide) _, S.before, fun g => by rw [eval_put_ne _ _ _ _ (by decide)]; exact S.t0 (by simpa using g), fun g => by rw [eval_put_ne _ _ _ _ (by decide)]; exact S.t1 (by simpa using g), fun g => by rw [eval_put_ne _ _ _ _ (by decide)]; exact S.t2 (by simpa using g), fun g => by rw [eval_put_ne _ _ _ _ (by decide)]; exact S.t3 (by simpa using g), fun g => by rw [eval_put_ne _ _ _ _ (by decide)]; exact S.t4 (by simpa using g), fun g => by rw [eval_put_ne _ _ _ _ (by decide)]; exact S.t5 (by simpa using g), fun g => by rw [eval_put_ne _ _ _ _ (by decide)]; exact S.t6 (by simpa using g), fun g => by rw [eval_put_ne _ _ _ _ (by decide)]; exact S.t7 (by simpa using g), fun g => by rw [eval_put_ne _ _ _ _ (by decide)]; exact S.t8 (by simpa using g), fun g => by rw [eval_put_ne _ _ _ _ (by decide)]; exact S.t9 (by simpa using g), fun g => by rw [eval_put_ne _ _ _ _ (by decide)]; exact S.t10 (by simpa using g), fun g => by rw [eval_put_ne _ _ _ _ (by decide)]; exact S.t11 (by simpa using g), fun g => by rw [eval_put_ne _ _ _ _ (by decide)]; exact S.t12 (by simpa using g), fun g => by rw [eval_put_ne _ _ _ _ (by decide)]; exact S.t13 (by simpa using g), fun g => by rw [eval_put_ne _ _ _ _ (by decide)]; exact S.t14 (by simpa using g), fun g => by rw [eval_put_ne _ _ _ _ (by decide)]; exact S.t15 (by simpa using g), fun g => by rw [eval_put_ne _ _ _ _ (by decide)]; exact S.t16 (by simpa using g), fun g => by rw [eval_put_ne _ _ _ _ (by decide)]; exact S.t17 (by simpa using g), fun _ => (eval_put _ _ _ (by omega)).trans rfl⟩
    | _ + 19, il, _, _, _ => exact absurd il (by omega)
  · intro s a w' S hall
    have a0 := hall 0 (by omega)
    have a1 := hall 1 (by omega)
    have a2 := hall 2 (by omega)
    have a3 := hall 3 (by omega)
    have a4 := hall 4 (by omega)
    have a5 := hall 5 (by omega)
    have a6 := hall 6 (by omega)
    have a7 := hall 7 (by omega)
    have a8 := hall 8 (by omega)
    have a9 := hall 9 (by omega)
    have a10 := hall 10 (by omega)
    have a11 := hall 11 (by omega)
    have a12 := hall 12 (by omega)
    have a13 := hall 13 (by omega)
    have a14 := hall 14 (by omega)
    have a15 := hall 15 (by omega)
    have a16 := hall 16 (by omega)
    have a17 := hall 17 (by omega)
    have a18 := hall 18 (by omega)
    have e := off_norm _ (by intro d hd; simp at hd; omega) S.off
    simp only [List.foldl, S.t0 a0, S.t1 a1, S.t2 a2, S.t3 a3, S.t4 a4, S.t5 a5, S.t6 a6, S.t7 a7, S.t8 a8, S.t9 a9, S.t10 a10, S.t11 a11, S.t12 a12, S.t13 a13, S.t14 a14, S.t15 a15, S.t16 a16, S.t17 a17, S.t18 a18] at e
    rw [e]
    exact h _ S.before
end Go.Proofs.Ytphkaambodecdaa
