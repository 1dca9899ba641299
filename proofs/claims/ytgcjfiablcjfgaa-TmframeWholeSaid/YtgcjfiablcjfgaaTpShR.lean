/- TpShR -/
import Derived.Test.YtgcjfiablcjfgaaTpNext
import Derived.Test.YtgcjfiablcjfgaaRegHF
/- Layer 10's laws: filled, made, and what shown asks. -/
namespace Go.Proofs.Ytgcjfiablcjfgaa
open Go.RowKit
set_option linter.unusedVariables false
set_option maxRecDepth 100000

/-- So many bytes 0. -/
def zs (n : Nat) : ByteArray := bs (Fld.zeros n)
theorem zs_size (n : Nat) : (zs n).size = n := by
  unfold zs
  rw [bs_size]
  simp [Fld.zeros]
set_option maxHeartbeats 4000000 in
theorem lfilled_any (n : Nat) (h : n ≤ 2000) (w : World) : Calls Try.prog 29 #[.int .i64 (n : Nat)] w fun e w' => e = .returned (.string (zs n)) ∧ Below w.heap.size w w' := by
  obtain ⟨i0, hi, hz0, hz1, hz2⟩ := info_parts f2_info_u8
  go_enter Try.func29, Try.ntmps29
  go_wp2_with (at_make; refine wpList_make_full _ rfl _ _ 40 rfl w.heap.size 5 i0 (.int .u8 0) 1 Try.underlying40 hi hz0 hz1 .i64 .i64 _ _ n rfl rfl (by first | rfl | omega) (by first | rfl | omega) (by rw [hz2]; omega) (by unfold maxLen; omega) (Nat.le_refl _) ?_; intro w2 hown hgrow; have CV := back_bytes w2 w.heap.size n (Fld.zeros n) (holds_made hown (fun j hj => made_zero n j hj)); have B2 : Below w.heap.size w w2 := (Below.refl _ _).grown hgrow (Nat.le_refl _) (fun k e => by cases e); rw [show (Fld.zeros n).length = n by simp [Fld.zeros]] at CV)
  go_ret
  exact ⟨rfl, B2⟩
/-- The packet of n bytes. -/
def mkP (n : Nat) : Pkt := ⟨false, 3, 3, 0, zs (n - 6)⟩
theorem mkP_ok (n : Nat) (h1 : 7 ≤ n) (h2 : n ≤ 1030) : Pk.Ok (mkP n) := by
  refine ⟨⟨by show (0 : Int) ≤ 3; decide, by show (3 : Int) ≤ 2047; decide⟩, ⟨by show (0 : Int) ≤ 3; decide, by show (3 : Int) ≤ 3; decide⟩, ⟨by show (0 : Int) ≤ 0; decide, by show (0 : Int) ≤ 16383; decide⟩, ?_, ?_⟩
  · show 1 ≤ (zs (n - 6)).size
    rw [zs_size]; omega
  · show (zs (n - 6)).size ≤ 1024
    rw [zs_size]; omega
/-- Its encoding. -/
def mk (n : Nat) : List UInt8 := Pk.enc (mkP n)
theorem mk_len (n : Nat) (h : 7 ≤ n) : (mk n).length = n := by
  unfold mk
  rw [Pk.enc_len]
  show 6 + (zs (n - 6)).size = n
  rw [zs_size]; omega
theorem mk_gt (n : Nat) (h1 : 7 ≤ n) (h2 : n ≤ 1030) : Pk.gt (mk n) = (mkP n, 0) := by
  have t := Pk.take_enc (mkP_ok n h1 h2) []
  rw [List.append_nil] at t
  unfold Pk.gt mk
  rw [t]
  simp
theorem mk_busy (n : Nat) (h1 : 7 ≤ n) (h2 : n ≤ 1030) : Pk.busy (mk n) = true := by
  unfold Pk.busy
  rw [mk_gt n h1 h2]
  exact decide_eq_true ⟨rfl, by show (3 : Int) ≠ 2047; decide⟩
set_option maxHeartbeats 4000000 in
theorem lmade_any (n : Nat) (h1 : 7 ≤ n) (h2 : n ≤ 1030) (w : World) : Calls Try.prog 18 #[.int .i64 (n : Nat)] w fun e w' => e = .returned (.string (bs (mk n))) ∧ Below w.heap.size w w' := by
  obtain ⟨m, hm⟩ : ∃ m, n - 6 = m := ⟨_, rfl⟩
  have e1 : IntKind.i64.wrap ((n : Int) - 6) = (m : Int) := by rw [IntKind.wrap_i64]; omega
  have FL := Lib.hid (fun w => lfilled_any m (by omega) w)
  have PU := Lib.hid (fun w => pput_any (mkP n) (by show (zs (n - 6)).size ≤ maxLen; rw [zs_size]; unfold maxLen; omega) w)
  rw [if_pos (mkP_ok n h1 h2)] at PU
  unfold mkP pkVal at PU
  rw [hm] at PU
  simp only at PU
  have HM := Lib.hid (show Pk.enc ⟨false, 3, 3, 0, zs m⟩ = mk n by unfold mk mkP; rw [hm])
  rw [HM.out] at PU
  obtain ⟨z, hz⟩ : ∃ z, zs m = z := ⟨_, rfl⟩
  rw [hz] at FL PU
  clear hm HM hz
  go_enter Try.func18, Try.ntmps18
  go_wp2_with fail
  (with_reducible refine (FL.out _).mono ?_)
  rintro e w2 ⟨rfl, h2⟩
  have B2 := Lib.hid h2
  clear h2
  go_wp2_with fail
  (refine (PU.out _).mono ?_)
  rintro e w3 ⟨rfl, h3⟩
  have B3 := Lib.hid (bt B2.out h3)
  clear h3
  go_wp2_with fail
  go_ret
  exact ⟨rfl, B3.out⟩
end Go.Proofs.Ytgcjfiablcjfgaa
/- Layer 10's laws: shown is true. -/
namespace Go.Proofs.Ytgcjfiablcjfgaa
open Go.RowKit
set_option linter.unusedVariables false
set_option maxRecDepth 100000

structure TshRegion (X : Nat) (A1 A2 p30 p9 p7 : ByteArray) (A : Act) (w0 : World) (s : Nat → Bool) (a : Act) (w : World) : Prop where
  off : Off [88, 89, 90, 91, 92, 93, 94, 95, 96, 97, 98, 99, 100, 101, 102, 103, 104, 105, 106, 107, 108, 109, 110, 111, 112, 113, 114, 115, 116, 117, 118, 119, 120, 121, 122, 123, 124, 125, 126, 127, 128, 129, 130, 131] a A
  before : Below w0.heap.size w0 w
  t0 : s 0 = true → a.eval (.tmp 88) = .string A1
  t1 : s 1 = true → a.eval (.tmp 89) = .int .i64 32
  t2 : s 2 = true → a.eval (.tmp 90) = .bool true
  t3 : s 3 = true → a.eval (.tmp 91) = .bool true
  t4 : s 4 = true → a.eval (.tmp 92) = .string A1
  t5 : s 5 = true → a.eval (.tmp 93) = .string p30
  t6 : s 6 = true → a.eval (.tmp 94) = .string p30
  t7 : s 7 = true → a.eval (.tmp 95) = .bool true
  t8 : s 8 = true → a.eval (.tmp 96) = .bool true
  t9 : s 9 = true → a.eval (.tmp 97) = .bool true
  t10 : s 10 = true → a.eval (.tmp 98) = .int .i64 0
  t11 : s 11 = true → a.eval (.tmp 99) = .bool true
  t12 : s 12 = true → a.eval (.tmp 100) = .bool true
  t13 : s 13 = true → a.eval (.tmp 101) = .bool true
  t14 : s 14 = true → a.eval (.tmp 102) = .bool true
  t15 : s 15 = true → a.eval (.tmp 103) = .bool true
  t16 : s 16 = true → a.eval (.tmp 104) = .bool true
  t17 : s 17 = true → a.eval (.tmp 105) = .string A2
  t18 : s 18 = true → a.eval (.tmp 106) = .int .i64 32
  t19 : s 19 = true → a.eval (.tmp 107) = .bool true
  t20 : s 20 = true → a.eval (.tmp 108) = .bool true
  t21 : s 21 = true → a.eval (.tmp 109) = .bool true
  t22 : s 22 = true → a.eval (.tmp 110) = .string A2
  t23 : s 23 = true → a.eval (.tmp 111) = .string p7
  t24 : s 24 = true → a.eval (.tmp 112) = .string p9
  t25 : s 25 = true → a.eval (.tmp 113) = .string p7
  t26 : s 26 = true → a.eval (.tmp 114) = .bool true
  t27 : s 27 = true → a.eval (.tmp 115) = .bool true
  t28 : s 28 = true → a.eval (.tmp 116) = .bool true
  t29 : s 29 = true → a.eval (.tmp 117) = .int .i64 7
  t30 : s 30 = true → a.eval (.tmp 118) = .bool true
  t31 : s 31 = true → a.eval (.tmp 119) = .bool true
  t32 : s 32 = true → a.eval (.tmp 120) = .bool true
  t33 : s 33 = true → a.eval (.tmp 121) = .bool true
  t34 : s 34 = true → a.eval (.tmp 122) = .bool true
  t35 : s 35 = true → a.eval (.tmp 123) = .bool true
  t36 : s 36 = true → a.eval (.tmp 124) = .bool false
  t37 : s 37 = true → a.eval (.tmp 125) = .bool true
  t38 : s 38 = true → a.eval (.tmp 126) = .bool true
  t39 : s 39 = true → a.eval (.tmp 127) = .bool true
  t40 : s 40 = true → a.eval (.tmp 128) = .pointer (some ⟨X, 0, none⟩)
  t41 : s 41 = true → a.eval (.tmp 129) = .int .i64 0
  t42 : s 42 = true → a.eval (.tmp 130) = .bool true
  t43 : s 43 = true → a.eval (.tmp 131) = .bool true
set_option maxHeartbeats 2000000 in
set_option maxRecDepth 100000 in
theorem tshRegion {id : Nat} {l : List Oper} {A : Act} {w : World} {Q : Exit → Act → World → Prop} (X : Nat) (A1 A2 p30 p9 p7 : ByteArray)
    (l1 : A1.size = 32) (l2 : A2.size = 32) (e1s : A1.extract 0 30 = p30) (e2s : A2.extract 0 7 = p7) (l9 : p9.size = 9) (e3s : p9.extract 2 9 = p7) (b30 : (p30 == p30) = true) (b7 : (p7 == p7) = true)
    (HM30 : ∀ w, Calls Try.prog 18 #[.int .i64 30] w (fun e w' => e = .returned (.string p30) ∧ Below w.heap.size w w')) (HM9 : ∀ w, Calls Try.prog 18 #[.int .i64 9] w (fun e w' => e = .returned (.string p9) ∧ Below w.heap.size w w'))
    (HW : ∀ w', Below w.heap.size w w' → Calls Try.prog 19 #[.pointer (some ⟨X, 0, none⟩)] w' (fun e w2 => e = .returned (.int .i64 0) ∧ Below w'.heap.size w' w2))
    (hB : tableHG l.toArray 44 (fun i => match i with | 0 => [] | 1 => [0] | 2 => [1] | 3 => [2] | 4 => [3] | 5 => [3, 4] | 6 => [3] | 7 => [3, 5, 6] | 8 => [3, 7] | 9 => [8] | 10 => [9] | 11 => [9, 10] | 12 => [9, 11] | 13 => [12] | 14 => [13] | 15 => [13, 14] | 16 => [15] | 17 => [16] | 18 => [16, 17] | 19 => [16, 18] | 20 => [16, 19] | 21 => [20] | 22 => [21] | 23 => [21, 22] | 24 => [21] | 25 => [21, 24] | 26 => [21, 23, 25] | 27 => [21, 26] | 28 => [27] | 29 => [28] | 30 => [28, 29] | 31 => [28, 30] | 32 => [31] | 33 => [32] | 34 => [32, 33] | 35 => [34] | 36 => [35] | 37 => [35, 36] | 38 => [35, 37] | 39 => [38] | 40 => [39] | 41 => [39, 40] | 42 => [39, 41] | 43 => [39, 42] | _ => []) (fun _ => []) = true)
    (h0 : pick l 0 = some (.move (.tmp 7), some 88))
    (h1 : pick l 1 = some (.call { callee := .builtin .len, args := #[.tmp 88], argTypes := #[9] }, some 89))
    (h2 : pick l 2 = some (.binOp .eql 3 (.tmp 89) (.const (.int .i64 32)) 3, some 90))
    (h3 : pick l 3 = some (.move (.tmp 90), some 91))
    (h4 : pick l 4 = some (.move (.tmp 7), some 92))
    (h5 : pick l 5 = some (.slice 9 (.tmp 92) none (some (.const (.int .i64 30))) none, some 93))
    (h6 : pick l 6 = some (.call { callee := .value (.func 18), args := #[.const (.int .i64 30)], argTypes := #[3] }, some 94))
    (h7 : pick l 7 = some (.binOp .eql 9 (.tmp 93) (.tmp 94) 9, some 95))
    (h8 : pick l 8 = some (.pick (.tmp 91) (.tmp 95) (.const (.bool false)), some 96))
    (h9 : pick l 9 = some (.move (.tmp 96), some 97))
    (h10 : pick l 10 = some (.move (.tmp 8), some 98))
    (h11 : pick l 11 = some (.binOp .eql 3 (.tmp 98) (.const (.int .i64 0)) 3, some 99))
    (h12 : pick l 12 = some (.pick (.tmp 97) (.tmp 99) (.const (.bool false)), some 100))
    (h13 : pick l 13 = some (.move (.tmp 100), some 101))
    (h14 : pick l 14 = some (.move (.tmp 9), some 102))
    (h15 : pick l 15 = some (.pick (.tmp 101) (.tmp 102) (.const (.bool false)), some 103))
    (h16 : pick l 16 = some (.move (.tmp 103), some 104))
    (h17 : pick l 17 = some (.move (.tmp 10), some 105))
    (h18 : pick l 18 = some (.call { callee := .builtin .len, args := #[.tmp 105], argTypes := #[9] }, some 106))
    (h19 : pick l 19 = some (.binOp .eql 3 (.tmp 106) (.const (.int .i64 32)) 3, some 107))
    (h20 : pick l 20 = some (.pick (.tmp 104) (.tmp 107) (.const (.bool false)), some 108))
    (h21 : pick l 21 = some (.move (.tmp 108), some 109))
    (h22 : pick l 22 = some (.move (.tmp 10), some 110))
    (h23 : pick l 23 = some (.slice 9 (.tmp 110) none (some (.const (.int .i64 7))) none, some 111))
    (h24 : pick l 24 = some (.call { callee := .value (.func 18), args := #[.const (.int .i64 9)], argTypes := #[3] }, some 112))
    (h25 : pick l 25 = some (.slice 9 (.tmp 112) (some (.const (.int .i64 2))) none none, some 113))
    (h26 : pick l 26 = some (.binOp .eql 9 (.tmp 111) (.tmp 113) 9, some 114))
    (h27 : pick l 27 = some (.pick (.tmp 109) (.tmp 114) (.const (.bool false)), some 115))
    (h28 : pick l 28 = some (.move (.tmp 115), some 116))
    (h29 : pick l 29 = some (.move (.tmp 11), some 117))
    (h30 : pick l 30 = some (.binOp .eql 3 (.tmp 117) (.const (.int .i64 7)) 3, some 118))
    (h31 : pick l 31 = some (.pick (.tmp 116) (.tmp 118) (.const (.bool false)), some 119))
    (h32 : pick l 32 = some (.move (.tmp 119), some 120))
    (h33 : pick l 33 = some (.move (.tmp 12), some 121))
    (h34 : pick l 34 = some (.pick (.tmp 120) (.tmp 121) (.const (.bool false)), some 122))
    (h35 : pick l 35 = some (.move (.tmp 122), some 123))
    (h36 : pick l 36 = some (.move (.tmp 15), some 124))
    (h37 : pick l 37 = some (.unOp .not 4 (.tmp 124), some 125))
    (h38 : pick l 38 = some (.pick (.tmp 123) (.tmp 125) (.const (.bool false)), some 126))
    (h39 : pick l 39 = some (.move (.tmp 126), some 127))
    (h40 : pick l 40 = some (.move (.tmp 5), some 128))
    (h41 : pick l 41 = some (.call { callee := .value (.func 19), args := #[.tmp 128], argTypes := #[34] }, some 129))
    (h42 : pick l 42 = some (.binOp .eql 3 (.tmp 129) (.const (.int .i64 0)) 3, some 130))
    (h43 : pick l 43 = some (.pick (.tmp 127) (.tmp 130) (.const (.bool false)), some 131))
    (gd0 : pickG l 0 = some (none))
    (gd1 : pickG l 1 = some (none))
    (gd2 : pickG l 2 = some (none))
    (gd3 : pickG l 3 = some (none))
    (gd4 : pickG l 4 = some (some (3, true)))
    (gd5 : pickG l 5 = some (some (3, true)))
    (gd6 : pickG l 6 = some (some (3, true)))
    (gd7 : pickG l 7 = some (some (3, true)))
    (gd8 : pickG l 8 = some (none))
    (gd9 : pickG l 9 = some (none))
    (gd10 : pickG l 10 = some (some (9, true)))
    (gd11 : pickG l 11 = some (some (9, true)))
    (gd12 : pickG l 12 = some (none))
    (gd13 : pickG l 13 = some (none))
    (gd14 : pickG l 14 = some (some (13, true)))
    (gd15 : pickG l 15 = some (none))
    (gd16 : pickG l 16 = some (none))
    (gd17 : pickG l 17 = some (some (16, true)))
    (gd18 : pickG l 18 = some (some (16, true)))
    (gd19 : pickG l 19 = some (some (16, true)))
    (gd20 : pickG l 20 = some (none))
    (gd21 : pickG l 21 = some (none))
    (gd22 : pickG l 22 = some (some (21, true)))
    (gd23 : pickG l 23 = some (some (21, true)))
    (gd24 : pickG l 24 = some (some (21, true)))
    (gd25 : pickG l 25 = some (some (21, true)))
    (gd26 : pickG l 26 = some (some (21, true)))
    (gd27 : pickG l 27 = some (none))
    (gd28 : pickG l 28 = some (none))
    (gd29 : pickG l 29 = some (some (28, true)))
    (gd30 : pickG l 30 = some (some (28, true)))
    (gd31 : pickG l 31 = some (none))
    (gd32 : pickG l 32 = some (none))
    (gd33 : pickG l 33 = some (some (32, true)))
    (gd34 : pickG l 34 = some (none))
    (gd35 : pickG l 35 = some (none))
    (gd36 : pickG l 36 = some (some (35, true)))
    (gd37 : pickG l 37 = some (some (35, true)))
    (gd38 : pickG l 38 = some (none))
    (gd39 : pickG l 39 = some (none))
    (gd40 : pickG l 40 = some (some (39, true)))
    (gd41 : pickG l 41 = some (some (39, true)))
    (gd42 : pickG l 42 = some (some (39, true)))
    (gd43 : pickG l 43 = some (none))
    (hs : A.tmps.size = 132)
    (x5 : A.eval (.tmp 5) = .pointer (some ⟨X, 0, none⟩))
    (x7 : A.eval (.tmp 7) = .string A1)
    (x8 : A.eval (.tmp 8) = .int .i64 0)
    (x9 : A.eval (.tmp 9) = .bool true)
    (x10 : A.eval (.tmp 10) = .string A2)
    (x11 : A.eval (.tmp 11) = .int .i64 7)
    (x12 : A.eval (.tmp 12) = .bool true)
    (x15 : A.eval (.tmp 15) = .bool false)
    (h : ∀ w1, Below w.heap.size w w1 → wpList Try.prog l.toArray Q (l.drop 44) ((((((((((((((((((((((((((((((((((((((((((((A.put (some 88) (.string A1)).put (some 89) (.int .i64 32)).put (some 90) (.bool true)).put (some 91) (.bool true)).put (some 92) (.string A1)).put (some 93) (.string p30)).put (some 94) (.string p30)).put (some 95) (.bool true)).put (some 96) (.bool true)).put (some 97) (.bool true)).put (some 98) (.int .i64 0)).put (some 99) (.bool true)).put (some 100) (.bool true)).put (some 101) (.bool true)).put (some 102) (.bool true)).put (some 103) (.bool true)).put (some 104) (.bool true)).put (some 105) (.string A2)).put (some 106) (.int .i64 32)).put (some 107) (.bool true)).put (some 108) (.bool true)).put (some 109) (.bool true)).put (some 110) (.string A2)).put (some 111) (.string p7)).put (some 112) (.string p9)).put (some 113) (.string p7)).put (some 114) (.bool true)).put (some 115) (.bool true)).put (some 116) (.bool true)).put (some 117) (.int .i64 7)).put (some 118) (.bool true)).put (some 119) (.bool true)).put (some 120) (.bool true)).put (some 121) (.bool true)).put (some 122) (.bool true)).put (some 123) (.bool true)).put (some 124) (.bool false)).put (some 125) (.bool true)).put (some 126) (.bool true)).put (some 127) (.bool true)).put (some 128) (.pointer (some ⟨X, 0, none⟩))).put (some 129) (.int .i64 0)).put (some 130) (.bool true)).put (some 131) (.bool true)) w1) :
    (Code.region id l.toArray true).wp Try.prog Q A w := by
  refine wp_region_headG (by kernel_rfl) _ _ _ hB (TshRegion X A1 A2 p30 p9 p7 A w) ⟨Off.refl _ _, (Below.refl _ _).drew, by simp, by simp, by simp, by simp, by simp, by simp, by simp, by simp, by simp, by simp, by simp, by simp, by simp, by simp, by simp, by simp, by simp, by simp, by simp, by simp, by simp, by simp, by simp, by simp, by simp, by simp, by simp, by simp, by simp, by simp, by simp, by simp, by simp, by simp, by simp, by simp, by simp, by simp, by simp, by simp, by simp, by simp, by simp, by simp⟩ ?_ ?_
  · intro s a w' S i' o il ho hsi hT
    have sz : a.tmps.size = 132 := by rw [S.off.2.1]; exact hs
    have y5 : a.eval (.tmp 5) = .pointer (some ⟨X, 0, none⟩) := by rw [S.off.eval (by decide)]; exact x5
    have y7 : a.eval (.tmp 7) = .string A1 := by rw [S.off.eval (by decide)]; exact x7
    have y8 : a.eval (.tmp 8) = .int .i64 0 := by rw [S.off.eval (by decide)]; exact x8
    have y9 : a.eval (.tmp 9) = .bool true := by rw [S.off.eval (by decide)]; exact x9
    have y10 : a.eval (.tmp 10) = .string A2 := by rw [S.off.eval (by decide)]; exact x10
    have y11 : a.eval (.tmp 11) = .int .i64 7 := by rw [S.off.eval (by decide)]; exact x11
    have y12 : a.eval (.tmp 12) = .bool true := by rw [S.off.eval (by decide)]; exact x12
    have y15 : a.eval (.tmp 15) = .bool false := by rw [S.off.eval (by decide)]; exact x15
    match i', il, ho, hsi, hT with
    | 0, _, ho, hsi, hT =>
      obtain ⟨e1, e2⟩ := pick_of h0 ho
      refine ⟨wanted_open gd0 ho a, fun K hK => ?_⟩
      have BW := S.before
      refine step_val (v := .string A1) (by simp only [execOp, e1, y7]; go_simp) (hK _ _ ?_)
      rw [e2]
      exact ⟨S.off.put (by decide) _, S.before, fun _ => (eval_put _ _ _ (by omega)).trans rfl, kp S.t1, kp S.t2, kp S.t3, kp S.t4, kp S.t5, kp S.t6, kp S.t7, kp S.t8, kp S.t9, kp S.t10, kp S.t11, kp S.t12, kp S.t13, kp S.t14, kp S.t15, kp S.t16, kp S.t17, kp S.t18, kp S.t19, kp S.t20, kp S.t21, kp S.t22, kp S.t23, kp S.t24, kp S.t25, kp S.t26, kp S.t27, kp S.t28, kp S.t29, kp S.t30, kp S.t31, kp S.t32, kp S.t33, kp S.t34, kp S.t35, kp S.t36, kp S.t37, kp S.t38, kp S.t39, kp S.t40, kp S.t41, kp S.t42, kp S.t43⟩
    | 1, _, ho, hsi, hT =>
      obtain ⟨e1, e2⟩ := pick_of h1 ho
      have D0 : s 0 = true := list_pos hT (d := 0) (by decide)
      refine ⟨wanted_open gd1 ho a, fun K hK => ?_⟩
      have BW := S.before
      have q88 : a.tmps[88]'(by omega) = .string A1 := by have := S.t0 D0; simpa [Act.eval, sz] using this
      refine step_val (v := .int .i64 32) (by simp only [execOp, e1]; go_simp) (hK _ _ ?_)
      rw [e2]
      exact ⟨S.off.put (by decide) _, S.before, kp S.t0, fun _ => (eval_put _ _ _ (by omega)).trans rfl, kp S.t2, kp S.t3, kp S.t4, kp S.t5, kp S.t6, kp S.t7, kp S.t8, kp S.t9, kp S.t10, kp S.t11, kp S.t12, kp S.t13, kp S.t14, kp S.t15, kp S.t16, kp S.t17, kp S.t18, kp S.t19, kp S.t20, kp S.t21, kp S.t22, kp S.t23, kp S.t24, kp S.t25, kp S.t26, kp S.t27, kp S.t28, kp S.t29, kp S.t30, kp S.t31, kp S.t32, kp S.t33, kp S.t34, kp S.t35, kp S.t36, kp S.t37, kp S.t38, kp S.t39, kp S.t40, kp S.t41, kp S.t42, kp S.t43⟩
    | 2, _, ho, hsi, hT =>
      obtain ⟨e1, e2⟩ := pick_of h2 ho
      have D1 : s 1 = true := list_pos hT (d := 1) (by decide)
      refine ⟨wanted_open gd2 ho a, fun K hK => ?_⟩
      have BW := S.before
      refine step_val (v := .bool true) (by simp only [execOp, e1, S.t1 D1]; go_simp) (hK _ _ ?_)
      rw [e2]
      exact ⟨S.off.put (by decide) _, S.before, kp S.t0, kp S.t1, fun _ => (eval_put _ _ _ (by omega)).trans rfl, kp S.t3, kp S.t4, kp S.t5, kp S.t6, kp S.t7, kp S.t8, kp S.t9, kp S.t10, kp S.t11, kp S.t12, kp S.t13, kp S.t14, kp S.t15, kp S.t16, kp S.t17, kp S.t18, kp S.t19, kp S.t20, kp S.t21, kp S.t22, kp S.t23, kp S.t24, kp S.t25, kp S.t26, kp S.t27, kp S.t28, kp S.t29, kp S.t30, kp S.t31, kp S.t32, kp S.t33, kp S.t34, kp S.t35, kp S.t36, kp S.t37, kp S.t38, kp S.t39, kp S.t40, kp S.t41, kp S.t42, kp S.t43⟩
    | 3, _, ho, hsi, hT =>
      obtain ⟨e1, e2⟩ := pick_of h3 ho
      have D2 : s 2 = true := list_pos hT (d := 2) (by decide)
      refine ⟨wanted_open gd3 ho a, fun K hK => ?_⟩
      have BW := S.before
      refine step_val (v := .bool true) (by simp only [execOp, e1, S.t2 D2]; go_simp) (hK _ _ ?_)
      rw [e2]
      exact ⟨S.off.put (by decide) _, S.before, kp S.t0, kp S.t1, kp S.t2, fun _ => (eval_put _ _ _ (by omega)).trans rfl, kp S.t4, kp S.t5, kp S.t6, kp S.t7, kp S.t8, kp S.t9, kp S.t10, kp S.t11, kp S.t12, kp S.t13, kp S.t14, kp S.t15, kp S.t16, kp S.t17, kp S.t18, kp S.t19, kp S.t20, kp S.t21, kp S.t22, kp S.t23, kp S.t24, kp S.t25, kp S.t26, kp S.t27, kp S.t28, kp S.t29, kp S.t30, kp S.t31, kp S.t32, kp S.t33, kp S.t34, kp S.t35, kp S.t36, kp S.t37, kp S.t38, kp S.t39, kp S.t40, kp S.t41, kp S.t42, kp S.t43⟩
    | 4, _, ho, hsi, hT =>
      obtain ⟨e1, e2⟩ := pick_of h4 ho
      have D3 : s 3 = true := list_pos hT (d := 3) (by decide)
      refine ⟨wanted_yes gd4 ho h3 (S.t3 D3), fun K hK => ?_⟩
      have BW := S.before
      refine step_val (v := .string A1) (by simp only [execOp, e1, y7]; go_simp) (hK _ _ ?_)
      rw [e2]
      exact ⟨S.off.put (by decide) _, S.before, kp S.t0, kp S.t1, kp S.t2, kp S.t3, fun _ => (eval_put _ _ _ (by omega)).trans rfl, kp S.t5, kp S.t6, kp S.t7, kp S.t8, kp S.t9, kp S.t10, kp S.t11, kp S.t12, kp S.t13, kp S.t14, kp S.t15, kp S.t16, kp S.t17, kp S.t18, kp S.t19, kp S.t20, kp S.t21, kp S.t22, kp S.t23, kp S.t24, kp S.t25, kp S.t26, kp S.t27, kp S.t28, kp S.t29, kp S.t30, kp S.t31, kp S.t32, kp S.t33, kp S.t34, kp S.t35, kp S.t36, kp S.t37, kp S.t38, kp S.t39, kp S.t40, kp S.t41, kp S.t42, kp S.t43⟩
    | 5, _, ho, hsi, hT =>
      obtain ⟨e1, e2⟩ := pick_of h5 ho
      have D3 : s 3 = true := list_pos hT (d := 3) (by decide)
      have D4 : s 4 = true := list_pos hT (d := 4) (by decide)
      refine ⟨wanted_yes gd5 ho h3 (S.t3 D3), fun K hK => ?_⟩
      have BW := S.before
      refine step_val (v := .string p30) (by simp only [execOp, e1, Option.map_none, Option.map_some, S.t4 D4]; go_simp <;> first | done | (intro q; omega)) (hK _ _ ?_)
      rw [e2]
      exact ⟨S.off.put (by decide) _, S.before, kp S.t0, kp S.t1, kp S.t2, kp S.t3, kp S.t4, fun _ => (eval_put _ _ _ (by omega)).trans rfl, kp S.t6, kp S.t7, kp S.t8, kp S.t9, kp S.t10, kp S.t11, kp S.t12, kp S.t13, kp S.t14, kp S.t15, kp S.t16, kp S.t17, kp S.t18, kp S.t19, kp S.t20, kp S.t21, kp S.t22, kp S.t23, kp S.t24, kp S.t25, kp S.t26, kp S.t27, kp S.t28, kp S.t29, kp S.t30, kp S.t31, kp S.t32, kp S.t33, kp S.t34, kp S.t35, kp S.t36, kp S.t37, kp S.t38, kp S.t39, kp S.t40, kp S.t41, kp S.t42, kp S.t43⟩
    | 6, _, ho, hsi, hT =>
      obtain ⟨e1, e2⟩ := pick_of h6 ho
      have D3 : s 3 = true := list_pos hT (d := 3) (by decide)
      refine ⟨wanted_yes gd6 ho h3 (S.t3 D3), fun K hK => ?_⟩
      have BW := S.before
      refine step_call 18 (fun args w => by go_simp) _ _ e1 #[.int .i64 30] (by simp only [List.map_toArray, List.map_cons, List.map_nil] <;> rfl) ((HM30 w').mono ?_)
      rintro e w2 ⟨rfl, BB⟩
      refine ⟨_, rfl, hK _ _ ?_⟩
      rw [e2]
      exact ⟨S.off.put (by decide) _, bt BW BB, kp S.t0, kp S.t1, kp S.t2, kp S.t3, kp S.t4, kp S.t5, fun _ => (eval_put _ _ _ (by omega)).trans rfl, kp S.t7, kp S.t8, kp S.t9, kp S.t10, kp S.t11, kp S.t12, kp S.t13, kp S.t14, kp S.t15, kp S.t16, kp S.t17, kp S.t18, kp S.t19, kp S.t20, kp S.t21, kp S.t22, kp S.t23, kp S.t24, kp S.t25, kp S.t26, kp S.t27, kp S.t28, kp S.t29, kp S.t30, kp S.t31, kp S.t32, kp S.t33, kp S.t34, kp S.t35, kp S.t36, kp S.t37, kp S.t38, kp S.t39, kp S.t40, kp S.t41, kp S.t42, kp S.t43⟩
    | 7, _, ho, hsi, hT =>
      obtain ⟨e1, e2⟩ := pick_of h7 ho
      have D3 : s 3 = true := list_pos hT (d := 3) (by decide)
      have D5 : s 5 = true := list_pos hT (d := 5) (by decide)
      have D6 : s 6 = true := list_pos hT (d := 6) (by decide)
      refine ⟨wanted_yes gd7 ho h3 (S.t3 D3), fun K hK => ?_⟩
      have BW := S.before
      refine step_val (v := .bool true) (by simp only [execOp, e1, S.t5 D5, S.t6 D6]; go_simp) (hK _ _ ?_)
      rw [e2]
      exact ⟨S.off.put (by decide) _, S.before, kp S.t0, kp S.t1, kp S.t2, kp S.t3, kp S.t4, kp S.t5, kp S.t6, fun _ => (eval_put _ _ _ (by omega)).trans rfl, kp S.t8, kp S.t9, kp S.t10, kp S.t11, kp S.t12, kp S.t13, kp S.t14, kp S.t15, kp S.t16, kp S.t17, kp S.t18, kp S.t19, kp S.t20, kp S.t21, kp S.t22, kp S.t23, kp S.t24, kp S.t25, kp S.t26, kp S.t27, kp S.t28, kp S.t29, kp S.t30, kp S.t31, kp S.t32, kp S.t33, kp S.t34, kp S.t35, kp S.t36, kp S.t37, kp S.t38, kp S.t39, kp S.t40, kp S.t41, kp S.t42, kp S.t43⟩
    | 8, _, ho, hsi, hT =>
      obtain ⟨e1, e2⟩ := pick_of h8 ho
      have D3 : s 3 = true := list_pos hT (d := 3) (by decide)
      have D7 : s 7 = true := list_pos hT (d := 7) (by decide)
      refine ⟨wanted_open gd8 ho a, fun K hK => ?_⟩
      have BW := S.before
      refine step_val (v := .bool true) (by simp only [execOp, e1, S.t3 D3, S.t7 D7]; go_simp) (hK _ _ ?_)
      rw [e2]
      exact ⟨S.off.put (by decide) _, S.before, kp S.t0, kp S.t1, kp S.t2, kp S.t3, kp S.t4, kp S.t5, kp S.t6, kp S.t7, fun _ => (eval_put _ _ _ (by omega)).trans rfl, kp S.t9, kp S.t10, kp S.t11, kp S.t12, kp S.t13, kp S.t14, kp S.t15, kp S.t16, kp S.t17, kp S.t18, kp S.t19, kp S.t20, kp S.t21, kp S.t22, kp S.t23, kp S.t24, kp S.t25, kp S.t26, kp S.t27, kp S.t28, kp S.t29, kp S.t30, kp S.t31, kp S.t32, kp S.t33, kp S.t34, kp S.t35, kp S.t36, kp S.t37, kp S.t38, kp S.t39, kp S.t40, kp S.t41, kp S.t42, kp S.t43⟩
    | 9, _, ho, hsi, hT =>
      obtain ⟨e1, e2⟩ := pick_of h9 ho
      have D8 : s 8 = true := list_pos hT (d := 8) (by decide)
      refine ⟨wanted_open gd9 ho a, fun K hK => ?_⟩
      have BW := S.before
      refine step_val (v := .bool true) (by simp only [execOp, e1, S.t8 D8]; go_simp) (hK _ _ ?_)
      rw [e2]
      exact ⟨S.off.put (by decide) _, S.before, kp S.t0, kp S.t1, kp S.t2, kp S.t3, kp S.t4, kp S.t5, kp S.t6, kp S.t7, kp S.t8, fun _ => (eval_put _ _ _ (by omega)).trans rfl, kp S.t10, kp S.t11, kp S.t12, kp S.t13, kp S.t14, kp S.t15, kp S.t16, kp S.t17, kp S.t18, kp S.t19, kp S.t20, kp S.t21, kp S.t22, kp S.t23, kp S.t24, kp S.t25, kp S.t26, kp S.t27, kp S.t28, kp S.t29, kp S.t30, kp S.t31, kp S.t32, kp S.t33, kp S.t34, kp S.t35, kp S.t36, kp S.t37, kp S.t38, kp S.t39, kp S.t40, kp S.t41, kp S.t42, kp S.t43⟩
    | 10, _, ho, hsi, hT =>
      obtain ⟨e1, e2⟩ := pick_of h10 ho
      have D9 : s 9 = true := list_pos hT (d := 9) (by decide)
      refine ⟨wanted_yes gd10 ho h9 (S.t9 D9), fun K hK => ?_⟩
      have BW := S.before
      refine step_val (v := .int .i64 0) (by simp only [execOp, e1, y8]; go_simp) (hK _ _ ?_)
      rw [e2]
      exact ⟨S.off.put (by decide) _, S.before, kp S.t0, kp S.t1, kp S.t2, kp S.t3, kp S.t4, kp S.t5, kp S.t6, kp S.t7, kp S.t8, kp S.t9, fun _ => (eval_put _ _ _ (by omega)).trans rfl, kp S.t11, kp S.t12, kp S.t13, kp S.t14, kp S.t15, kp S.t16, kp S.t17, kp S.t18, kp S.t19, kp S.t20, kp S.t21, kp S.t22, kp S.t23, kp S.t24, kp S.t25, kp S.t26, kp S.t27, kp S.t28, kp S.t29, kp S.t30, kp S.t31, kp S.t32, kp S.t33, kp S.t34, kp S.t35, kp S.t36, kp S.t37, kp S.t38, kp S.t39, kp S.t40, kp S.t41, kp S.t42, kp S.t43⟩
    | 11, _, ho, hsi, hT =>
      obtain ⟨e1, e2⟩ := pick_of h11 ho
      have D9 : s 9 = true := list_pos hT (d := 9) (by decide)
      have D10 : s 10 = true := list_pos hT (d := 10) (by decide)
      refine ⟨wanted_yes gd11 ho h9 (S.t9 D9), fun K hK => ?_⟩
      have BW := S.before
      refine step_val (v := .bool true) (by simp only [execOp, e1, S.t10 D10]; go_simp) (hK _ _ ?_)
      rw [e2]
      exact ⟨S.off.put (by decide) _, S.before, kp S.t0, kp S.t1, kp S.t2, kp S.t3, kp S.t4, kp S.t5, kp S.t6, kp S.t7, kp S.t8, kp S.t9, kp S.t10, fun _ => (eval_put _ _ _ (by omega)).trans rfl, kp S.t12, kp S.t13, kp S.t14, kp S.t15, kp S.t16, kp S.t17, kp S.t18, kp S.t19, kp S.t20, kp S.t21, kp S.t22, kp S.t23, kp S.t24, kp S.t25, kp S.t26, kp S.t27, kp S.t28, kp S.t29, kp S.t30, kp S.t31, kp S.t32, kp S.t33, kp S.t34, kp S.t35, kp S.t36, kp S.t37, kp S.t38, kp S.t39, kp S.t40, kp S.t41, kp S.t42, kp S.t43⟩
    | 12, _, ho, hsi, hT =>
      obtain ⟨e1, e2⟩ := pick_of h12 ho
      have D9 : s 9 = true := list_pos hT (d := 9) (by decide)
      have D11 : s 11 = true := list_pos hT (d := 11) (by decide)
      refine ⟨wanted_open gd12 ho a, fun K hK => ?_⟩
      have BW := S.before
      refine step_val (v := .bool true) (by simp only [execOp, e1, S.t9 D9, S.t11 D11]; go_simp) (hK _ _ ?_)
      rw [e2]
      exact ⟨S.off.put (by decide) _, S.before, kp S.t0, kp S.t1, kp S.t2, kp S.t3, kp S.t4, kp S.t5, kp S.t6, kp S.t7, kp S.t8, kp S.t9, kp S.t10, kp S.t11, fun _ => (eval_put _ _ _ (by omega)).trans rfl, kp S.t13, kp S.t14, kp S.t15, kp S.t16, kp S.t17, kp S.t18, kp S.t19, kp S.t20, kp S.t21, kp S.t22, kp S.t23, kp S.t24, kp S.t25, kp S.t26, kp S.t27, kp S.t28, kp S.t29, kp S.t30, kp S.t31, kp S.t32, kp S.t33, kp S.t34, kp S.t35, kp S.t36, kp S.t37, kp S.t38, kp S.t39, kp S.t40, kp S.t41, kp S.t42, kp S.t43⟩
    | 13, _, ho, hsi, hT =>
      obtain ⟨e1, e2⟩ := pick_of h13 ho
      have D12 : s 12 = true := list_pos hT (d := 12) (by decide)
      refine ⟨wanted_open gd13 ho a, fun K hK => ?_⟩
      have BW := S.before
      refine step_val (v := .bool true) (by simp only [execOp, e1, S.t12 D12]; go_simp) (hK _ _ ?_)
      rw [e2]
      exact ⟨S.off.put (by decide) _, S.before, kp S.t0, kp S.t1, kp S.t2, kp S.t3, kp S.t4, kp S.t5, kp S.t6, kp S.t7, kp S.t8, kp S.t9, kp S.t10, kp S.t11, kp S.t12, fun _ => (eval_put _ _ _ (by omega)).trans rfl, kp S.t14, kp S.t15, kp S.t16, kp S.t17, kp S.t18, kp S.t19, kp S.t20, kp S.t21, kp S.t22, kp S.t23, kp S.t24, kp S.t25, kp S.t26, kp S.t27, kp S.t28, kp S.t29, kp S.t30, kp S.t31, kp S.t32, kp S.t33, kp S.t34, kp S.t35, kp S.t36, kp S.t37, kp S.t38, kp S.t39, kp S.t40, kp S.t41, kp S.t42, kp S.t43⟩
    | 14, _, ho, hsi, hT =>
      obtain ⟨e1, e2⟩ := pick_of h14 ho
      have D13 : s 13 = true := list_pos hT (d := 13) (by decide)
      refine ⟨wanted_yes gd14 ho h13 (S.t13 D13), fun K hK => ?_⟩
      have BW := S.before
      refine step_val (v := .bool true) (by simp only [execOp, e1, y9]; go_simp) (hK _ _ ?_)
      rw [e2]
      exact ⟨S.off.put (by decide) _, S.before, kp S.t0, kp S.t1, kp S.t2, kp S.t3, kp S.t4, kp S.t5, kp S.t6, kp S.t7, kp S.t8, kp S.t9, kp S.t10, kp S.t11, kp S.t12, kp S.t13, fun _ => (eval_put _ _ _ (by omega)).trans rfl, kp S.t15, kp S.t16, kp S.t17, kp S.t18, kp S.t19, kp S.t20, kp S.t21, kp S.t22, kp S.t23, kp S.t24, kp S.t25, kp S.t26, kp S.t27, kp S.t28, kp S.t29, kp S.t30, kp S.t31, kp S.t32, kp S.t33, kp S.t34, kp S.t35, kp S.t36, kp S.t37, kp S.t38, kp S.t39, kp S.t40, kp S.t41, kp S.t42, kp S.t43⟩
    | 15, _, ho, hsi, hT =>
      obtain ⟨e1, e2⟩ := pick_of h15 ho
      have D13 : s 13 = true := list_pos hT (d := 13) (by decide)
      have D14 : s 14 = true := list_pos hT (d := 14) (by decide)
      refine ⟨wanted_open gd15 ho a, fun K hK => ?_⟩
      have BW := S.before
      refine step_val (v := .bool true) (by simp only [execOp, e1, S.t13 D13, S.t14 D14]; go_simp) (hK _ _ ?_)
      rw [e2]
      exact ⟨S.off.put (by decide) _, S.before, kp S.t0, kp S.t1, kp S.t2, kp S.t3, kp S.t4, kp S.t5, kp S.t6, kp S.t7, kp S.t8, kp S.t9, kp S.t10, kp S.t11, kp S.t12, kp S.t13, kp S.t14, fun _ => (eval_put _ _ _ (by omega)).trans rfl, kp S.t16, kp S.t17, kp S.t18, kp S.t19, kp S.t20, kp S.t21, kp S.t22, kp S.t23, kp S.t24, kp S.t25, kp S.t26, kp S.t27, kp S.t28, kp S.t29, kp S.t30, kp S.t31, kp S.t32, kp S.t33, kp S.t34, kp S.t35, kp S.t36, kp S.t37, kp S.t38, kp S.t39, kp S.t40, kp S.t41, kp S.t42, kp S.t43⟩
    | 16, _, ho, hsi, hT =>
      obtain ⟨e1, e2⟩ := pick_of h16 ho
      have D15 : s 15 = true := list_pos hT (d := 15) (by decide)
      refine ⟨wanted_open gd16 ho a, fun K hK => ?_⟩
      have BW := S.before
      refine step_val (v := .bool true) (by simp only [execOp, e1, S.t15 D15]; go_simp) (hK _ _ ?_)
      rw [e2]
      exact ⟨S.off.put (by decide) _, S.before, kp S.t0, kp S.t1, kp S.t2, kp S.t3, kp S.t4, kp S.t5, kp S.t6, kp S.t7, kp S.t8, kp S.t9, kp S.t10, kp S.t11, kp S.t12, kp S.t13, kp S.t14, kp S.t15, fun _ => (eval_put _ _ _ (by omega)).trans rfl, kp S.t17, kp S.t18, kp S.t19, kp S.t20, kp S.t21, kp S.t22, kp S.t23, kp S.t24, kp S.t25, kp S.t26, kp S.t27, kp S.t28, kp S.t29, kp S.t30, kp S.t31, kp S.t32, kp S.t33, kp S.t34, kp S.t35, kp S.t36, kp S.t37, kp S.t38, kp S.t39, kp S.t40, kp S.t41, kp S.t42, kp S.t43⟩
    | 17, _, ho, hsi, hT =>
      obtain ⟨e1, e2⟩ := pick_of h17 ho
      have D16 : s 16 = true := list_pos hT (d := 16) (by decide)
      refine ⟨wanted_yes gd17 ho h16 (S.t16 D16), fun K hK => ?_⟩
      have BW := S.before
      refine step_val (v := .string A2) (by simp only [execOp, e1, y10]; go_simp) (hK _ _ ?_)
      rw [e2]
      exact ⟨S.off.put (by decide) _, S.before, kp S.t0, kp S.t1, kp S.t2, kp S.t3, kp S.t4, kp S.t5, kp S.t6, kp S.t7, kp S.t8, kp S.t9, kp S.t10, kp S.t11, kp S.t12, kp S.t13, kp S.t14, kp S.t15, kp S.t16, fun _ => (eval_put _ _ _ (by omega)).trans rfl, kp S.t18, kp S.t19, kp S.t20, kp S.t21, kp S.t22, kp S.t23, kp S.t24, kp S.t25, kp S.t26, kp S.t27, kp S.t28, kp S.t29, kp S.t30, kp S.t31, kp S.t32, kp S.t33, kp S.t34, kp S.t35, kp S.t36, kp S.t37, kp S.t38, kp S.t39, kp S.t40, kp S.t41, kp S.t42, kp S.t43⟩
    | 18, _, ho, hsi, hT =>
      obtain ⟨e1, e2⟩ := pick_of h18 ho
      have D16 : s 16 = true := list_pos hT (d := 16) (by decide)
      have D17 : s 17 = true := list_pos hT (d := 17) (by decide)
      refine ⟨wanted_yes gd18 ho h16 (S.t16 D16), fun K hK => ?_⟩
      have BW := S.before
      have q105 : a.tmps[105]'(by omega) = .string A2 := by have := S.t17 D17; simpa [Act.eval, sz] using this
      refine step_val (v := .int .i64 32) (by simp only [execOp, e1]; go_simp) (hK _ _ ?_)
      rw [e2]
      exact ⟨S.off.put (by decide) _, S.before, kp S.t0, kp S.t1, kp S.t2, kp S.t3, kp S.t4, kp S.t5, kp S.t6, kp S.t7, kp S.t8, kp S.t9, kp S.t10, kp S.t11, kp S.t12, kp S.t13, kp S.t14, kp S.t15, kp S.t16, kp S.t17, fun _ => (eval_put _ _ _ (by omega)).trans rfl, kp S.t19, kp S.t20, kp S.t21, kp S.t22, kp S.t23, kp S.t24, kp S.t25, kp S.t26, kp S.t27, kp S.t28, kp S.t29, kp S.t30, kp S.t31, kp S.t32, kp S.t33, kp S.t34, kp S.t35, kp S.t36, kp S.t37, kp S.t38, kp S.t39, kp S.t40, kp S.t41, kp S.t42, kp S.t43⟩
    | 19, _, ho, hsi, hT =>
      obtain ⟨e1, e2⟩ := pick_of h19 ho
      have D16 : s 16 = true := list_pos hT (d := 16) (by decide)
      have D18 : s 18 = true := list_pos hT (d := 18) (by decide)
      refine ⟨wanted_yes gd19 ho h16 (S.t16 D16), fun K hK => ?_⟩
      have BW := S.before
      refine step_val (v := .bool true) (by simp only [execOp, e1, S.t18 D18]; go_simp) (hK _ _ ?_)
      rw [e2]
      exact ⟨S.off.put (by decide) _, S.before, kp S.t0, kp S.t1, kp S.t2, kp S.t3, kp S.t4, kp S.t5, kp S.t6, kp S.t7, kp S.t8, kp S.t9, kp S.t10, kp S.t11, kp S.t12, kp S.t13, kp S.t14, kp S.t15, kp S.t16, kp S.t17, kp S.t18, fun _ => (eval_put _ _ _ (by omega)).trans rfl, kp S.t20, kp S.t21, kp S.t22, kp S.t23, kp S.t24, kp S.t25, kp S.t26, kp S.t27, kp S.t28, kp S.t29, kp S.t30, kp S.t31, kp S.t32, kp S.t33, kp S.t34, kp S.t35, kp S.t36, kp S.t37, kp S.t38, kp S.t39, kp S.t40, kp S.t41, kp S.t42, kp S.t43⟩
    | 20, _, ho, hsi, hT =>
      obtain ⟨e1, e2⟩ := pick_of h20 ho
      have D16 : s 16 = true := list_pos hT (d := 16) (by decide)
      have D19 : s 19 = true := list_pos hT (d := 19) (by decide)
      refine ⟨wanted_open gd20 ho a, fun K hK => ?_⟩
      have BW := S.before
      refine step_val (v := .bool true) (by simp only [execOp, e1, S.t16 D16, S.t19 D19]; go_simp) (hK _ _ ?_)
      rw [e2]
      exact ⟨S.off.put (by decide) _, S.before, kp S.t0, kp S.t1, kp S.t2, kp S.t3, kp S.t4, kp S.t5, kp S.t6, kp S.t7, kp S.t8, kp S.t9, kp S.t10, kp S.t11, kp S.t12, kp S.t13, kp S.t14, kp S.t15, kp S.t16, kp S.t17, kp S.t18, kp S.t19, fun _ => (eval_put _ _ _ (by omega)).trans rfl, kp S.t21, kp S.t22, kp S.t23, kp S.t24, kp S.t25, kp S.t26, kp S.t27, kp S.t28, kp S.t29, kp S.t30, kp S.t31, kp S.t32, kp S.t33, kp S.t34, kp S.t35, kp S.t36, kp S.t37, kp S.t38, kp S.t39, kp S.t40, kp S.t41, kp S.t42, kp S.t43⟩
    | 21, _, ho, hsi, hT =>
      obtain ⟨e1, e2⟩ := pick_of h21 ho
      have D20 : s 20 = true := list_pos hT (d := 20) (by decide)
      refine ⟨wanted_open gd21 ho a, fun K hK => ?_⟩
      have BW := S.before
      refine step_val (v := .bool true) (by simp only [execOp, e1, S.t20 D20]; go_simp) (hK _ _ ?_)
      rw [e2]
      exact ⟨S.off.put (by decide) _, S.before, kp S.t0, kp S.t1, kp S.t2, kp S.t3, kp S.t4, kp S.t5, kp S.t6, kp S.t7, kp S.t8, kp S.t9, kp S.t10, kp S.t11, kp S.t12, kp S.t13, kp S.t14, kp S.t15, kp S.t16, kp S.t17, kp S.t18, kp S.t19, kp S.t20, fun _ => (eval_put _ _ _ (by omega)).trans rfl, kp S.t22, kp S.t23, kp S.t24, kp S.t25, kp S.t26, kp S.t27, kp S.t28, kp S.t29, kp S.t30, kp S.t31, kp S.t32, kp S.t33, kp S.t34, kp S.t35, kp S.t36, kp S.t37, kp S.t38, kp S.t39, kp S.t40, kp S.t41, kp S.t42, kp S.t43⟩
    | 22, _, ho, hsi, hT =>
      obtain ⟨e1, e2⟩ := pick_of h22 ho
      have D21 : s 21 = true := list_pos hT (d := 21) (by decide)
      refine ⟨wanted_yes gd22 ho h21 (S.t21 D21), fun K hK => ?_⟩
      have BW := S.before
      refine step_val (v := .string A2) (by simp only [execOp, e1, y10]; go_simp) (hK _ _ ?_)
      rw [e2]
      exact ⟨S.off.put (by decide) _, S.before, kp S.t0, kp S.t1, kp S.t2, kp S.t3, kp S.t4, kp S.t5, kp S.t6, kp S.t7, kp S.t8, kp S.t9, kp S.t10, kp S.t11, kp S.t12, kp S.t13, kp S.t14, kp S.t15, kp S.t16, kp S.t17, kp S.t18, kp S.t19, kp S.t20, kp S.t21, fun _ => (eval_put _ _ _ (by omega)).trans rfl, kp S.t23, kp S.t24, kp S.t25, kp S.t26, kp S.t27, kp S.t28, kp S.t29, kp S.t30, kp S.t31, kp S.t32, kp S.t33, kp S.t34, kp S.t35, kp S.t36, kp S.t37, kp S.t38, kp S.t39, kp S.t40, kp S.t41, kp S.t42, kp S.t43⟩
    | 23, _, ho, hsi, hT =>
      obtain ⟨e1, e2⟩ := pick_of h23 ho
      have D21 : s 21 = true := list_pos hT (d := 21) (by decide)
      have D22 : s 22 = true := list_pos hT (d := 22) (by decide)
      refine ⟨wanted_yes gd23 ho h21 (S.t21 D21), fun K hK => ?_⟩
      have BW := S.before
      refine step_val (v := .string p7) (by simp only [execOp, e1, Option.map_none, Option.map_some, S.t22 D22]; go_simp <;> first | done | (intro q; omega)) (hK _ _ ?_)
      rw [e2]
      exact ⟨S.off.put (by decide) _, S.before, kp S.t0, kp S.t1, kp S.t2, kp S.t3, kp S.t4, kp S.t5, kp S.t6, kp S.t7, kp S.t8, kp S.t9, kp S.t10, kp S.t11, kp S.t12, kp S.t13, kp S.t14, kp S.t15, kp S.t16, kp S.t17, kp S.t18, kp S.t19, kp S.t20, kp S.t21, kp S.t22, fun _ => (eval_put _ _ _ (by omega)).trans rfl, kp S.t24, kp S.t25, kp S.t26, kp S.t27, kp S.t28, kp S.t29, kp S.t30, kp S.t31, kp S.t32, kp S.t33, kp S.t34, kp S.t35, kp S.t36, kp S.t37, kp S.t38, kp S.t39, kp S.t40, kp S.t41, kp S.t42, kp S.t43⟩
    | 24, _, ho, hsi, hT =>
      obtain ⟨e1, e2⟩ := pick_of h24 ho
      have D21 : s 21 = true := list_pos hT (d := 21) (by decide)
      refine ⟨wanted_yes gd24 ho h21 (S.t21 D21), fun K hK => ?_⟩
      have BW := S.before
      refine step_call 18 (fun args w => by go_simp) _ _ e1 #[.int .i64 9] (by simp only [List.map_toArray, List.map_cons, List.map_nil] <;> rfl) ((HM9 w').mono ?_)
      rintro e w2 ⟨rfl, BB⟩
      refine ⟨_, rfl, hK _ _ ?_⟩
      rw [e2]
      exact ⟨S.off.put (by decide) _, bt BW BB, kp S.t0, kp S.t1, kp S.t2, kp S.t3, kp S.t4, kp S.t5, kp S.t6, kp S.t7, kp S.t8, kp S.t9, kp S.t10, kp S.t11, kp S.t12, kp S.t13, kp S.t14, kp S.t15, kp S.t16, kp S.t17, kp S.t18, kp S.t19, kp S.t20, kp S.t21, kp S.t22, kp S.t23, fun _ => (eval_put _ _ _ (by omega)).trans rfl, kp S.t25, kp S.t26, kp S.t27, kp S.t28, kp S.t29, kp S.t30, kp S.t31, kp S.t32, kp S.t33, kp S.t34, kp S.t35, kp S.t36, kp S.t37, kp S.t38, kp S.t39, kp S.t40, kp S.t41, kp S.t42, kp S.t43⟩
    | 25, _, ho, hsi, hT =>
      obtain ⟨e1, e2⟩ := pick_of h25 ho
      have D21 : s 21 = true := list_pos hT (d := 21) (by decide)
      have D24 : s 24 = true := list_pos hT (d := 24) (by decide)
      refine ⟨wanted_yes gd25 ho h21 (S.t21 D21), fun K hK => ?_⟩
      have BW := S.before
      refine step_val (v := .string p7) (by simp only [execOp, e1, Option.map_none, Option.map_some, S.t24 D24]; go_simp <;> first | done | (intro q; omega)) (hK _ _ ?_)
      rw [e2]
      exact ⟨S.off.put (by decide) _, S.before, kp S.t0, kp S.t1, kp S.t2, kp S.t3, kp S.t4, kp S.t5, kp S.t6, kp S.t7, kp S.t8, kp S.t9, kp S.t10, kp S.t11, kp S.t12, kp S.t13, kp S.t14, kp S.t15, kp S.t16, kp S.t17, kp S.t18, kp S.t19, kp S.t20, kp S.t21, kp S.t22, kp S.t23, kp S.t24, fun _ => (eval_put _ _ _ (by omega)).trans rfl, kp S.t26, kp S.t27, kp S.t28, kp S.t29, kp S.t30, kp S.t31, kp S.t32, kp S.t33, kp S.t34, kp S.t35, kp S.t36, kp S.t37, kp S.t38, kp S.t39, kp S.t40, kp S.t41, kp S.t42, kp S.t43⟩
    | 26, _, ho, hsi, hT =>
      obtain ⟨e1, e2⟩ := pick_of h26 ho
      have D21 : s 21 = true := list_pos hT (d := 21) (by decide)
      have D23 : s 23 = true := list_pos hT (d := 23) (by decide)
      have D25 : s 25 = true := list_pos hT (d := 25) (by decide)
      refine ⟨wanted_yes gd26 ho h21 (S.t21 D21), fun K hK => ?_⟩
      have BW := S.before
      refine step_val (v := .bool true) (by simp only [execOp, e1, S.t23 D23, S.t25 D25]; go_simp) (hK _ _ ?_)
      rw [e2]
      exact ⟨S.off.put (by decide) _, S.before, kp S.t0, kp S.t1, kp S.t2, kp S.t3, kp S.t4, kp S.t5, kp S.t6, kp S.t7, kp S.t8, kp S.t9, kp S.t10, kp S.t11, kp S.t12, kp S.t13, kp S.t14, kp S.t15, kp S.t16, kp S.t17, kp S.t18, kp S.t19, kp S.t20, kp S.t21, kp S.t22, kp S.t23, kp S.t24, kp S.t25, fun _ => (eval_put _ _ _ (by omega)).trans rfl, kp S.t27, kp S.t28, kp S.t29, kp S.t30, kp S.t31, kp S.t32, kp S.t33, kp S.t34, kp S.t35, kp S.t36, kp S.t37, kp S.t38, kp S.t39, kp S.t40, kp S.t41, kp S.t42, kp S.t43⟩
    | 27, _, ho, hsi, hT =>
      obtain ⟨e1, e2⟩ := pick_of h27 ho
      have D21 : s 21 = true := list_pos hT (d := 21) (by decide)
      have D26 : s 26 = true := list_pos hT (d := 26) (by decide)
      refine ⟨wanted_open gd27 ho a, fun K hK => ?_⟩
      have BW := S.before
      refine step_val (v := .bool true) (by simp only [execOp, e1, S.t21 D21, S.t26 D26]; go_simp) (hK _ _ ?_)
      rw [e2]
      exact ⟨S.off.put (by decide) _, S.before, kp S.t0, kp S.t1, kp S.t2, kp S.t3, kp S.t4, kp S.t5, kp S.t6, kp S.t7, kp S.t8, kp S.t9, kp S.t10, kp S.t11, kp S.t12, kp S.t13, kp S.t14, kp S.t15, kp S.t16, kp S.t17, kp S.t18, kp S.t19, kp S.t20, kp S.t21, kp S.t22, kp S.t23, kp S.t24, kp S.t25, kp S.t26, fun _ => (eval_put _ _ _ (by omega)).trans rfl, kp S.t28, kp S.t29, kp S.t30, kp S.t31, kp S.t32, kp S.t33, kp S.t34, kp S.t35, kp S.t36, kp S.t37, kp S.t38, kp S.t39, kp S.t40, kp S.t41, kp S.t42, kp S.t43⟩
    | 28, _, ho, hsi, hT =>
      obtain ⟨e1, e2⟩ := pick_of h28 ho
      have D27 : s 27 = true := list_pos hT (d := 27) (by decide)
      refine ⟨wanted_open gd28 ho a, fun K hK => ?_⟩
      have BW := S.before
      refine step_val (v := .bool true) (by simp only [execOp, e1, S.t27 D27]; go_simp) (hK _ _ ?_)
      rw [e2]
      exact ⟨S.off.put (by decide) _, S.before, kp S.t0, kp S.t1, kp S.t2, kp S.t3, kp S.t4, kp S.t5, kp S.t6, kp S.t7, kp S.t8, kp S.t9, kp S.t10, kp S.t11, kp S.t12, kp S.t13, kp S.t14, kp S.t15, kp S.t16, kp S.t17, kp S.t18, kp S.t19, kp S.t20, kp S.t21, kp S.t22, kp S.t23, kp S.t24, kp S.t25, kp S.t26, kp S.t27, fun _ => (eval_put _ _ _ (by omega)).trans rfl, kp S.t29, kp S.t30, kp S.t31, kp S.t32, kp S.t33, kp S.t34, kp S.t35, kp S.t36, kp S.t37, kp S.t38, kp S.t39, kp S.t40, kp S.t41, kp S.t42, kp S.t43⟩
    | 29, _, ho, hsi, hT =>
      obtain ⟨e1, e2⟩ := pick_of h29 ho
      have D28 : s 28 = true := list_pos hT (d := 28) (by decide)
      refine ⟨wanted_yes gd29 ho h28 (S.t28 D28), fun K hK => ?_⟩
      have BW := S.before
      refine step_val (v := .int .i64 7) (by simp only [execOp, e1, y11]; go_simp) (hK _ _ ?_)
      rw [e2]
      exact ⟨S.off.put (by decide) _, S.before, kp S.t0, kp S.t1, kp S.t2, kp S.t3, kp S.t4, kp S.t5, kp S.t6, kp S.t7, kp S.t8, kp S.t9, kp S.t10, kp S.t11, kp S.t12, kp S.t13, kp S.t14, kp S.t15, kp S.t16, kp S.t17, kp S.t18, kp S.t19, kp S.t20, kp S.t21, kp S.t22, kp S.t23, kp S.t24, kp S.t25, kp S.t26, kp S.t27, kp S.t28, fun _ => (eval_put _ _ _ (by omega)).trans rfl, kp S.t30, kp S.t31, kp S.t32, kp S.t33, kp S.t34, kp S.t35, kp S.t36, kp S.t37, kp S.t38, kp S.t39, kp S.t40, kp S.t41, kp S.t42, kp S.t43⟩
    | 30, _, ho, hsi, hT =>
      obtain ⟨e1, e2⟩ := pick_of h30 ho
      have D28 : s 28 = true := list_pos hT (d := 28) (by decide)
      have D29 : s 29 = true := list_pos hT (d := 29) (by decide)
      refine ⟨wanted_yes gd30 ho h28 (S.t28 D28), fun K hK => ?_⟩
      have BW := S.before
      refine step_val (v := .bool true) (by simp only [execOp, e1, S.t29 D29]; go_simp) (hK _ _ ?_)
      rw [e2]
      exact ⟨S.off.put (by decide) _, S.before, kp S.t0, kp S.t1, kp S.t2, kp S.t3, kp S.t4, kp S.t5, kp S.t6, kp S.t7, kp S.t8, kp S.t9, kp S.t10, kp S.t11, kp S.t12, kp S.t13, kp S.t14, kp S.t15, kp S.t16, kp S.t17, kp S.t18, kp S.t19, kp S.t20, kp S.t21, kp S.t22, kp S.t23, kp S.t24, kp S.t25, kp S.t26, kp S.t27, kp S.t28, kp S.t29, fun _ => (eval_put _ _ _ (by omega)).trans rfl, kp S.t31, kp S.t32, kp S.t33, kp S.t34, kp S.t35, kp S.t36, kp S.t37, kp S.t38, kp S.t39, kp S.t40, kp S.t41, kp S.t42, kp S.t43⟩
    | 31, _, ho, hsi, hT =>
      obtain ⟨e1, e2⟩ := pick_of h31 ho
      have D28 : s 28 = true := list_pos hT (d := 28) (by decide)
      have D30 : s 30 = true := list_pos hT (d := 30) (by decide)
      refine ⟨wanted_open gd31 ho a, fun K hK => ?_⟩
      have BW := S.before
      refine step_val (v := .bool true) (by simp only [execOp, e1, S.t28 D28, S.t30 D30]; go_simp) (hK _ _ ?_)
      rw [e2]
      exact ⟨S.off.put (by decide) _, S.before, kp S.t0, kp S.t1, kp S.t2, kp S.t3, kp S.t4, kp S.t5, kp S.t6, kp S.t7, kp S.t8, kp S.t9, kp S.t10, kp S.t11, kp S.t12, kp S.t13, kp S.t14, kp S.t15, kp S.t16, kp S.t17, kp S.t18, kp S.t19, kp S.t20, kp S.t21, kp S.t22, kp S.t23, kp S.t24, kp S.t25, kp S.t26, kp S.t27, kp S.t28, kp S.t29, kp S.t30, fun _ => (eval_put _ _ _ (by omega)).trans rfl, kp S.t32, kp S.t33, kp S.t34, kp S.t35, kp S.t36, kp S.t37, kp S.t38, kp S.t39, kp S.t40, kp S.t41, kp S.t42, kp S.t43⟩
    | 32, _, ho, hsi, hT =>
      obtain ⟨e1, e2⟩ := pick_of h32 ho
      have D31 : s 31 = true := list_pos hT (d := 31) (by decide)
      refine ⟨wanted_open gd32 ho a, fun K hK => ?_⟩
      have BW := S.before
      refine step_val (v := .bool true) (by simp only [execOp, e1, S.t31 D31]; go_simp) (hK _ _ ?_)
      rw [e2]
      exact ⟨S.off.put (by decide) _, S.before, kp S.t0, kp S.t1, kp S.t2, kp S.t3, kp S.t4, kp S.t5, kp S.t6, kp S.t7, kp S.t8, kp S.t9, kp S.t10, kp S.t11, kp S.t12, kp S.t13, kp S.t14, kp S.t15, kp S.t16, kp S.t17, kp S.t18, kp S.t19, kp S.t20, kp S.t21, kp S.t22, kp S.t23, kp S.t24, kp S.t25, kp S.t26, kp S.t27, kp S.t28, kp S.t29, kp S.t30, kp S.t31, fun _ => (eval_put _ _ _ (by omega)).trans rfl, kp S.t33, kp S.t34, kp S.t35, kp S.t36, kp S.t37, kp S.t38, kp S.t39, kp S.t40, kp S.t41, kp S.t42, kp S.t43⟩
    | 33, _, ho, hsi, hT =>
      obtain ⟨e1, e2⟩ := pick_of h33 ho
      have D32 : s 32 = true := list_pos hT (d := 32) (by decide)
      refine ⟨wanted_yes gd33 ho h32 (S.t32 D32), fun K hK => ?_⟩
      have BW := S.before
      refine step_val (v := .bool true) (by simp only [execOp, e1, y12]; go_simp) (hK _ _ ?_)
      rw [e2]
      exact ⟨S.off.put (by decide) _, S.before, kp S.t0, kp S.t1, kp S.t2, kp S.t3, kp S.t4, kp S.t5, kp S.t6, kp S.t7, kp S.t8, kp S.t9, kp S.t10, kp S.t11, kp S.t12, kp S.t13, kp S.t14, kp S.t15, kp S.t16, kp S.t17, kp S.t18, kp S.t19, kp S.t20, kp S.t21, kp S.t22, kp S.t23, kp S.t24, kp S.t25, kp S.t26, kp S.t27, kp S.t28, kp S.t29, kp S.t30, kp S.t31, kp S.t32, fun _ => (eval_put _ _ _ (by omega)).trans rfl, kp S.t34, kp S.t35, kp S.t36, kp S.t37, kp S.t38, kp S.t39, kp S.t40, kp S.t41, kp S.t42, kp S.t43⟩
    | 34, _, ho, hsi, hT =>
      obtain ⟨e1, e2⟩ := pick_of h34 ho
      have D32 : s 32 = true := list_pos hT (d := 32) (by decide)
      have D33 : s 33 = true := list_pos hT (d := 33) (by decide)
      refine ⟨wanted_open gd34 ho a, fun K hK => ?_⟩
      have BW := S.before
      refine step_val (v := .bool true) (by simp only [execOp, e1, S.t32 D32, S.t33 D33]; go_simp) (hK _ _ ?_)
      rw [e2]
      exact ⟨S.off.put (by decide) _, S.before, kp S.t0, kp S.t1, kp S.t2, kp S.t3, kp S.t4, kp S.t5, kp S.t6, kp S.t7, kp S.t8, kp S.t9, kp S.t10, kp S.t11, kp S.t12, kp S.t13, kp S.t14, kp S.t15, kp S.t16, kp S.t17, kp S.t18, kp S.t19, kp S.t20, kp S.t21, kp S.t22, kp S.t23, kp S.t24, kp S.t25, kp S.t26, kp S.t27, kp S.t28, kp S.t29, kp S.t30, kp S.t31, kp S.t32, kp S.t33, fun _ => (eval_put _ _ _ (by omega)).trans rfl, kp S.t35, kp S.t36, kp S.t37, kp S.t38, kp S.t39, kp S.t40, kp S.t41, kp S.t42, kp S.t43⟩
    | 35, _, ho, hsi, hT =>
      obtain ⟨e1, e2⟩ := pick_of h35 ho
      have D34 : s 34 = true := list_pos hT (d := 34) (by decide)
      refine ⟨wanted_open gd35 ho a, fun K hK => ?_⟩
      have BW := S.before
      refine step_val (v := .bool true) (by simp only [execOp, e1, S.t34 D34]; go_simp) (hK _ _ ?_)
      rw [e2]
      exact ⟨S.off.put (by decide) _, S.before, kp S.t0, kp S.t1, kp S.t2, kp S.t3, kp S.t4, kp S.t5, kp S.t6, kp S.t7, kp S.t8, kp S.t9, kp S.t10, kp S.t11, kp S.t12, kp S.t13, kp S.t14, kp S.t15, kp S.t16, kp S.t17, kp S.t18, kp S.t19, kp S.t20, kp S.t21, kp S.t22, kp S.t23, kp S.t24, kp S.t25, kp S.t26, kp S.t27, kp S.t28, kp S.t29, kp S.t30, kp S.t31, kp S.t32, kp S.t33, kp S.t34, fun _ => (eval_put _ _ _ (by omega)).trans rfl, kp S.t36, kp S.t37, kp S.t38, kp S.t39, kp S.t40, kp S.t41, kp S.t42, kp S.t43⟩
    | 36, _, ho, hsi, hT =>
      obtain ⟨e1, e2⟩ := pick_of h36 ho
      have D35 : s 35 = true := list_pos hT (d := 35) (by decide)
      refine ⟨wanted_yes gd36 ho h35 (S.t35 D35), fun K hK => ?_⟩
      have BW := S.before
      refine step_val (v := .bool false) (by simp only [execOp, e1, y15]; go_simp) (hK _ _ ?_)
      rw [e2]
      exact ⟨S.off.put (by decide) _, S.before, kp S.t0, kp S.t1, kp S.t2, kp S.t3, kp S.t4, kp S.t5, kp S.t6, kp S.t7, kp S.t8, kp S.t9, kp S.t10, kp S.t11, kp S.t12, kp S.t13, kp S.t14, kp S.t15, kp S.t16, kp S.t17, kp S.t18, kp S.t19, kp S.t20, kp S.t21, kp S.t22, kp S.t23, kp S.t24, kp S.t25, kp S.t26, kp S.t27, kp S.t28, kp S.t29, kp S.t30, kp S.t31, kp S.t32, kp S.t33, kp S.t34, kp S.t35, fun _ => (eval_put _ _ _ (by omega)).trans rfl, kp S.t37, kp S.t38, kp S.t39, kp S.t40, kp S.t41, kp S.t42, kp S.t43⟩
    | 37, _, ho, hsi, hT =>
      obtain ⟨e1, e2⟩ := pick_of h37 ho
      have D35 : s 35 = true := list_pos hT (d := 35) (by decide)
      have D36 : s 36 = true := list_pos hT (d := 36) (by decide)
      refine ⟨wanted_yes gd37 ho h35 (S.t35 D35), fun K hK => ?_⟩
      have BW := S.before
      refine step_val (v := .bool true) (by simp only [execOp, e1, S.t36 D36]; go_simp) (hK _ _ ?_)
      rw [e2]
      exact ⟨S.off.put (by decide) _, S.before, kp S.t0, kp S.t1, kp S.t2, kp S.t3, kp S.t4, kp S.t5, kp S.t6, kp S.t7, kp S.t8, kp S.t9, kp S.t10, kp S.t11, kp S.t12, kp S.t13, kp S.t14, kp S.t15, kp S.t16, kp S.t17, kp S.t18, kp S.t19, kp S.t20, kp S.t21, kp S.t22, kp S.t23, kp S.t24, kp S.t25, kp S.t26, kp S.t27, kp S.t28, kp S.t29, kp S.t30, kp S.t31, kp S.t32, kp S.t33, kp S.t34, kp S.t35, kp S.t36, fun _ => (eval_put _ _ _ (by omega)).trans rfl, kp S.t38, kp S.t39, kp S.t40, kp S.t41, kp S.t42, kp S.t43⟩
    | 38, _, ho, hsi, hT =>
      obtain ⟨e1, e2⟩ := pick_of h38 ho
      have D35 : s 35 = true := list_pos hT (d := 35) (by decide)
      have D37 : s 37 = true := list_pos hT (d := 37) (by decide)
      refine ⟨wanted_open gd38 ho a, fun K hK => ?_⟩
      have BW := S.before
      refine step_val (v := .bool true) (by simp only [execOp, e1, S.t35 D35, S.t37 D37]; go_simp) (hK _ _ ?_)
      rw [e2]
      exact ⟨S.off.put (by decide) _, S.before, kp S.t0, kp S.t1, kp S.t2, kp S.t3, kp S.t4, kp S.t5, kp S.t6, kp S.t7, kp S.t8, kp S.t9, kp S.t10, kp S.t11, kp S.t12, kp S.t13, kp S.t14, kp S.t15, kp S.t16, kp S.t17, kp S.t18, kp S.t19, kp S.t20, kp S.t21, kp S.t22, kp S.t23, kp S.t24, kp S.t25, kp S.t26, kp S.t27, kp S.t28, kp S.t29, kp S.t30, kp S.t31, kp S.t32, kp S.t33, kp S.t34, kp S.t35, kp S.t36, kp S.t37, fun _ => (eval_put _ _ _ (by omega)).trans rfl, kp S.t39, kp S.t40, kp S.t41, kp S.t42, kp S.t43⟩
    | 39, _, ho, hsi, hT =>
      obtain ⟨e1, e2⟩ := pick_of h39 ho
      have D38 : s 38 = true := list_pos hT (d := 38) (by decide)
      refine ⟨wanted_open gd39 ho a, fun K hK => ?_⟩
      have BW := S.before
      refine step_val (v := .bool true) (by simp only [execOp, e1, S.t38 D38]; go_simp) (hK _ _ ?_)
      rw [e2]
      exact ⟨S.off.put (by decide) _, S.before, kp S.t0, kp S.t1, kp S.t2, kp S.t3, kp S.t4, kp S.t5, kp S.t6, kp S.t7, kp S.t8, kp S.t9, kp S.t10, kp S.t11, kp S.t12, kp S.t13, kp S.t14, kp S.t15, kp S.t16, kp S.t17, kp S.t18, kp S.t19, kp S.t20, kp S.t21, kp S.t22, kp S.t23, kp S.t24, kp S.t25, kp S.t26, kp S.t27, kp S.t28, kp S.t29, kp S.t30, kp S.t31, kp S.t32, kp S.t33, kp S.t34, kp S.t35, kp S.t36, kp S.t37, kp S.t38, fun _ => (eval_put _ _ _ (by omega)).trans rfl, kp S.t40, kp S.t41, kp S.t42, kp S.t43⟩
    | 40, _, ho, hsi, hT =>
      obtain ⟨e1, e2⟩ := pick_of h40 ho
      have D39 : s 39 = true := list_pos hT (d := 39) (by decide)
      refine ⟨wanted_yes gd40 ho h39 (S.t39 D39), fun K hK => ?_⟩
      have BW := S.before
      refine step_val (v := .pointer (some ⟨X, 0, none⟩)) (by simp only [execOp, e1, y5]; go_simp) (hK _ _ ?_)
      rw [e2]
      exact ⟨S.off.put (by decide) _, S.before, kp S.t0, kp S.t1, kp S.t2, kp S.t3, kp S.t4, kp S.t5, kp S.t6, kp S.t7, kp S.t8, kp S.t9, kp S.t10, kp S.t11, kp S.t12, kp S.t13, kp S.t14, kp S.t15, kp S.t16, kp S.t17, kp S.t18, kp S.t19, kp S.t20, kp S.t21, kp S.t22, kp S.t23, kp S.t24, kp S.t25, kp S.t26, kp S.t27, kp S.t28, kp S.t29, kp S.t30, kp S.t31, kp S.t32, kp S.t33, kp S.t34, kp S.t35, kp S.t36, kp S.t37, kp S.t38, kp S.t39, fun _ => (eval_put _ _ _ (by omega)).trans rfl, kp S.t41, kp S.t42, kp S.t43⟩
    | 41, _, ho, hsi, hT =>
      obtain ⟨e1, e2⟩ := pick_of h41 ho
      have D39 : s 39 = true := list_pos hT (d := 39) (by decide)
      have D40 : s 40 = true := list_pos hT (d := 40) (by decide)
      refine ⟨wanted_yes gd41 ho h39 (S.t39 D39), fun K hK => ?_⟩
      have BW := S.before
      refine step_call 19 (fun args w => by go_simp) _ _ e1 #[.pointer (some ⟨X, 0, none⟩)] (by simp only [List.map_toArray, List.map_cons, List.map_nil, S.t40 D40] <;> rfl) ((HW w' BW).mono ?_)
      rintro e w2 ⟨rfl, BB⟩
      refine ⟨_, rfl, hK _ _ ?_⟩
      rw [e2]
      exact ⟨S.off.put (by decide) _, bt BW BB, kp S.t0, kp S.t1, kp S.t2, kp S.t3, kp S.t4, kp S.t5, kp S.t6, kp S.t7, kp S.t8, kp S.t9, kp S.t10, kp S.t11, kp S.t12, kp S.t13, kp S.t14, kp S.t15, kp S.t16, kp S.t17, kp S.t18, kp S.t19, kp S.t20, kp S.t21, kp S.t22, kp S.t23, kp S.t24, kp S.t25, kp S.t26, kp S.t27, kp S.t28, kp S.t29, kp S.t30, kp S.t31, kp S.t32, kp S.t33, kp S.t34, kp S.t35, kp S.t36, kp S.t37, kp S.t38, kp S.t39, kp S.t40, fun _ => (eval_put _ _ _ (by omega)).trans rfl, kp S.t42, kp S.t43⟩
    | 42, _, ho, hsi, hT =>
      obtain ⟨e1, e2⟩ := pick_of h42 ho
      have D39 : s 39 = true := list_pos hT (d := 39) (by decide)
      have D41 : s 41 = true := list_pos hT (d := 41) (by decide)
      refine ⟨wanted_yes gd42 ho h39 (S.t39 D39), fun K hK => ?_⟩
      have BW := S.before
      refine step_val (v := .bool true) (by simp only [execOp, e1, S.t41 D41]; go_simp) (hK _ _ ?_)
      rw [e2]
      exact ⟨S.off.put (by decide) _, S.before, kp S.t0, kp S.t1, kp S.t2, kp S.t3, kp S.t4, kp S.t5, kp S.t6, kp S.t7, kp S.t8, kp S.t9, kp S.t10, kp S.t11, kp S.t12, kp S.t13, kp S.t14, kp S.t15, kp S.t16, kp S.t17, kp S.t18, kp S.t19, kp S.t20, kp S.t21, kp S.t22, kp S.t23, kp S.t24, kp S.t25, kp S.t26, kp S.t27, kp S.t28, kp S.t29, kp S.t30, kp S.t31, kp S.t32, kp S.t33, kp S.t34, kp S.t35, kp S.t36, kp S.t37, kp S.t38, kp S.t39, kp S.t40, kp S.t41, fun _ => (eval_put _ _ _ (by omega)).trans rfl, kp S.t43⟩
    | 43, _, ho, hsi, hT =>
      obtain ⟨e1, e2⟩ := pick_of h43 ho
      have D39 : s 39 = true := list_pos hT (d := 39) (by decide)
      have D42 : s 42 = true := list_pos hT (d := 42) (by decide)
      refine ⟨wanted_open gd43 ho a, fun K hK => ?_⟩
      have BW := S.before
      refine step_val (v := .bool true) (by simp only [execOp, e1, S.t39 D39, S.t42 D42]; go_simp) (hK _ _ ?_)
      rw [e2]
      exact ⟨S.off.put (by decide) _, S.before, kp S.t0, kp S.t1, kp S.t2, kp S.t3, kp S.t4, kp S.t5, kp S.t6, kp S.t7, kp S.t8, kp S.t9, kp S.t10, kp S.t11, kp S.t12, kp S.t13, kp S.t14, kp S.t15, kp S.t16, kp S.t17, kp S.t18, kp S.t19, kp S.t20, kp S.t21, kp S.t22, kp S.t23, kp S.t24, kp S.t25, kp S.t26, kp S.t27, kp S.t28, kp S.t29, kp S.t30, kp S.t31, kp S.t32, kp S.t33, kp S.t34, kp S.t35, kp S.t36, kp S.t37, kp S.t38, kp S.t39, kp S.t40, kp S.t41, kp S.t42, fun _ => (eval_put _ _ _ (by omega)).trans rfl⟩
    | _ + 44, il, _, _, _ => exact absurd il (by omega)
  · intro s a w' S hall
    have a0 := hall 0 (by omega)
    have a1 := hall 1 (by omega)
    have a2 := hall 2 (by omega)
    have a3 := hall 3 (by omega)
    have a4 := hall 4 (by omega)
    have a5 := hall 5 (by omega)
    have a6 := hall 6 (by omega)
    have a7 := hall 7 (by omega)
    have a8 := hall 8 (by omega)
    have a9 := hall 9 (by omega)
    have a10 := hall 10 (by omega)
    have a11 := hall 11 (by omega)
    have a12 := hall 12 (by omega)
    have a13 := hall 13 (by omega)
    have a14 := hall 14 (by omega)
    have a15 := hall 15 (by omega)
    have a16 := hall 16 (by omega)
    have a17 := hall 17 (by omega)
    have a18 := hall 18 (by omega)
    have a19 := hall 19 (by omega)
    have a20 := hall 20 (by omega)
    have a21 := hall 21 (by omega)
    have a22 := hall 22 (by omega)
    have a23 := hall 23 (by omega)
    have a24 := hall 24 (by omega)
    have a25 := hall 25 (by omega)
    have a26 := hall 26 (by omega)
    have a27 := hall 27 (by omega)
    have a28 := hall 28 (by omega)
    have a29 := hall 29 (by omega)
    have a30 := hall 30 (by omega)
    have a31 := hall 31 (by omega)
    have a32 := hall 32 (by omega)
    have a33 := hall 33 (by omega)
    have a34 := hall 34 (by omega)
    have a35 := hall 35 (by omega)
    have a36 := hall 36 (by omega)
    have a37 := hall 37 (by omega)
    have a38 := hall 38 (by omega)
    have a39 := hall 39 (by omega)
    have a40 := hall 40 (by omega)
    have a41 := hall 41 (by omega)
    have a42 := hall 42 (by omega)
    have a43 := hall 43 (by omega)
    have e := off_norm _ (by intro d hd; simp at hd; omega) S.off
    simp only [List.foldl, S.t0 a0, S.t1 a1, S.t2 a2, S.t3 a3, S.t4 a4, S.t5 a5, S.t6 a6, S.t7 a7, S.t8 a8, S.t9 a9, S.t10 a10, S.t11 a11, S.t12 a12, S.t13 a13, S.t14 a14, S.t15 a15, S.t16 a16, S.t17 a17, S.t18 a18, S.t19 a19, S.t20 a20, S.t21 a21, S.t22 a22, S.t23 a23, S.t24 a24, S.t25 a25, S.t26 a26, S.t27 a27, S.t28 a28, S.t29 a29, S.t30 a30, S.t31 a31, S.t32 a32, S.t33 a33, S.t34 a34, S.t35 a35, S.t36 a36, S.t37 a37, S.t38 a38, S.t39 a39, S.t40 a40, S.t41 a41, S.t42 a42, S.t43 a43] at e
    rw [e]
    exact h _ S.before
end Go.Proofs.Ytgcjfiablcjfgaa
