/- PkGet -/
import Derived.Test.YtgcjfiablcjfgaaPkTake
/- Layer 9: the reference's Get and Idle. -/
namespace Go.Proofs.Ytgcjfiablcjfgaa
open Go.RowKit
set_option linter.unusedVariables false

/-- What Get returns. -/
def getV (l : List UInt8) : Value :=
  match Pk.take l with
  | .ok p n => if n = l.length then .tuple #[pkVal p, .int .i64 0] else .tuple #[pkVal pk0, .int .i64 6]
  | _ => .tuple #[pkVal pk0, .int .i64 6]
/-- What Take returns, in one form. -/
theorem tkV_form (r : Pk.Res) : ∃ (p : Pkt) (n : Nat) (c : Int), tkV r = .tuple #[pkVal p, .int .i64 (n : Nat), .int .i64 c] ∧ ((c = 0 ∧ r = .ok p n) ∨ (c ≠ 0 ∧ ∀ q k, r ≠ .ok q k)) := by
  cases r with
  | ok p n => exact ⟨p, n, 0, rfl, .inl ⟨rfl, rfl⟩⟩
  | none => exact ⟨pk0, 0, 4, rfl, .inr ⟨by decide, fun q k h => by cases h⟩⟩
  | form => exact ⟨pk0, 0, 6, rfl, .inr ⟨by decide, fun q k h => by cases h⟩⟩
set_option maxRecDepth 100000 in
set_option maxHeartbeats 4000000 in
theorem rget_any (b : ByteArray) (hs : b.size ≤ 1000000) (w : World) : Calls Try.prog 48 #[.string b] w fun e w' => e = .returned (getV b.data.toList) ∧ Below w.heap.size w w' := by
  have TK := Lib.hid (fun w => rtake_any b hs w)
  have C := pk_new pk0 w
  have B := Lib.hid (ba (Below.refl w.heap.size w) (.cells #[.bool false, .int .i64 0, .int .i64 0, .int .i64 0, .string ⟨#[]⟩] 63))
  obtain ⟨n, hn⟩ : ∃ n, b.size = n := ⟨_, rfl⟩
  have HN := Lib.hid hn
  have LL := Lib.hid (show b.data.toList.length = n by rw [ls, hn])
  obtain ⟨w1, hw1⟩ : ∃ w1, w.alloc (.cells #[.bool false, .int .i64 0, .int .i64 0, .int .i64 0, .string ⟨#[]⟩] 63) = w1 := ⟨_, rfl⟩
  obtain ⟨X, hX⟩ : ∃ X, w.heap.size = X := ⟨_, rfl⟩
  rw [hw1] at B
  have C1 : Cel w1 X 5 (pkCel pk0) := by rw [← hw1, ← hX]; exact C
  have HW := Lib.hid hw1
  have HX := Lib.hid hX
  have HC := Lib.hid C1
  clear C hw1 C1 hX hn
  obtain ⟨p, k, c, hv, hr⟩ := tkV_form (Pk.take b.data.toList)
  have GV := Lib.hid (show getV b.data.toList = if c = 0 ∧ k = n then .tuple #[pkVal p, .int .i64 0] else .tuple #[pkVal pk0, .int .i64 6] from by
    unfold getV
    rw [LL.out]
    rcases hr with ⟨h1, h2⟩ | ⟨h1, h2⟩
    · rw [h2]
      by_cases g : k = n
      · rw [if_pos ⟨h1, g⟩]
        simp [g]
      · rw [if_neg (fun h => g h.2)]
        simp [g]
    · rw [if_neg (fun h => h1 h.1)]
      cases h : Pk.take b.data.toList with
      | ok q j => exact absurd h (h2 q j)
      | none => rfl
      | form => rfl)
  obtain ⟨V, hV⟩ : ∃ V, getV b.data.toList = V := ⟨_, rfl⟩
  rw [hV] at GV ⊢
  rw [hv] at TK
  obtain ⟨cmd, ap, fl, ct, da⟩ := p
  unfold pkVal at TK GV
  simp only at TK GV
  have sn := HN.out
  clear hv hr hV
  go_enter Try.func48, Try.ntmps48
  go_wp2_with (simp only [HW.out, HX.out])
  (with_reducible refine (TK.out _).mono ?_)
  rintro e w2 ⟨rfl, h2⟩
  obtain ⟨g, hg⟩ : ∃ g, w2.heap.size = g := ⟨_, rfl⟩
  obtain ⟨w3, hw3⟩ : ∃ w3, w2.alloc (.cells #[.bool false, .int .i64 0, .int .i64 0, .int .i64 0, .string ⟨#[]⟩] 63) = w3 := ⟨_, rfl⟩
  have B2 := bt B.out h2
  have B23 : Below w2.heap.size w2 w3 := hw3 ▸ ba (Below.refl _ _) _
  have CG : Cel w3 g 5 (pkCel pk0) := by rw [← hw3, ← hg]; exact pk_new pk0 w2
  have CX : Cel w3 X 5 (pkCel pk0) := (HC.out.below h2).below B23
  have XG : X ≠ g := by
    have := HC.out.lt
    have := h2.size
    omega
  obtain ⟨w4, hw4⟩ : ∃ w4, w3.setCells g 0 [.bool cmd, .int .i64 ap, .int .i64 fl, .int .i64 ct, .string da] = w4 := ⟨_, rfl⟩
  have CX4 := Lib.hid (show Cel w4 X 5 (pkCel pk0) from hw4 ▸ CX.manyOther (c := g) (p := 0) [.bool cmd, .int .i64 ap, .int .i64 fl, .int .i64 ct, .string da] XG)
  have CG4 := Lib.hid (show Cel w4 g 5 (pkCel ⟨cmd, ap, fl, ct, da⟩) from hw4 ▸ store_pk w3 g ⟨cmd, ap, fl, ct, da⟩ pk0 CG)
  have B4 := Lib.hid (show Below w.heap.size w w4 from hw4 ▸ below_setCells (B := w.heap.size) (b := g) (by rw [← hg]; exact B2.size) [.bool cmd, .int .i64 ap, .int .i64 fl, .int .i64 ct, .string da] 0 w3 (bt B2 B23))
  have HG := Lib.hid hg
  have HW3 := Lib.hid hw3
  have HW4 := Lib.hid hw4
  have HCG := Lib.hid CG
  clear hg hw3 hw4 B2 B23 CG CX XG h2
  by_cases c0 : c = 0
  · have d1 : (c != 0) = false := by simp; omega
    by_cases kn : k = n
    · have E := Lib.hid (show V = .tuple #[.agg #[.bool cmd, .int .i64 ap, .int .i64 fl, .int .i64 ct, .string da], .int .i64 0] by rw [GV.out, if_pos ⟨c0, kn⟩])
      have d2 : ((k : Int) != (n : Int)) = false := by simp; omega
      clear c0 kn
      go_wp2_with (first
        | (refine wpList_store_mid rfl 63 (.tmp 2) (.tmp 22) rfl X 0 #[.bool cmd, .int .i64 ap, .int .i64 fl, .int .i64 ct, .string da] rfl rfl (CX4.out.there 0 5 (by omega)) info_pk (by simp [Value.oneCell']) ?_; have C7 := Lib.hid (store_pk w4 X ⟨cmd, ap, fl, ct, da⟩ pk0 CX4.out); have B7 := Lib.hid (below_setCells (B := w.heap.size) (b := X) (by rw [HX.out]; omega) [.bool cmd, .int .i64 ap, .int .i64 fl, .int .i64 ct, .string da] 0 w4 B4.out))
        | (refine wpList_store_mid rfl 63 (.tmp 4) (.tmp 10) rfl g 0 #[.bool cmd, .int .i64 ap, .int .i64 fl, .int .i64 ct, .string da] rfl rfl (HCG.out.there 0 5 (by omega)) info_pk (by simp [Value.oneCell']) ?_; rw [show w3.setCells g 0 (#[.bool cmd, .int .i64 ap, .int .i64 fl, .int .i64 ct, .string da] : Array Value).toList = w4 from HW4.out])
        | (refine wpList_load_mid rfl 63 (.tmp 4) rfl g 0 rfl [.bool cmd, .int .i64 ap, .int .i64 fl, .int .i64 ct, .string da] _ (pk_range CG4.out) Try.underlying63 rfl info_pk ?_)
        | simp only [HW3.out, HG.out])
      refine bodyPost_ret (v := .tuple #[.agg #[.bool cmd, .int .i64 ap, .int .i64 fl, .int .i64 ct, .string da], .int .i64 0]) (results_cell_t1 Try.results48 _ _ X [.bool cmd, .int .i64 ap, .int .i64 fl, .int .i64 ct, .string da] _ rfl (pk_range C7.out) Try.underlying63 rfl info_pk) rfl ⟨by rw [E.out], by first | exact B7.out | (have := B7.out; rw [HX.out] at this; exact this)⟩
    · have E := Lib.hid (show V = .tuple #[.agg #[.bool false, .int .i64 0, .int .i64 0, .int .i64 0, .string ⟨#[]⟩], .int .i64 6] by rw [GV.out, if_neg (fun h => kn h.2)]; rfl)
      have d2 : ((k : Int) != (n : Int)) = true := by simp; omega
      clear c0 kn
      go_wp2_with (first
        | (refine wpList_store_mid rfl 63 (.tmp 2) (.tmp 21) rfl X 0 #[.bool false, .int .i64 0, .int .i64 0, .int .i64 0, .string ⟨#[]⟩] rfl rfl (CX4.out.there 0 5 (by omega)) info_pk (by simp [Value.oneCell']) ?_; have C7 := Lib.hid (store_pk w4 X pk0 pk0 CX4.out); have B7 := Lib.hid (below_setCells (B := w.heap.size) (b := X) (by rw [HX.out]; omega) [.bool false, .int .i64 0, .int .i64 0, .int .i64 0, .string ⟨#[]⟩] 0 w4 B4.out))
        | (refine wpList_store_mid rfl 63 (.tmp 4) (.tmp 10) rfl g 0 #[.bool cmd, .int .i64 ap, .int .i64 fl, .int .i64 ct, .string da] rfl rfl (HCG.out.there 0 5 (by omega)) info_pk (by simp [Value.oneCell']) ?_; rw [show w3.setCells g 0 (#[.bool cmd, .int .i64 ap, .int .i64 fl, .int .i64 ct, .string da] : Array Value).toList = w4 from HW4.out])
        | (refine wpList_load_mid rfl 63 (.tmp 4) rfl g 0 rfl [.bool cmd, .int .i64 ap, .int .i64 fl, .int .i64 ct, .string da] _ (pk_range CG4.out) Try.underlying63 rfl info_pk ?_)
        | simp only [HW3.out, HG.out])
      refine bodyPost_ret (v := .tuple #[.agg #[.bool false, .int .i64 0, .int .i64 0, .int .i64 0, .string ⟨#[]⟩], .int .i64 6]) (results_cell_t1 Try.results48 _ _ X [.bool false, .int .i64 0, .int .i64 0, .int .i64 0, .string ⟨#[]⟩] _ rfl (pk_range C7.out) Try.underlying63 rfl info_pk) rfl ⟨by rw [E.out], by first | exact B7.out | (have := B7.out; rw [HX.out] at this; exact this)⟩
  · have E := Lib.hid (show V = .tuple #[.agg #[.bool false, .int .i64 0, .int .i64 0, .int .i64 0, .string ⟨#[]⟩], .int .i64 6] by rw [GV.out, if_neg (fun h => c0 h.1)]; rfl)
    have d1 : (c != 0) = true := by simp; omega
    clear c0
    go_wp2_with (first
      | (refine wpList_store_mid rfl 63 (.tmp 2) (.tmp 21) rfl X 0 #[.bool false, .int .i64 0, .int .i64 0, .int .i64 0, .string ⟨#[]⟩] rfl rfl (CX4.out.there 0 5 (by omega)) info_pk (by simp [Value.oneCell']) ?_; have C7 := Lib.hid (store_pk w4 X pk0 pk0 CX4.out); have B7 := Lib.hid (below_setCells (B := w.heap.size) (b := X) (by rw [HX.out]; omega) [.bool false, .int .i64 0, .int .i64 0, .int .i64 0, .string ⟨#[]⟩] 0 w4 B4.out))
      | (refine wpList_store_mid rfl 63 (.tmp 4) (.tmp 10) rfl g 0 #[.bool cmd, .int .i64 ap, .int .i64 fl, .int .i64 ct, .string da] rfl rfl (HCG.out.there 0 5 (by omega)) info_pk (by simp [Value.oneCell']) ?_; rw [show w3.setCells g 0 (#[.bool cmd, .int .i64 ap, .int .i64 fl, .int .i64 ct, .string da] : Array Value).toList = w4 from HW4.out])
      | (refine wpList_load_mid rfl 63 (.tmp 4) rfl g 0 rfl [.bool cmd, .int .i64 ap, .int .i64 fl, .int .i64 ct, .string da] _ (pk_range CG4.out) Try.underlying63 rfl info_pk ?_)
      | simp only [HW3.out, HG.out])
    refine bodyPost_ret (v := .tuple #[.agg #[.bool false, .int .i64 0, .int .i64 0, .int .i64 0, .string ⟨#[]⟩], .int .i64 6]) (results_cell_t1 Try.results48 _ _ X [.bool false, .int .i64 0, .int .i64 0, .int .i64 0, .string ⟨#[]⟩] _ rfl (pk_range C7.out) Try.underlying63 rfl info_pk) rfl ⟨by rw [E.out], by first | exact B7.out | (have := B7.out; rw [HX.out] at this; exact this)⟩
/-- Bytes 0. -/
def zer (n : Nat) : ByteArray := ⟨(Gal.coefs (fun _ => 0#8) n).toArray⟩
theorem zer_size (n : Nat) : (zer n).size = n := coefs_size _ _
/-- The idle packet. -/
def pkIdle (n : Nat) : Pkt := ⟨false, 2047, 3, 0, zer n⟩
theorem idle_ok (n : Nat) (h1 : 1 ≤ n) (h2 : n ≤ 1024) : Pk.Ok (pkIdle n) := ⟨by show (0 : Int) ≤ 2047 ∧ (2047 : Int) ≤ 2047; omega, by show (0 : Int) ≤ 3 ∧ (3 : Int) ≤ 3; omega, by show (0 : Int) ≤ 0 ∧ (0 : Int) ≤ 16383; omega, by show 1 ≤ (zer n).size; rw [zer_size]; exact h1, by show (zer n).size ≤ 1024; rw [zer_size]; exact h2⟩
theorem ridle_no (n : Int) (h : n < 7 ∨ 1030 < n) (w : World) : Calls Try.prog 47 #[.int .i64 n] w fun e w' => e = .returned (.tuple #[.string ⟨#[]⟩, .int .i64 2]) ∧ w = w' := by
  by_cases g : n < 7
  · have t1 : decide (n < 7) = true := by simp; omega
    go_enter Try.func47, Try.ntmps47
    go_wp2_with fail
    go_ret2
    exact ⟨rfl, rfl⟩
  · have t1 : decide (n < 7) = false := by simp; omega
    have t2 : decide (1030 < n) = true := by simp; omega
    go_enter Try.func47, Try.ntmps47
    go_wp2_with fail
    go_ret2
    exact ⟨rfl, rfl⟩
set_option maxRecDepth 100000 in
theorem ridle_any (s : Nat) (h1 : 7 ≤ s) (h2 : s ≤ 1030) (w : World) : Calls Try.prog 47 #[.int .i64 (s : Nat)] w fun e w' => e = .returned (.tuple #[.string (bs (Pk.enc (pkIdle (s - 6)))), .int .i64 0]) ∧ Below w.heap.size w w' := by
  obtain ⟨i0, hi, hz0, hz1, hz2⟩ := info_parts info_u8
  have t1 : decide ((s : Int) < 7) = false := by simp; omega
  have t2 : decide (1030 < (s : Int)) = false := by simp; omega
  obtain ⟨n, hn⟩ : ∃ n, s - 6 = n := ⟨_, rfl⟩
  have e1 : (s : Int) - 6 = (n : Int) := by omega
  have e2 : IntKind.i64.wrap ((s : Int) - 6) = (n : Int) := by rw [IntKind.wrap_i64]; omega
  rw [hn]
  have CO := Lib.hid (fun w => rcode_any (pkIdle n) (idle_ok n (by omega) (by omega)) w)
  obtain ⟨R, hR⟩ : ∃ R, bs (Pk.enc (pkIdle n)) = R := ⟨_, rfl⟩
  rw [hR] at CO ⊢
  unfold pkIdle pkVal at CO
  simp only at CO
  have n1 : n ≤ 1024 := by omega
  obtain ⟨Z, hZ⟩ : ∃ Z, zer n = Z := ⟨_, rfl⟩
  rw [hZ] at CO
  have HZ := Lib.hid hZ
  clear hR hn hZ
  go_enter Try.func47, Try.ntmps47
  go_wp2_with (first
    | (at_make; refine wpList_make_full _ rfl _ _ 40 rfl w.heap.size 5 i0 (.int .u8 0) 1 Try.underlying40 hi hz0 hz1 .i64 .i64 _ _ n rfl rfl (by first | rfl | omega) (by first | rfl | omega) (by rw [hz2]; omega) (by unfold maxLen; omega) (Nat.le_refl _) ?_; intro w2 hown hgrow; have B2 := Lib.hid ((Below.refl w.heap.size w).grown hgrow (Nat.le_refl _) (fun k e => by cases e)); have CV := Lib.hid (show (convert 40 9 (.slice (some ⟨w.heap.size, 0, none⟩) n n)).run Try.prog w2 = .ok (.string Z) w2 from HZ.out ▸ nums_back (f := fun _ => 0#8) n (madeNums hown)); clear hown hgrow)
    | simp only [CV.out])
  (with_reducible refine (CO.out _).mono ?_)
  rintro e w3 ⟨rfl, h3⟩
  have B3 := Lib.hid (bt B2.out h3)
  clear h3
  go_wp2_with fail
  go_ret2
  exact ⟨rfl, B3.out⟩
end Go.Proofs.Ytgcjfiablcjfgaa
