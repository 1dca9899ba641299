/- FieldsPacks: of at most 500 widths and values and strings of at most 5000 bytes the program's Pack and Unpack return what the document says, and leave their arguments, and the places behind a list, as they are. No condition. -/
import Derived.Test.YtgfjmolihobaeaaFldLend
import Derived.Test.YtgfjmolihobaeaaFldUnpack3
import Derived.Test.YtgfjmolihobaeaaFldAwake
import Derived.Test.YtgfjmolihobaeaaSlices
namespace Go.Proofs.Ytgfjmolihobaeaa
open Go.ChangeShapes Go.WideShapes Go.ChangeAt Go.RowKit
set_option linter.unusedVariables false
namespace fieldsPacks

set_option maxRecDepth 100000 in
set_option maxHeartbeats 8000000 in
theorem walk0  (cap1 : Nat) (zs : List Int) (n : Nat) (hn : zs.length = n) (hc1 : n ≤ cap1) (hm1 : cap1 ≤ 9223372036854775807) (a2 : Option Addr) (cap2 : Nat) (vs : List Nat) (m : Nat) (hmv : vs.length = m) (hc2 : m ≤ cap2) (hn2 : a2 = none → cap2 = 0) (vb : ∀ j, j < vs.length → vs.getD j 0 < 18446744073709551616) (s : ByteArray) (hl1 : n ≤ 500) (hl2 : m ≤ 500) (hs : s.size ≤ 5000) (w : World) (r1 : Reads .i64 w none zs) (r2 : Reads .u64 w a2 (vs.map Int.ofNat)) (hm0 : m = 0) :
    Calls Try.prog 5 #[.slice none n cap1, .slice a2 m cap2, .string s] w fun e w' => e = .returned (.bool true) ∧ Below w.heap.size w w' := by
  have zn : zs = [] := by
    rcases r1 with h | ⟨b, o, h, _⟩
    · exact h
    · cases h
  have n0 : n = 0 := by rw [← hn, zn]; rfl
  subst n0
  subst hm0
  have AW := Lib.hid (fun w => awake_any w)
  have LD := Lib.hid (lend_nil cap1 w)
  have PK := Lib.hid (fun b c' w a R1 R2 => pack_any a b 0 c' zs vs (by omega) (by omega) (by omega) (by omega) vb w R1 R2)
  have RPK := Lib.hid (fun w R1 R2 => rpack_any none a2 cap1 cap2 zs vs (by omega) (by omega) vb w R1 R2)
  have UN := Lib.hid (fun a w R => unpack_any a 0 zs s (by omega) (by omega) (by omega) hs w R)
  have RUN := Lib.hid (fun w R => runpack_any none cap1 zs s (by omega) hs w R)
  rw [hn, hmv] at PK RPK
  rw [hn] at UN RUN
  obtain ⟨S, hS⟩ : ∃ S : ByteArray, (⟨(Fld.packV zs vs).toArray⟩ : ByteArray) = S := ⟨_, rfl⟩
  obtain ⟨x, hx⟩ : ∃ x, Fld.packE zs vs = x := ⟨_, rfl⟩
  rw [hS, hx] at PK RPK
  obtain ⟨us, hus⟩ : ∃ us, Fld.unpV zs s.data.toList = us := ⟨_, rfl⟩
  obtain ⟨y, hy⟩ : ∃ y, Fld.unpE zs s.data.toList = y := ⟨_, rfl⟩
  obtain ⟨q, hq⟩ : ∃ q, us.length = q := ⟨_, rfl⟩
  have ql : q ≤ 500 := by
    rw [← hq, ← hus]
    unfold Fld.unpV
    split
    · rw [Fld.vals_length, Fld.nats_length]; omega
    · simp
  have SM1 := Lib.hid (fun a a' c c' w R R' => same_any a a' c c' us q hq (by omega) w R R')
  have SM2 := Lib.hid (fun a c w R R' => same_any a a2 c cap2 vs 0 hmv (by omega) w R R')
  have ss : (S == S) = true := by rw [beq_toListBytes]; simp
  have US := Lib.hid hus
  have UY := Lib.hid hy
  have UQ := Lib.hid hq
  have R1 := Lib.hid r1
  have R2 := Lib.hid r2
  have MV := Lib.hid hmv
  have ZN := Lib.hid hn
  obtain ⟨i0, hi, hz0, hz1, hz2⟩ := info_parts info_u64
  have VL := Lib.hid (show ((vs.map Int.ofNat).map (Value.int .u64)).length = 0 * 1 by simp [hmv])
  clear r1 r2 vb hn hmv hS hx hus hy hq zn
  go_enter Try.func5, Try.ntmps5
  go_wp2_with fail
  (with_reducible refine LD.out.mono ?_)
  rintro e w1 ⟨rfl, rfl⟩
  have H1 := Lib.hid (Below.refl w.heap.size w)
  have R1a := Lib.hid R1.out
  have R2a := Lib.hid R2.out
  have B0 := Lib.hid (H1.out.alloc H1.out.size (.cells #[] 23))
  go_wp2_with (at_builtin; refine wpList_append_fits_any _ rfl _ _ 37 rfl w.heap.size 23 i0 1 Try.underlying37 hi hz1 w.heap.size 0 0 [] rfl (World.ownsRow_made w #[] 0 (Nat.le_refl _) (by unfold maxLen; omega) rfl) a2 0 cap2 [] rfl rfl (fun h => ⟨rfl, hn2 h⟩) (fun _ _ j u hu => by simp at hu) (by simp) (by omega) ?_; intro w2 hown2 hg2; have B2 := Lib.hid (B0.out.grown hg2 B0.out.size (fun k e => by cases e; exact H1.out.size)); have G2 := Lib.hid (show Below w.heap.size w w2 from ((Below.refl _ _).alloc (Nat.le_refl _) _).grown hg2 (by simp) (fun k e => by cases e; exact Nat.le_refl _)); clear hown2 hg2)
  have RG := Lib.hid (show Reads .u64 w2 (some ⟨w.heap.size, 0, none⟩) (vs.map Int.ofNat) from .inl (List.eq_nil_of_length_eq_zero (by rw [List.length_map]; exact MV.out)))
  have H_0 := Lib.hid B2.out
  have R1_0 := Lib.hid (R1a.out.below G2.out)
  have R2_0 := Lib.hid (R2a.out.below G2.out)
  have RG_0 := Lib.hid RG.out
  (with_reducible refine (PK.out _ _ _ _ R1_0.out RG_0.out).mono ?_)
  rintro e w3 ⟨rfl, h⟩
  have H_1 := Lib.hid (bt H_0.out h)
  have R1_1 := Lib.hid (R1_0.out.below h)
  have R2_1 := Lib.hid (R2_0.out.below h)
  have RG_1 := Lib.hid (RG_0.out.below h)
  clear h R1_0 R2_0 RG_0 H_0
  go_wp2_with fail
  (with_reducible refine (RPK.out _ R1_1.out R2_1.out).mono ?_)
  rintro e w4 ⟨rfl, h⟩
  have H_2 := Lib.hid (bt H_1.out h)
  have R1_2 := Lib.hid (R1_1.out.below h)
  have R2_2 := Lib.hid (R2_1.out.below h)
  have RG_2 := Lib.hid (RG_1.out.below h)
  clear h R1_1 R2_1 RG_1 H_1
  go_wp2_with fail
  (with_reducible refine (UN.out _ _ R1_2.out).mono ?_)
  rintro e w5 ⟨al, cl, rfl, hc5, hr5, h⟩
  rw [US.out] at hr5 hc5 ⊢
  rw [UY.out]
  rw [UQ.out] at hc5 ⊢
  have RA_3 := Lib.hid hr5
  clear hr5
  have H_3 := Lib.hid (bt H_2.out h)
  have R1_3 := Lib.hid (R1_2.out.below h)
  have R2_3 := Lib.hid (R2_2.out.below h)
  have RG_3 := Lib.hid (RG_2.out.below h)
  clear h R1_2 R2_2 RG_2 H_2
  go_wp2_with fail
  (with_reducible refine (RUN.out _ R1_3.out).mono ?_)
  rintro e w6 ⟨am, cm, rfl, hc6, hr6, h⟩
  rw [US.out] at hr6 hc6 ⊢
  rw [UY.out]
  rw [UQ.out] at hc6 ⊢
  have RB_4 := Lib.hid hr6
  clear hr6
  have H_4 := Lib.hid (bt H_3.out h)
  have R1_4 := Lib.hid (R1_3.out.below h)
  have R2_4 := Lib.hid (R2_3.out.below h)
  have RG_4 := Lib.hid (RG_3.out.below h)
  have RA_4 := Lib.hid (RA_3.out.below h)
  clear h R1_3 R2_3 RG_3 RA_3 H_3
  go_wp2_with fail
  (with_reducible refine (SM1.out _ _ _ _ _ RA_4.out RB_4.out).mono ?_)
  rintro e w7 ⟨rfl, h⟩
  have H_5 := Lib.hid (bt H_4.out h)
  have R1_5 := Lib.hid (R1_4.out.below h)
  have R2_5 := Lib.hid (R2_4.out.below h)
  have RG_5 := Lib.hid (RG_4.out.below h)
  have RA_5 := Lib.hid (RA_4.out.below h)
  have RB_5 := Lib.hid (RB_4.out.below h)
  clear h R1_4 R2_4 RG_4 RA_4 RB_4 H_4
  go_wp2_with fail
  (with_reducible refine (SM2.out _ _ _ RG_5.out R2_5.out).mono ?_)
  rintro e w8 ⟨rfl, h⟩
  have H_6 := Lib.hid (bt H_5.out h)
  have R1_6 := Lib.hid (R1_5.out.below h)
  have R2_6 := Lib.hid (R2_5.out.below h)
  have RG_6 := Lib.hid (RG_5.out.below h)
  have RA_6 := Lib.hid (RA_5.out.below h)
  have RB_6 := Lib.hid (RB_5.out.below h)
  clear h R1_5 R2_5 RG_5 RA_5 RB_5 H_5
  go_wp2_with fail
  (with_reducible refine (kept_nil 0 cap1 _).mono ?_)
  rintro e w9 ⟨rfl, h⟩
  have H_7 := Lib.hid (bt H_6.out h)
  clear h
  go_wp2_with fail
  (with_reducible refine (AW.out _).mono ?_)
  rintro e w10 ⟨rfl, h⟩
  have H_8 := Lib.hid (bt H_7.out h)
  clear h
  go_wp2_with fail
  go_ret
  exact ⟨rfl, H_8.out⟩

set_option maxRecDepth 100000 in
set_option maxHeartbeats 8000000 in
theorem walk1  (cap1 : Nat) (zs : List Int) (n : Nat) (hn : zs.length = n) (hc1 : n ≤ cap1) (hm1 : cap1 ≤ 9223372036854775807) (a2 : Option Addr) (cap2 : Nat) (vs : List Nat) (m : Nat) (hmv : vs.length = m) (hc2 : m ≤ cap2) (hn2 : a2 = none → cap2 = 0) (vb : ∀ j, j < vs.length → vs.getD j 0 < 18446744073709551616) (s : ByteArray) (hl1 : n ≤ 500) (hl2 : m ≤ 500) (hs : s.size ≤ 5000) (w : World) (r1 : Reads .i64 w none zs) (r2 : Reads .u64 w a2 (vs.map Int.ofNat)) (hm0 : 0 < m) :
    Calls Try.prog 5 #[.slice none n cap1, .slice a2 m cap2, .string s] w fun e w' => e = .returned (.bool true) ∧ Below w.heap.size w w' := by
  have zn : zs = [] := by
    rcases r1 with h | ⟨b, o, h, _⟩
    · exact h
    · cases h
  have n0 : n = 0 := by rw [← hn, zn]; rfl
  subst n0
  obtain ⟨b2, o2, rfl, l2, c2⟩ := r2.cell (by rw [List.length_map]; omega)
  have AW := Lib.hid (fun w => awake_any w)
  have LD := Lib.hid (lend_nil cap1 w)
  have PK := Lib.hid (fun b c' w a R1 R2 => pack_any a b 0 c' zs vs (by omega) (by omega) (by omega) (by omega) vb w R1 R2)
  have RPK := Lib.hid (fun w R1 R2 => rpack_any none (some ⟨b2, o2, none⟩) cap1 cap2 zs vs (by omega) (by omega) vb w R1 R2)
  have UN := Lib.hid (fun a w R => unpack_any a 0 zs s (by omega) (by omega) (by omega) hs w R)
  have RUN := Lib.hid (fun w R => runpack_any none cap1 zs s (by omega) hs w R)
  rw [hn, hmv] at PK RPK
  rw [hn] at UN RUN
  obtain ⟨S, hS⟩ : ∃ S : ByteArray, (⟨(Fld.packV zs vs).toArray⟩ : ByteArray) = S := ⟨_, rfl⟩
  obtain ⟨x, hx⟩ : ∃ x, Fld.packE zs vs = x := ⟨_, rfl⟩
  rw [hS, hx] at PK RPK
  obtain ⟨us, hus⟩ : ∃ us, Fld.unpV zs s.data.toList = us := ⟨_, rfl⟩
  obtain ⟨y, hy⟩ : ∃ y, Fld.unpE zs s.data.toList = y := ⟨_, rfl⟩
  obtain ⟨q, hq⟩ : ∃ q, us.length = q := ⟨_, rfl⟩
  have ql : q ≤ 500 := by
    rw [← hq, ← hus]
    unfold Fld.unpV
    split
    · rw [Fld.vals_length, Fld.nats_length]; omega
    · simp
  have SM1 := Lib.hid (fun a a' c c' w R R' => same_any a a' c c' us q hq (by omega) w R R')
  have SM2 := Lib.hid (fun a c w R R' => same_any a (some ⟨b2, o2, none⟩) c cap2 vs m hmv (by omega) w R R')
  have ss : (S == S) = true := by rw [beq_toListBytes]; simp
  have US := Lib.hid hus
  have UY := Lib.hid hy
  have UQ := Lib.hid hq
  have R1 := Lib.hid r1
  have R2 := Lib.hid r2
  have MV := Lib.hid hmv
  have ZN := Lib.hid hn
  obtain ⟨i0, hi, hz0, hz1, hz2⟩ := info_parts info_u64
  have VL := Lib.hid (show ((vs.map Int.ofNat).map (Value.int .u64)).length = m * 1 by simp [hmv])
  clear r1 r2 vb hn hmv hS hx hus hy hq zn c2
  go_enter Try.func5, Try.ntmps5
  go_wp2_with fail
  (with_reducible refine LD.out.mono ?_)
  rintro e w1 ⟨rfl, rfl⟩
  have H1 := Lib.hid (Below.refl w.heap.size w)
  have R1a := Lib.hid R1.out
  have R2a := Lib.hid R2.out
  have B0 := Lib.hid (H1.out.alloc H1.out.size (.cells #[] 23))
  go_wp2_with (at_builtin; refine wpList_append_grows _ rfl _ _ 37 rfl 23 i0 (.int .u64 0) 1 8 Try.underlying37 hi hz0 hz1 hz2 rfl (by decide) (some ⟨w.heap.size, 0, none⟩) 0 0 [] rfl (fun h => by cases h) rfl (fun _ _ j u hu => by simp at hu) ⟨b2, o2, none⟩ m cap2 ((vs.map Int.ofNat).map (Value.int .u64)) rfl VL.out (reads_cells (R2a.out.below ((Below.refl _ _).alloc (Nat.le_refl _) _)) _ rfl) (by simp [Value.oneCell']) (by omega) (by unfold maxLen; omega) (by omega) ?_; intro v' w2 hown2 hg2; have B2 := Lib.hid (B0.out.grown hg2 B0.out.size (fun k e => by cases e)); have G2 := Lib.hid (show Below w.heap.size w w2 from ((Below.refl _ _).alloc (Nat.le_refl _) _).grown hg2 (by simp) (fun k e => by cases e)); obtain ⟨ga, gc, rfl⟩ := own_slice hown2; have HO := Lib.hid hown2; clear hown2 hg2)
  have RG := Lib.hid (reads_own (zs := vs.map Int.ofNat) (by simpa using HO.out)).1
  have H_0 := Lib.hid B2.out
  have R1_0 := Lib.hid (R1a.out.below G2.out)
  have R2_0 := Lib.hid (R2a.out.below G2.out)
  have RG_0 := Lib.hid RG.out
  (with_reducible refine (PK.out _ _ _ _ R1_0.out RG_0.out).mono ?_)
  rintro e w3 ⟨rfl, h⟩
  have H_1 := Lib.hid (bt H_0.out h)
  have R1_1 := Lib.hid (R1_0.out.below h)
  have R2_1 := Lib.hid (R2_0.out.below h)
  have RG_1 := Lib.hid (RG_0.out.below h)
  clear h R1_0 R2_0 RG_0 H_0
  go_wp2_with fail
  (with_reducible refine (RPK.out _ R1_1.out R2_1.out).mono ?_)
  rintro e w4 ⟨rfl, h⟩
  have H_2 := Lib.hid (bt H_1.out h)
  have R1_2 := Lib.hid (R1_1.out.below h)
  have R2_2 := Lib.hid (R2_1.out.below h)
  have RG_2 := Lib.hid (RG_1.out.below h)
  clear h R1_1 R2_1 RG_1 H_1
  go_wp2_with fail
  (with_reducible refine (UN.out _ _ R1_2.out).mono ?_)
  rintro e w5 ⟨al, cl, rfl, hc5, hr5, h⟩
  rw [US.out] at hr5 hc5 ⊢
  rw [UY.out]
  rw [UQ.out] at hc5 ⊢
  have RA_3 := Lib.hid hr5
  clear hr5
  have H_3 := Lib.hid (bt H_2.out h)
  have R1_3 := Lib.hid (R1_2.out.below h)
  have R2_3 := Lib.hid (R2_2.out.below h)
  have RG_3 := Lib.hid (RG_2.out.below h)
  clear h R1_2 R2_2 RG_2 H_2
  go_wp2_with fail
  (with_reducible refine (RUN.out _ R1_3.out).mono ?_)
  rintro e w6 ⟨am, cm, rfl, hc6, hr6, h⟩
  rw [US.out] at hr6 hc6 ⊢
  rw [UY.out]
  rw [UQ.out] at hc6 ⊢
  have RB_4 := Lib.hid hr6
  clear hr6
  have H_4 := Lib.hid (bt H_3.out h)
  have R1_4 := Lib.hid (R1_3.out.below h)
  have R2_4 := Lib.hid (R2_3.out.below h)
  have RG_4 := Lib.hid (RG_3.out.below h)
  have RA_4 := Lib.hid (RA_3.out.below h)
  clear h R1_3 R2_3 RG_3 RA_3 H_3
  go_wp2_with fail
  (with_reducible refine (SM1.out _ _ _ _ _ RA_4.out RB_4.out).mono ?_)
  rintro e w7 ⟨rfl, h⟩
  have H_5 := Lib.hid (bt H_4.out h)
  have R1_5 := Lib.hid (R1_4.out.below h)
  have R2_5 := Lib.hid (R2_4.out.below h)
  have RG_5 := Lib.hid (RG_4.out.below h)
  have RA_5 := Lib.hid (RA_4.out.below h)
  have RB_5 := Lib.hid (RB_4.out.below h)
  clear h R1_4 R2_4 RG_4 RA_4 RB_4 H_4
  go_wp2_with fail
  (with_reducible refine (SM2.out _ _ _ RG_5.out R2_5.out).mono ?_)
  rintro e w8 ⟨rfl, h⟩
  have H_6 := Lib.hid (bt H_5.out h)
  have R1_6 := Lib.hid (R1_5.out.below h)
  have R2_6 := Lib.hid (R2_5.out.below h)
  have RG_6 := Lib.hid (RG_5.out.below h)
  have RA_6 := Lib.hid (RA_5.out.below h)
  have RB_6 := Lib.hid (RB_5.out.below h)
  clear h R1_5 R2_5 RG_5 RA_5 RB_5 H_5
  go_wp2_with fail
  (with_reducible refine (kept_nil 0 cap1 _).mono ?_)
  rintro e w9 ⟨rfl, h⟩
  have H_7 := Lib.hid (bt H_6.out h)
  clear h
  go_wp2_with fail
  (with_reducible refine (AW.out _).mono ?_)
  rintro e w10 ⟨rfl, h⟩
  have H_8 := Lib.hid (bt H_7.out h)
  clear h
  go_wp2_with fail
  go_ret
  exact ⟨rfl, H_8.out⟩

set_option maxRecDepth 100000 in
set_option maxHeartbeats 8000000 in
theorem walk2 (a1 : Addr) (cap1 : Nat) (zs : List Int) (n : Nat) (hn : zs.length = n) (hc1 : n ≤ cap1) (hm1 : cap1 ≤ 9223372036854775807) (a2 : Option Addr) (cap2 : Nat) (vs : List Nat) (m : Nat) (hmv : vs.length = m) (hc2 : m ≤ cap2) (hn2 : a2 = none → cap2 = 0) (vb : ∀ j, j < vs.length → vs.getD j 0 < 18446744073709551616) (s : ByteArray) (hl1 : n ≤ 500) (hl2 : m ≤ 500) (hs : s.size ≤ 5000) (w : World) (r1 : Reads .i64 w (some a1) zs) (r2 : Reads .u64 w a2 (vs.map Int.ofNat)) (hm0 : m = 0) :
    Calls Try.prog 5 #[.slice (some a1) n cap1, .slice a2 m cap2, .string s] w fun e w' => e = .returned (.bool true) ∧ Below w.heap.size w w' := by
  subst hm0
  have AW := Lib.hid (fun w => awake_any w)
  have LD := Lib.hid (lend_some a1 cap1 zs n hn hl1 hc1 w r1)
  have PK := Lib.hid (fun b c' w a R1 R2 => pack_any a b (n + 1) c' zs vs (by omega) (by omega) (by omega) (by omega) vb w R1 R2)
  have RPK := Lib.hid (fun w R1 R2 => rpack_any (some a1) a2 cap1 cap2 zs vs (by omega) (by omega) vb w R1 R2)
  have UN := Lib.hid (fun a w R => unpack_any a (n + 1) zs s (by omega) (by omega) (by omega) hs w R)
  have RUN := Lib.hid (fun w R => runpack_any (some a1) cap1 zs s (by omega) hs w R)
  rw [hn, hmv] at PK RPK
  rw [hn] at UN RUN
  obtain ⟨S, hS⟩ : ∃ S : ByteArray, (⟨(Fld.packV zs vs).toArray⟩ : ByteArray) = S := ⟨_, rfl⟩
  obtain ⟨x, hx⟩ : ∃ x, Fld.packE zs vs = x := ⟨_, rfl⟩
  rw [hS, hx] at PK RPK
  obtain ⟨us, hus⟩ : ∃ us, Fld.unpV zs s.data.toList = us := ⟨_, rfl⟩
  obtain ⟨y, hy⟩ : ∃ y, Fld.unpE zs s.data.toList = y := ⟨_, rfl⟩
  obtain ⟨q, hq⟩ : ∃ q, us.length = q := ⟨_, rfl⟩
  have ql : q ≤ 500 := by
    rw [← hq, ← hus]
    unfold Fld.unpV
    split
    · rw [Fld.vals_length, Fld.nats_length]; omega
    · simp
  have SM1 := Lib.hid (fun a a' c c' w R R' => same_any a a' c c' us q hq (by omega) w R R')
  have SM2 := Lib.hid (fun a c w R R' => same_any a a2 c cap2 vs 0 hmv (by omega) w R R')
  have ss : (S == S) = true := by rw [beq_toListBytes]; simp
  have US := Lib.hid hus
  have UY := Lib.hid hy
  have UQ := Lib.hid hq
  have R1 := Lib.hid r1
  have R2 := Lib.hid r2
  have MV := Lib.hid hmv
  have ZN := Lib.hid hn
  obtain ⟨i0, hi, hz0, hz1, hz2⟩ := info_parts info_u64
  have VL := Lib.hid (show ((vs.map Int.ofNat).map (Value.int .u64)).length = 0 * 1 by simp [hmv])
  clear r1 r2 vb hn hmv hS hx hus hy hq
  go_enter Try.func5, Try.ntmps5
  go_wp2_with fail
  (with_reducible refine LD.out.mono ?_)
  rintro e w1 ⟨g, rfl, hL, h1⟩
  have L1 := Lib.hid hL
  have H1 := Lib.hid h1
  have R1a := Lib.hid (R1.out.below h1)
  have R2a := Lib.hid (R2.out.below h1)
  clear h1 hL
  have B0 := Lib.hid (H1.out.alloc H1.out.size (.cells #[] 23))
  go_wp2_with (at_builtin; refine wpList_append_fits_any _ rfl _ _ 37 rfl w1.heap.size 23 i0 1 Try.underlying37 hi hz1 w1.heap.size 0 0 [] rfl (World.ownsRow_made w1 #[] 0 (Nat.le_refl _) (by unfold maxLen; omega) rfl) a2 0 cap2 [] rfl rfl (fun h => ⟨rfl, hn2 h⟩) (fun _ _ j u hu => by simp at hu) (by simp) (by omega) ?_; intro w2 hown2 hg2; have B2 := Lib.hid (B0.out.grown hg2 B0.out.size (fun k e => by cases e; exact H1.out.size)); have G2 := Lib.hid (show Below w1.heap.size w1 w2 from ((Below.refl _ _).alloc (Nat.le_refl _) _).grown hg2 (by simp) (fun k e => by cases e; exact Nat.le_refl _)); clear hown2 hg2)
  have RG := Lib.hid (show Reads .u64 w2 (some ⟨w1.heap.size, 0, none⟩) (vs.map Int.ofNat) from .inl (List.eq_nil_of_length_eq_zero (by rw [List.length_map]; exact MV.out)))
  have H_0 := Lib.hid B2.out
  have R1_0 := Lib.hid (R1a.out.below G2.out)
  have R2_0 := Lib.hid (R2a.out.below G2.out)
  have RG_0 := Lib.hid RG.out
  have L_0 := Lib.hid (L1.out.below G2.out)
  (with_reducible refine (PK.out _ _ _ _ L_0.out.reads RG_0.out).mono ?_)
  rintro e w3 ⟨rfl, h⟩
  have H_1 := Lib.hid (bt H_0.out h)
  have R1_1 := Lib.hid (R1_0.out.below h)
  have R2_1 := Lib.hid (R2_0.out.below h)
  have RG_1 := Lib.hid (RG_0.out.below h)
  have L_1 := Lib.hid (L_0.out.below h)
  clear h R1_0 R2_0 RG_0 L_0 H_0
  go_wp2_with fail
  (with_reducible refine (RPK.out _ R1_1.out R2_1.out).mono ?_)
  rintro e w4 ⟨rfl, h⟩
  have H_2 := Lib.hid (bt H_1.out h)
  have R1_2 := Lib.hid (R1_1.out.below h)
  have R2_2 := Lib.hid (R2_1.out.below h)
  have RG_2 := Lib.hid (RG_1.out.below h)
  have L_2 := Lib.hid (L_1.out.below h)
  clear h R1_1 R2_1 RG_1 L_1 H_1
  go_wp2_with fail
  (with_reducible refine (UN.out _ _ L_2.out.reads).mono ?_)
  rintro e w5 ⟨al, cl, rfl, hc5, hr5, h⟩
  rw [US.out] at hr5 hc5 ⊢
  rw [UY.out]
  rw [UQ.out] at hc5 ⊢
  have RA_3 := Lib.hid hr5
  clear hr5
  have H_3 := Lib.hid (bt H_2.out h)
  have R1_3 := Lib.hid (R1_2.out.below h)
  have R2_3 := Lib.hid (R2_2.out.below h)
  have RG_3 := Lib.hid (RG_2.out.below h)
  have L_3 := Lib.hid (L_2.out.below h)
  clear h R1_2 R2_2 RG_2 L_2 H_2
  go_wp2_with fail
  (with_reducible refine (RUN.out _ R1_3.out).mono ?_)
  rintro e w6 ⟨am, cm, rfl, hc6, hr6, h⟩
  rw [US.out] at hr6 hc6 ⊢
  rw [UY.out]
  rw [UQ.out] at hc6 ⊢
  have RB_4 := Lib.hid hr6
  clear hr6
  have H_4 := Lib.hid (bt H_3.out h)
  have R1_4 := Lib.hid (R1_3.out.below h)
  have R2_4 := Lib.hid (R2_3.out.below h)
  have RG_4 := Lib.hid (RG_3.out.below h)
  have L_4 := Lib.hid (L_3.out.below h)
  have RA_4 := Lib.hid (RA_3.out.below h)
  clear h R1_3 R2_3 RG_3 L_3 RA_3 H_3
  go_wp2_with fail
  (with_reducible refine (SM1.out _ _ _ _ _ RA_4.out RB_4.out).mono ?_)
  rintro e w7 ⟨rfl, h⟩
  have H_5 := Lib.hid (bt H_4.out h)
  have R1_5 := Lib.hid (R1_4.out.below h)
  have R2_5 := Lib.hid (R2_4.out.below h)
  have RG_5 := Lib.hid (RG_4.out.below h)
  have L_5 := Lib.hid (L_4.out.below h)
  have RA_5 := Lib.hid (RA_4.out.below h)
  have RB_5 := Lib.hid (RB_4.out.below h)
  clear h R1_4 R2_4 RG_4 L_4 RA_4 RB_4 H_4
  go_wp2_with fail
  (with_reducible refine (SM2.out _ _ _ RG_5.out R2_5.out).mono ?_)
  rintro e w8 ⟨rfl, h⟩
  have H_6 := Lib.hid (bt H_5.out h)
  have R1_6 := Lib.hid (R1_5.out.below h)
  have R2_6 := Lib.hid (R2_5.out.below h)
  have RG_6 := Lib.hid (RG_5.out.below h)
  have L_6 := Lib.hid (L_5.out.below h)
  have RA_6 := Lib.hid (RA_5.out.below h)
  have RB_6 := Lib.hid (RB_5.out.below h)
  clear h R1_5 R2_5 RG_5 L_5 RA_5 RB_5 H_5
  go_wp2_with fail
  (with_reducible refine (kept_some g a1 cap1 zs n ZN.out hl1 _ L_6.out R1_6.out).mono ?_)
  rintro e w9 ⟨rfl, h⟩
  have H_7 := Lib.hid (bt H_6.out h)
  clear h
  go_wp2_with fail
  (with_reducible refine (AW.out _).mono ?_)
  rintro e w10 ⟨rfl, h⟩
  have H_8 := Lib.hid (bt H_7.out h)
  clear h
  go_wp2_with fail
  go_ret
  exact ⟨rfl, H_8.out⟩

set_option maxRecDepth 100000 in
set_option maxHeartbeats 8000000 in
theorem walk3 (a1 : Addr) (cap1 : Nat) (zs : List Int) (n : Nat) (hn : zs.length = n) (hc1 : n ≤ cap1) (hm1 : cap1 ≤ 9223372036854775807) (a2 : Option Addr) (cap2 : Nat) (vs : List Nat) (m : Nat) (hmv : vs.length = m) (hc2 : m ≤ cap2) (hn2 : a2 = none → cap2 = 0) (vb : ∀ j, j < vs.length → vs.getD j 0 < 18446744073709551616) (s : ByteArray) (hl1 : n ≤ 500) (hl2 : m ≤ 500) (hs : s.size ≤ 5000) (w : World) (r1 : Reads .i64 w (some a1) zs) (r2 : Reads .u64 w a2 (vs.map Int.ofNat)) (hm0 : 0 < m) :
    Calls Try.prog 5 #[.slice (some a1) n cap1, .slice a2 m cap2, .string s] w fun e w' => e = .returned (.bool true) ∧ Below w.heap.size w w' := by
  obtain ⟨b2, o2, rfl, l2, c2⟩ := r2.cell (by rw [List.length_map]; omega)
  have AW := Lib.hid (fun w => awake_any w)
  have LD := Lib.hid (lend_some a1 cap1 zs n hn hl1 hc1 w r1)
  have PK := Lib.hid (fun b c' w a R1 R2 => pack_any a b (n + 1) c' zs vs (by omega) (by omega) (by omega) (by omega) vb w R1 R2)
  have RPK := Lib.hid (fun w R1 R2 => rpack_any (some a1) (some ⟨b2, o2, none⟩) cap1 cap2 zs vs (by omega) (by omega) vb w R1 R2)
  have UN := Lib.hid (fun a w R => unpack_any a (n + 1) zs s (by omega) (by omega) (by omega) hs w R)
  have RUN := Lib.hid (fun w R => runpack_any (some a1) cap1 zs s (by omega) hs w R)
  rw [hn, hmv] at PK RPK
  rw [hn] at UN RUN
  obtain ⟨S, hS⟩ : ∃ S : ByteArray, (⟨(Fld.packV zs vs).toArray⟩ : ByteArray) = S := ⟨_, rfl⟩
  obtain ⟨x, hx⟩ : ∃ x, Fld.packE zs vs = x := ⟨_, rfl⟩
  rw [hS, hx] at PK RPK
  obtain ⟨us, hus⟩ : ∃ us, Fld.unpV zs s.data.toList = us := ⟨_, rfl⟩
  obtain ⟨y, hy⟩ : ∃ y, Fld.unpE zs s.data.toList = y := ⟨_, rfl⟩
  obtain ⟨q, hq⟩ : ∃ q, us.length = q := ⟨_, rfl⟩
  have ql : q ≤ 500 := by
    rw [← hq, ← hus]
    unfold Fld.unpV
    split
    · rw [Fld.vals_length, Fld.nats_length]; omega
    · simp
  have SM1 := Lib.hid (fun a a' c c' w R R' => same_any a a' c c' us q hq (by omega) w R R')
  have SM2 := Lib.hid (fun a c w R R' => same_any a (some ⟨b2, o2, none⟩) c cap2 vs m hmv (by omega) w R R')
  have ss : (S == S) = true := by rw [beq_toListBytes]; simp
  have US := Lib.hid hus
  have UY := Lib.hid hy
  have UQ := Lib.hid hq
  have R1 := Lib.hid r1
  have R2 := Lib.hid r2
  have MV := Lib.hid hmv
  have ZN := Lib.hid hn
  obtain ⟨i0, hi, hz0, hz1, hz2⟩ := info_parts info_u64
  have VL := Lib.hid (show ((vs.map Int.ofNat).map (Value.int .u64)).length = m * 1 by simp [hmv])
  clear r1 r2 vb hn hmv hS hx hus hy hq c2
  go_enter Try.func5, Try.ntmps5
  go_wp2_with fail
  (with_reducible refine LD.out.mono ?_)
  rintro e w1 ⟨g, rfl, hL, h1⟩
  have L1 := Lib.hid hL
  have H1 := Lib.hid h1
  have R1a := Lib.hid (R1.out.below h1)
  have R2a := Lib.hid (R2.out.below h1)
  clear h1 hL
  have B0 := Lib.hid (H1.out.alloc H1.out.size (.cells #[] 23))
  go_wp2_with (at_builtin; refine wpList_append_grows _ rfl _ _ 37 rfl 23 i0 (.int .u64 0) 1 8 Try.underlying37 hi hz0 hz1 hz2 rfl (by decide) (some ⟨w1.heap.size, 0, none⟩) 0 0 [] rfl (fun h => by cases h) rfl (fun _ _ j u hu => by simp at hu) ⟨b2, o2, none⟩ m cap2 ((vs.map Int.ofNat).map (Value.int .u64)) rfl VL.out (reads_cells (R2a.out.below ((Below.refl _ _).alloc (Nat.le_refl _) _)) _ rfl) (by simp [Value.oneCell']) (by omega) (by unfold maxLen; omega) (by omega) ?_; intro v' w2 hown2 hg2; have B2 := Lib.hid (B0.out.grown hg2 B0.out.size (fun k e => by cases e)); have G2 := Lib.hid (show Below w1.heap.size w1 w2 from ((Below.refl _ _).alloc (Nat.le_refl _) _).grown hg2 (by simp) (fun k e => by cases e)); obtain ⟨ga, gc, rfl⟩ := own_slice hown2; have HO := Lib.hid hown2; clear hown2 hg2)
  have RG := Lib.hid (reads_own (zs := vs.map Int.ofNat) (by simpa using HO.out)).1
  have H_0 := Lib.hid B2.out
  have R1_0 := Lib.hid (R1a.out.below G2.out)
  have R2_0 := Lib.hid (R2a.out.below G2.out)
  have RG_0 := Lib.hid RG.out
  have L_0 := Lib.hid (L1.out.below G2.out)
  (with_reducible refine (PK.out _ _ _ _ L_0.out.reads RG_0.out).mono ?_)
  rintro e w3 ⟨rfl, h⟩
  have H_1 := Lib.hid (bt H_0.out h)
  have R1_1 := Lib.hid (R1_0.out.below h)
  have R2_1 := Lib.hid (R2_0.out.below h)
  have RG_1 := Lib.hid (RG_0.out.below h)
  have L_1 := Lib.hid (L_0.out.below h)
  clear h R1_0 R2_0 RG_0 L_0 H_0
  go_wp2_with fail
  (with_reducible refine (RPK.out _ R1_1.out R2_1.out).mono ?_)
  rintro e w4 ⟨rfl, h⟩
  have H_2 := Lib.hid (bt H_1.out h)
  have R1_2 := Lib.hid (R1_1.out.below h)
  have R2_2 := Lib.hid (R2_1.out.below h)
  have RG_2 := Lib.hid (RG_1.out.below h)
  have L_2 := Lib.hid (L_1.out.below h)
  clear h R1_1 R2_1 RG_1 L_1 H_1
  go_wp2_with fail
  (with_reducible refine (UN.out _ _ L_2.out.reads).mono ?_)
  rintro e w5 ⟨al, cl, rfl, hc5, hr5, h⟩
  rw [US.out] at hr5 hc5 ⊢
  rw [UY.out]
  rw [UQ.out] at hc5 ⊢
  have RA_3 := Lib.hid hr5
  clear hr5
  have H_3 := Lib.hid (bt H_2.out h)
  have R1_3 := Lib.hid (R1_2.out.below h)
  have R2_3 := Lib.hid (R2_2.out.below h)
  have RG_3 := Lib.hid (RG_2.out.below h)
  have L_3 := Lib.hid (L_2.out.below h)
  clear h R1_2 R2_2 RG_2 L_2 H_2
  go_wp2_with fail
  (with_reducible refine (RUN.out _ R1_3.out).mono ?_)
  rintro e w6 ⟨am, cm, rfl, hc6, hr6, h⟩
  rw [US.out] at hr6 hc6 ⊢
  rw [UY.out]
  rw [UQ.out] at hc6 ⊢
  have RB_4 := Lib.hid hr6
  clear hr6
  have H_4 := Lib.hid (bt H_3.out h)
  have R1_4 := Lib.hid (R1_3.out.below h)
  have R2_4 := Lib.hid (R2_3.out.below h)
  have RG_4 := Lib.hid (RG_3.out.below h)
  have L_4 := Lib.hid (L_3.out.below h)
  have RA_4 := Lib.hid (RA_3.out.below h)
  clear h R1_3 R2_3 RG_3 L_3 RA_3 H_3
  go_wp2_with fail
  (with_reducible refine (SM1.out _ _ _ _ _ RA_4.out RB_4.out).mono ?_)
  rintro e w7 ⟨rfl, h⟩
  have H_5 := Lib.hid (bt H_4.out h)
  have R1_5 := Lib.hid (R1_4.out.below h)
  have R2_5 := Lib.hid (R2_4.out.below h)
  have RG_5 := Lib.hid (RG_4.out.below h)
  have L_5 := Lib.hid (L_4.out.below h)
  have RA_5 := Lib.hid (RA_4.out.below h)
  have RB_5 := Lib.hid (RB_4.out.below h)
  clear h R1_4 R2_4 RG_4 L_4 RA_4 RB_4 H_4
  go_wp2_with fail
  (with_reducible refine (SM2.out _ _ _ RG_5.out R2_5.out).mono ?_)
  rintro e w8 ⟨rfl, h⟩
  have H_6 := Lib.hid (bt H_5.out h)
  have R1_6 := Lib.hid (R1_5.out.below h)
  have R2_6 := Lib.hid (R2_5.out.below h)
  have RG_6 := Lib.hid (RG_5.out.below h)
  have L_6 := Lib.hid (L_5.out.below h)
  have RA_6 := Lib.hid (RA_5.out.below h)
  have RB_6 := Lib.hid (RB_5.out.below h)
  clear h R1_5 R2_5 RG_5 L_5 RA_5 RB_5 H_5
  go_wp2_with fail
  (with_reducible refine (kept_some g a1 cap1 zs n ZN.out hl1 _ L_6.out R1_6.out).mono ?_)
  rintro e w9 ⟨rfl, h⟩
  have H_7 := Lib.hid (bt H_6.out h)
  clear h
  go_wp2_with fail
  (with_reducible refine (AW.out _).mono ?_)
  rintro e w10 ⟨rfl, h⟩
  have H_8 := Lib.hid (bt H_7.out h)
  clear h
  go_wp2_with fail
  go_ret
  exact ⟨rfl, H_8.out⟩
end fieldsPacks
end Go.Proofs.Ytgfjmolihobaeaa
