/- FieldsRound: of at most 500 widths and values, and strings of at most 5000 bytes: the program's Unpack returns what its Pack was given, and its Pack of what its Unpack returns is the string. No condition. -/
import Derived.Test.YtgfjmolihobaeaaFldSame
namespace Go.Proofs.Ytgfjmolihobaeaa
open Go.ChangeShapes Go.WideShapes Go.ChangeAt Go.RowKit
set_option linter.unusedVariables false
namespace fieldsRound

set_option maxRecDepth 100000 in
set_option maxHeartbeats 4000000 in
theorem walk0 (a1 : Option Addr) (cap1 : Nat) (zs : List Int) (n : Nat) (hn : zs.length = n) (hc1 : n ≤ cap1) (hm1 : cap1 ≤ 9223372036854775807) (a2 : Option Addr) (cap2 : Nat) (vs : List Nat) (m : Nat) (hmv : vs.length = m) (vb : ∀ j, j < vs.length → vs.getD j 0 < 18446744073709551616) (s : ByteArray) (hl1 : n ≤ 500) (hl2 : m ≤ 500) (hs : s.size ≤ 5000) (w : World) (r1 : Reads .i64 w a1 zs) (r2 : Reads .u64 w a2 (vs.map Int.ofNat)) (e1 : Fld.packE zs vs = 0) (e2 : Fld.unpE zs s.data.toList = 0) :
    Calls Try.prog 7 #[.slice a1 n cap1, .slice a2 m cap2, .string s] w fun e w' => e = .returned (.bool true) ∧ Below w.heap.size w w' := by
  have AW := Lib.hid (fun w => awake_any w)
  have PK := Lib.hid (fun w R1 R2 => pack_any a1 a2 cap1 cap2 zs vs (by omega) (by omega) (by omega) hm1 vb w R1 R2)
  rw [hn, hmv] at PK
  have UB := Lib.hid (fun w R => unpack_any a1 cap1 zs s (by omega) (by omega) hm1 hs w R)
  rw [hn] at UB
  have R1 := Lib.hid r1
  have R2 := Lib.hid r2
  have up := Fld.unp_pack zs vs e1
  have pvl : (Fld.packV zs vs).length ≤ 5000 := by
    have hw : Fld.allW zs = true := by
      unfold Fld.packE at e1
      split at e1
      · rename_i h; exact h.2
      · cases e1
    have pv : Fld.packV zs vs = Fld.packB (Fld.nats zs) vs := by unfold Fld.packV; rw [if_pos e1]
    rw [pv, Fld.packB_length]
    have tb := Fld.tot_le (Fld.nats zs) 64 (fun j hj => (Fld.nats_get hw j (by rw [Fld.nats_length] at hj; exact hj)).2.2) (Fld.nats zs).length (Nat.le_refl _)
    rw [List.take_length, Fld.nats_length] at tb
    omega
  rw [e1] at PK
  obtain ⟨S, hS⟩ : ∃ S : ByteArray, (⟨(Fld.packV zs vs).toArray⟩ : ByteArray) = S := ⟨_, rfl⟩
  have sl : S.data.toList = Fld.packV zs vs := by rw [← hS]
  rw [hS] at PK
  have ssz : S.size ≤ 5000 := by
    have h : S.size = S.data.toList.length := by simp
    rw [h, sl]
    exact pvl
  have UN := Lib.hid (fun w R => unpack_any a1 cap1 zs S (by omega) (by omega) hm1 ssz w R)
  rw [hn, sl] at UN
  have UE1 : Hid (Fld.unpV zs (Fld.packV zs vs) = vs ∧ Fld.unpE zs (Fld.packV zs vs) = 0) := Lib.hid ⟨up.2, up.1⟩
  have VL := Lib.hid hmv
  have SM := Lib.hid (fun a a' c c' w R R' => same_any a a' c c' vs m hmv (by omega) w R R')
  clear up pvl hS sl e1 ssz
  have pu := Fld.pack_unp zs s.data.toList e2
  obtain ⟨us, hus⟩ : ∃ us, Fld.unpV zs s.data.toList = us := ⟨_, rfl⟩
  rw [hus] at pu
  have lus : us.length = n := by
    have h := pu.1
    unfold Fld.packE at h
    split at h
    · rename_i h'; rw [h'.1, hn]
    · cases h
  have ub : ∀ j, j < us.length → us.getD j 0 < 18446744073709551616 := fun j hj => by
    have hv : us = Fld.vals (Fld.nats zs) s.data.toList := by rw [← hus]; unfold Fld.unpV; rw [if_pos e2]
    have hw : Fld.allW zs = true := by
      unfold Fld.unpE at e2
      split at e2
      · assumption
      · cases e2
    have hj' : j < (Fld.nats zs).length := by rw [Fld.nats_length, hn, ← lus]; exact hj
    rw [hv, Fld.vals_get _ _ _ hj']
    exact Nat.lt_of_lt_of_le (Fld.num_lt _ _ _) (Fld.pow_le_64 (Fld.nats_get hw j (by rw [Fld.nats_length] at hj'; exact hj')).2.2)
  have PB := Lib.hid (fun a c w R1 R2 => pack_any a1 a cap1 c zs us (by omega) (by omega) (by omega) hm1 ub w R1 R2)
  rw [hn, lus, pu.1, pu.2, show (⟨s.data.toList.toArray⟩ : ByteArray) = s by cases s; simp] at PB
  have UB0 : Hid (Fld.unpV zs s.data.toList = us ∧ Fld.unpE zs s.data.toList = 0) := Lib.hid ⟨hus, e2⟩
  have VN := Lib.hid lus
  have ss : (s == s) = true := by rw [beq_toListBytes]; simp
  clear pu hus lus ub e2
  clear r1 r2 vb hn hmv
  go_enter Try.func7, Try.ntmps7
  go_wp2_with fail
  (with_reducible refine (PK.out _ R1.out R2.out).mono ?_)
  rintro e w1 ⟨rfl, h1⟩
  have H1 := Lib.hid h1
  have R1a := Lib.hid (R1.out.below h1)
  have R2a := Lib.hid (R2.out.below h1)
  clear h1
  go_wp2_with fail
  (with_reducible refine (UN.out _ R1a.out).mono ?_)
  rintro e w2 ⟨a', cap', rfl, hc', hr', h2⟩
  rw [UE1.out.1] at hr' hc' ⊢
  rw [UE1.out.2]
  rw [VL.out] at hc' ⊢
  have H2 := Lib.hid (bt H1.out h2)
  have R1b := Lib.hid (R1a.out.below h2)
  have R2b := Lib.hid (R2a.out.below h2)
  have RL := Lib.hid hr'
  clear h2 hr' hc'
  go_wp2_with fail
  (with_reducible refine (SM.out _ _ _ _ _ RL.out R2b.out).mono ?_)
  rintro e w3 ⟨rfl, h3⟩
  have H3 := Lib.hid (bt H2.out h3)
  have R1c := Lib.hid (R1b.out.below h3)
  clear h3
  go_wp2_with fail
  (with_reducible refine (UB.out _ R1c.out).mono ?_)
  rintro e w4 ⟨a2', cap2', rfl, hc4, hr4, h4⟩
  have H4 := Lib.hid (bt H3.out h4)
  have R1d := Lib.hid (R1c.out.below h4)
  rw [UB0.out.1] at hr4 hc4 ⊢
  rw [UB0.out.2]
  rw [VN.out] at hc4 ⊢
  have RV := Lib.hid hr4
  have HC4 := Lib.hid hc4
  clear h4 hr4 hc4
  go_wp2_with fail
  (with_reducible refine (PB.out _ _ _ R1d.out RV.out).mono ?_)
  rintro e w5 ⟨rfl, h5⟩
  have H5 := Lib.hid (bt H4.out h5)
  clear h5
  go_wp2_with fail
  (with_reducible refine (AW.out _).mono ?_)
  rintro e w9 ⟨rfl, h9⟩
  have H9 := Lib.hid (bt H5.out h9)
  clear h9
  go_wp2_with fail
  go_ret
  exact ⟨rfl, H9.out⟩

set_option maxRecDepth 100000 in
set_option maxHeartbeats 4000000 in
theorem walk1 (a1 : Option Addr) (cap1 : Nat) (zs : List Int) (n : Nat) (hn : zs.length = n) (hc1 : n ≤ cap1) (hm1 : cap1 ≤ 9223372036854775807) (a2 : Option Addr) (cap2 : Nat) (vs : List Nat) (m : Nat) (hmv : vs.length = m) (vb : ∀ j, j < vs.length → vs.getD j 0 < 18446744073709551616) (s : ByteArray) (hl1 : n ≤ 500) (hl2 : m ≤ 500) (hs : s.size ≤ 5000) (w : World) (r1 : Reads .i64 w a1 zs) (r2 : Reads .u64 w a2 (vs.map Int.ofNat)) (e1 : Fld.packE zs vs = 0) (e2 : ¬ Fld.unpE zs s.data.toList = 0) :
    Calls Try.prog 7 #[.slice a1 n cap1, .slice a2 m cap2, .string s] w fun e w' => e = .returned (.bool true) ∧ Below w.heap.size w w' := by
  have AW := Lib.hid (fun w => awake_any w)
  have PK := Lib.hid (fun w R1 R2 => pack_any a1 a2 cap1 cap2 zs vs (by omega) (by omega) (by omega) hm1 vb w R1 R2)
  rw [hn, hmv] at PK
  have UB := Lib.hid (fun w R => unpack_any a1 cap1 zs s (by omega) (by omega) hm1 hs w R)
  rw [hn] at UB
  have R1 := Lib.hid r1
  have R2 := Lib.hid r2
  have up := Fld.unp_pack zs vs e1
  have pvl : (Fld.packV zs vs).length ≤ 5000 := by
    have hw : Fld.allW zs = true := by
      unfold Fld.packE at e1
      split at e1
      · rename_i h; exact h.2
      · cases e1
    have pv : Fld.packV zs vs = Fld.packB (Fld.nats zs) vs := by unfold Fld.packV; rw [if_pos e1]
    rw [pv, Fld.packB_length]
    have tb := Fld.tot_le (Fld.nats zs) 64 (fun j hj => (Fld.nats_get hw j (by rw [Fld.nats_length] at hj; exact hj)).2.2) (Fld.nats zs).length (Nat.le_refl _)
    rw [List.take_length, Fld.nats_length] at tb
    omega
  rw [e1] at PK
  obtain ⟨S, hS⟩ : ∃ S : ByteArray, (⟨(Fld.packV zs vs).toArray⟩ : ByteArray) = S := ⟨_, rfl⟩
  have sl : S.data.toList = Fld.packV zs vs := by rw [← hS]
  rw [hS] at PK
  have ssz : S.size ≤ 5000 := by
    have h : S.size = S.data.toList.length := by simp
    rw [h, sl]
    exact pvl
  have UN := Lib.hid (fun w R => unpack_any a1 cap1 zs S (by omega) (by omega) hm1 ssz w R)
  rw [hn, sl] at UN
  have UE1 : Hid (Fld.unpV zs (Fld.packV zs vs) = vs ∧ Fld.unpE zs (Fld.packV zs vs) = 0) := Lib.hid ⟨up.2, up.1⟩
  have VL := Lib.hid hmv
  have SM := Lib.hid (fun a a' c c' w R R' => same_any a a' c c' vs m hmv (by omega) w R R')
  clear up pvl hS sl e1 ssz
  have uv0 : Fld.unpV zs s.data.toList = [] := by unfold Fld.unpV; rw [if_neg e2]
  obtain ⟨y, hy⟩ : ∃ y, Fld.unpE zs s.data.toList = y := ⟨_, rfl⟩
  rw [hy] at e2
  have UV0 := Lib.hid uv0
  have UY0 := Lib.hid hy
  clear uv0
  have y1 : (y == 0) = false := by simpa using e2
  have y2 : (y != 0) = true := by simpa using e2
  clear hy e2
  clear r1 r2 vb hn hmv
  go_enter Try.func7, Try.ntmps7
  go_wp2_with fail
  (with_reducible refine (PK.out _ R1.out R2.out).mono ?_)
  rintro e w1 ⟨rfl, h1⟩
  have H1 := Lib.hid h1
  have R1a := Lib.hid (R1.out.below h1)
  have R2a := Lib.hid (R2.out.below h1)
  clear h1
  go_wp2_with fail
  (with_reducible refine (UN.out _ R1a.out).mono ?_)
  rintro e w2 ⟨a', cap', rfl, hc', hr', h2⟩
  rw [UE1.out.1] at hr' hc' ⊢
  rw [UE1.out.2]
  rw [VL.out] at hc' ⊢
  have H2 := Lib.hid (bt H1.out h2)
  have R1b := Lib.hid (R1a.out.below h2)
  have R2b := Lib.hid (R2a.out.below h2)
  have RL := Lib.hid hr'
  clear h2 hr' hc'
  go_wp2_with fail
  (with_reducible refine (SM.out _ _ _ _ _ RL.out R2b.out).mono ?_)
  rintro e w3 ⟨rfl, h3⟩
  have H3 := Lib.hid (bt H2.out h3)
  have R1c := Lib.hid (R1b.out.below h3)
  clear h3
  go_wp2_with fail
  (with_reducible refine (UB.out _ R1c.out).mono ?_)
  rintro e w4 ⟨a2', cap2', rfl, hc4, hr4, h4⟩
  have H4 := Lib.hid (bt H3.out h4)
  have R1d := Lib.hid (R1c.out.below h4)
  rw [UV0.out] at hr4 hc4 ⊢
  rw [UY0.out]
  clear h4 hr4 hc4
  go_wp2_with fail
  (with_reducible refine (AW.out _).mono ?_)
  rintro e w9 ⟨rfl, h9⟩
  have H9 := Lib.hid (bt H4.out h9)
  clear h9
  go_wp2_with fail
  go_ret
  exact ⟨rfl, H9.out⟩

set_option maxRecDepth 100000 in
set_option maxHeartbeats 4000000 in
theorem walk2 (a1 : Option Addr) (cap1 : Nat) (zs : List Int) (n : Nat) (hn : zs.length = n) (hc1 : n ≤ cap1) (hm1 : cap1 ≤ 9223372036854775807) (a2 : Option Addr) (cap2 : Nat) (vs : List Nat) (m : Nat) (hmv : vs.length = m) (vb : ∀ j, j < vs.length → vs.getD j 0 < 18446744073709551616) (s : ByteArray) (hl1 : n ≤ 500) (hl2 : m ≤ 500) (hs : s.size ≤ 5000) (w : World) (r1 : Reads .i64 w a1 zs) (r2 : Reads .u64 w a2 (vs.map Int.ofNat)) (e1 : ¬ Fld.packE zs vs = 0) (e2 : Fld.unpE zs s.data.toList = 0) :
    Calls Try.prog 7 #[.slice a1 n cap1, .slice a2 m cap2, .string s] w fun e w' => e = .returned (.bool true) ∧ Below w.heap.size w w' := by
  have AW := Lib.hid (fun w => awake_any w)
  have PK := Lib.hid (fun w R1 R2 => pack_any a1 a2 cap1 cap2 zs vs (by omega) (by omega) (by omega) hm1 vb w R1 R2)
  rw [hn, hmv] at PK
  have UB := Lib.hid (fun w R => unpack_any a1 cap1 zs s (by omega) (by omega) hm1 hs w R)
  rw [hn] at UB
  have R1 := Lib.hid r1
  have R2 := Lib.hid r2
  obtain ⟨x, hx⟩ : ∃ x, Fld.packE zs vs = x := ⟨_, rfl⟩
  obtain ⟨S, hS⟩ : ∃ S : ByteArray, (⟨(Fld.packV zs vs).toArray⟩ : ByteArray) = S := ⟨_, rfl⟩
  rw [hx, hS] at PK
  rw [hx] at e1
  have x1 : (x == 0) = false := by simpa using e1
  have x2 : (x != 0) = true := by simpa using e1
  clear hx hS e1
  have pu := Fld.pack_unp zs s.data.toList e2
  obtain ⟨us, hus⟩ : ∃ us, Fld.unpV zs s.data.toList = us := ⟨_, rfl⟩
  rw [hus] at pu
  have lus : us.length = n := by
    have h := pu.1
    unfold Fld.packE at h
    split at h
    · rename_i h'; rw [h'.1, hn]
    · cases h
  have ub : ∀ j, j < us.length → us.getD j 0 < 18446744073709551616 := fun j hj => by
    have hv : us = Fld.vals (Fld.nats zs) s.data.toList := by rw [← hus]; unfold Fld.unpV; rw [if_pos e2]
    have hw : Fld.allW zs = true := by
      unfold Fld.unpE at e2
      split at e2
      · assumption
      · cases e2
    have hj' : j < (Fld.nats zs).length := by rw [Fld.nats_length, hn, ← lus]; exact hj
    rw [hv, Fld.vals_get _ _ _ hj']
    exact Nat.lt_of_lt_of_le (Fld.num_lt _ _ _) (Fld.pow_le_64 (Fld.nats_get hw j (by rw [Fld.nats_length] at hj'; exact hj')).2.2)
  have PB := Lib.hid (fun a c w R1 R2 => pack_any a1 a cap1 c zs us (by omega) (by omega) (by omega) hm1 ub w R1 R2)
  rw [hn, lus, pu.1, pu.2, show (⟨s.data.toList.toArray⟩ : ByteArray) = s by cases s; simp] at PB
  have UB0 : Hid (Fld.unpV zs s.data.toList = us ∧ Fld.unpE zs s.data.toList = 0) := Lib.hid ⟨hus, e2⟩
  have VN := Lib.hid lus
  have ss : (s == s) = true := by rw [beq_toListBytes]; simp
  clear pu hus lus ub e2
  clear r1 r2 vb hn hmv
  go_enter Try.func7, Try.ntmps7
  go_wp2_with fail
  (with_reducible refine (PK.out _ R1.out R2.out).mono ?_)
  rintro e w1 ⟨rfl, h1⟩
  have H1 := Lib.hid h1
  have R1a := Lib.hid (R1.out.below h1)
  have R2a := Lib.hid (R2.out.below h1)
  clear h1
  go_wp2_with fail
  (with_reducible refine (UB.out _ R1a.out).mono ?_)
  rintro e w4 ⟨a2', cap2', rfl, hc4, hr4, h4⟩
  have H4 := Lib.hid (bt H1.out h4)
  have R1d := Lib.hid (R1a.out.below h4)
  rw [UB0.out.1] at hr4 hc4 ⊢
  rw [UB0.out.2]
  rw [VN.out] at hc4 ⊢
  have RV := Lib.hid hr4
  have HC4 := Lib.hid hc4
  clear h4 hr4 hc4
  go_wp2_with fail
  (with_reducible refine (PB.out _ _ _ R1d.out RV.out).mono ?_)
  rintro e w5 ⟨rfl, h5⟩
  have H5 := Lib.hid (bt H4.out h5)
  clear h5
  go_wp2_with fail
  (with_reducible refine (AW.out _).mono ?_)
  rintro e w9 ⟨rfl, h9⟩
  have H9 := Lib.hid (bt H5.out h9)
  clear h9
  go_wp2_with fail
  go_ret
  exact ⟨rfl, H9.out⟩

set_option maxRecDepth 100000 in
set_option maxHeartbeats 4000000 in
theorem walk3 (a1 : Option Addr) (cap1 : Nat) (zs : List Int) (n : Nat) (hn : zs.length = n) (hc1 : n ≤ cap1) (hm1 : cap1 ≤ 9223372036854775807) (a2 : Option Addr) (cap2 : Nat) (vs : List Nat) (m : Nat) (hmv : vs.length = m) (vb : ∀ j, j < vs.length → vs.getD j 0 < 18446744073709551616) (s : ByteArray) (hl1 : n ≤ 500) (hl2 : m ≤ 500) (hs : s.size ≤ 5000) (w : World) (r1 : Reads .i64 w a1 zs) (r2 : Reads .u64 w a2 (vs.map Int.ofNat)) (e1 : ¬ Fld.packE zs vs = 0) (e2 : ¬ Fld.unpE zs s.data.toList = 0) :
    Calls Try.prog 7 #[.slice a1 n cap1, .slice a2 m cap2, .string s] w fun e w' => e = .returned (.bool true) ∧ Below w.heap.size w w' := by
  have AW := Lib.hid (fun w => awake_any w)
  have PK := Lib.hid (fun w R1 R2 => pack_any a1 a2 cap1 cap2 zs vs (by omega) (by omega) (by omega) hm1 vb w R1 R2)
  rw [hn, hmv] at PK
  have UB := Lib.hid (fun w R => unpack_any a1 cap1 zs s (by omega) (by omega) hm1 hs w R)
  rw [hn] at UB
  have R1 := Lib.hid r1
  have R2 := Lib.hid r2
  obtain ⟨x, hx⟩ : ∃ x, Fld.packE zs vs = x := ⟨_, rfl⟩
  obtain ⟨S, hS⟩ : ∃ S : ByteArray, (⟨(Fld.packV zs vs).toArray⟩ : ByteArray) = S := ⟨_, rfl⟩
  rw [hx, hS] at PK
  rw [hx] at e1
  have x1 : (x == 0) = false := by simpa using e1
  have x2 : (x != 0) = true := by simpa using e1
  clear hx hS e1
  have uv0 : Fld.unpV zs s.data.toList = [] := by unfold Fld.unpV; rw [if_neg e2]
  obtain ⟨y, hy⟩ : ∃ y, Fld.unpE zs s.data.toList = y := ⟨_, rfl⟩
  rw [hy] at e2
  have UV0 := Lib.hid uv0
  have UY0 := Lib.hid hy
  clear uv0
  have y1 : (y == 0) = false := by simpa using e2
  have y2 : (y != 0) = true := by simpa using e2
  clear hy e2
  clear r1 r2 vb hn hmv
  go_enter Try.func7, Try.ntmps7
  go_wp2_with fail
  (with_reducible refine (PK.out _ R1.out R2.out).mono ?_)
  rintro e w1 ⟨rfl, h1⟩
  have H1 := Lib.hid h1
  have R1a := Lib.hid (R1.out.below h1)
  have R2a := Lib.hid (R2.out.below h1)
  clear h1
  go_wp2_with fail
  (with_reducible refine (UB.out _ R1a.out).mono ?_)
  rintro e w4 ⟨a2', cap2', rfl, hc4, hr4, h4⟩
  have H4 := Lib.hid (bt H1.out h4)
  have R1d := Lib.hid (R1a.out.below h4)
  rw [UV0.out] at hr4 hc4 ⊢
  rw [UY0.out]
  clear h4 hr4 hc4
  go_wp2_with fail
  (with_reducible refine (AW.out _).mono ?_)
  rintro e w9 ⟨rfl, h9⟩
  have H9 := Lib.hid (bt H4.out h9)
  clear h9
  go_wp2_with fail
  go_ret
  exact ⟨rfl, H9.out⟩
end fieldsRound
end Go.Proofs.Ytgfjmolihobaeaa
