/- Layer 8, the landed program: Attach. -/
import Derived.Test.YtlfnglinalmpjaaMkPSeq
namespace Go.Proofs.Ytlfnglinalmpjaa
open Go.RowKit
set_option linter.unusedVariables false

set_option maxRecDepth 100000 in
theorem isList_any (s : ByteArray) (n : Nat) (hn : s.size = n) (hl : n ≤ 1000000) (w : World) :
    Calls Try.prog 33 #[.string s] w fun e w' => e = .returned (.bool (listOk s.data.toList)) ∧ w = w' := by
  have SI := Lib.hid (listOk_iff s.data.toList)
  have SN := Lib.hid (fun i hi h => listOk_no (l := s.data.toList) (i := i) hi h)
  rw [ls] at SI SN
  have BY := Lib.hid (fun i h => byte_co s i h)
  have HN := Lib.hid hn
  obtain ⟨b0, hb0⟩ : ∃ b, listOk s.data.toList = b := ⟨_, rfl⟩
  rw [hb0] at SI SN ⊢
  rw [hn] at SI SN
  clear hb0
  go_enter Try.func33, Try.ntmps33
  go_wp2_with fail
  go_loop [6] (fun x => ∃ k : Nat, k ≤ n ∧ x = .int .i64 (k : Nat) ∧ ∀ j, j < k → (Gal.co s.data.toList j).toNat < 2) (fun x => n - (intOf x).toNat)
  case atStart => exact ⟨0, Nat.zero_le _, rfl, fun j h => absurd h (Nat.not_lt_zero j)⟩
  case round =>
    obtain ⟨k, hk, rfl, hall⟩ := hrel
    have HA := Lib.hid hall
    clear hall
    by_cases hlt : k < n
    · have is : k < s.size := by rw [HN.out]; exact hlt
      have bi := BY.out k is
      obtain ⟨x, hx⟩ : ∃ x, (Gal.co s.data.toList k).toNat = x := ⟨_, rfl⟩
      have HX := Lib.hid hx
      rw [hx] at bi
      have x256 : x < 256 := by rw [← hx]; exact (Gal.co s.data.toList k).isLt
      have t1 : decide ((k : Int) < (n : Int)) = true := by simp; omega
      clear hx
      by_cases h1 : x < 2
      · have d1 : decide ((1 : Int) < (x : Int)) = false := by simp; omega
        have HA2 := Lib.hid (show ∀ j, j < k + 1 → (Gal.co s.data.toList j).toNat < 2 from fun j hj => by
          by_cases e : j = k
          · subst e
            rw [HX.out]
            exact h1
          · exact HA.out j (by omega))
        clear SI SN BY HA
        go_wp2_with fail
        go_round
        case rel => exact ⟨k + 1, by omega, by go_num, HA2.out⟩
        case measure => simp [intOf]; omega
      · have d1 : decide ((1 : Int) < (x : Int)) = true := by simp; omega
        have B0 := Lib.hid (SN.out k hlt (by rw [HX.out]; exact h1))
        clear SI SN BY HA
        go_wp2_with fail
        go_ret
        exact ⟨by rw [B0.out]; rfl, rfl⟩
    · have t1 : decide ((k : Int) < (n : Int)) = false := by simp; omega
      have sn := HN.out
      have B0 := Lib.hid (SI.out.2 (fun i hi => HA.out i (by omega)))
      clear SI SN BY HA
      go_wp2_with fail
      go_ret
      exact ⟨by rw [B0.out]; rfl, rfl⟩
theorem patt_form (l : ByteArray) (n : Nat) (hn : l.size = n) (hl : n ≤ 1000000) (h : listOk l.data.toList = false) (w : World) :
    Calls Try.prog 14 #[.string l] w fun e w' => e = .returned (.tuple #[.string ⟨#[]⟩, .int .i64 6]) ∧ w = w' := by
  have LA := Lib.hid (fun w => isList_any l n hn hl w)
  rw [h] at LA
  clear h
  go_enter Try.func14, Try.ntmps14
  go_wp2_with fail
  (with_reducible refine (LA.out _).mono ?_)
  rintro e w' ⟨rfl, rfl⟩
  go_wp2_with fail
  go_ret2
  exact ⟨rfl, rfl⟩
theorem patt_long (l : ByteArray) (n : Nat) (hn : l.size = n) (hl : n ≤ 1000000) (h : listOk l.data.toList = true) (h1 : 20000 < n) (w : World) :
    Calls Try.prog 14 #[.string l] w fun e w' => e = .returned (.tuple #[.string ⟨#[]⟩, .int .i64 3]) ∧ w = w' := by
  have LA := Lib.hid (fun w => isList_any l n hn hl w)
  rw [h] at LA
  have l1 : decide ((20000 : Int) < (n : Int)) = true := by simp; omega
  clear h
  go_enter Try.func14, Try.ntmps14
  go_wp2_with fail
  (with_reducible refine (LA.out _).mono ?_)
  rintro e w' ⟨rfl, rfl⟩
  go_wp2_with fail
  go_ret2
  exact ⟨rfl, rfl⟩
/-- The bytes of Attach. -/
def attf (l : ByteArray) (j : Nat) : BitVec 8 := if j < 32 then mkv j else Gal.co l.data.toList (j - 32)
theorem vals_str (f : Nat → BitVec 8) (n : Nat) : vals f n = (Gal.coefs f n).map (fun b => Value.int .u8 b.toNat) := by
  unfold vals Gal.coefs
  rw [List.map_map]
  rfl
theorem coefs_att (l : ByteArray) (n : Nat) (hn : l.size = n) : Gal.coefs (attf l) (32 + n) = Gal.coefs mkv 32 ++ l.data.toList := by
  have e : Gal.coefs (attf l) (32 + n) = Gal.coefs (attf l) 32 ++ Gal.coefs (fun j => attf l (32 + j)) n := by
    unfold Gal.coefs
    rw [List.range_add, List.map_append, List.map_map]
    rfl
  rw [e, Gal.coefs_congr (f := attf l) (g := mkv) (fun i hi => if_pos hi), Gal.coefs_congr (f := fun j => attf l (32 + j)) (g := Gal.co l.data.toList) (fun i _ => by
    unfold attf
    rw [if_neg (by omega), show 32 + i - 32 = i by omega])]
  have hl : l.data.toList.length = n := by rw [ls, hn]
  have := Gal.coefs_co l.data.toList
  rw [hl] at this
  rw [this]
theorem att_str (l : ByteArray) (n : Nat) (hn : l.size = n) : (⟨(Gal.coefs (attf l) (32 + n)).toArray⟩ : ByteArray) = attS l := by
  rw [coefs_att l n hn]
  unfold attS mkS
  apply ByteArray.ext
  simp
theorem att_vals (l : ByteArray) (n : Nat) (hn : l.size = n) : vals mkv 32 ++ Lib.strCells l = vals (attf l) (32 + n) := by
  rw [vals_str (attf l), coefs_att l n hn, List.map_append, ← vals_str]
  rfl
set_option maxRecDepth 100000 in
set_option maxHeartbeats 1000000 in
theorem patt_any (l : ByteArray) (n : Nat) (hn : l.size = n) (hl : n ≤ 20000) (h : listOk l.data.toList = true) (w : World) :
    Calls Try.prog 14 #[.string l] w fun e w' => e = .returned (.tuple #[.string (attS l), .int .i64 0]) ∧ Below w.heap.size w w' := by
  have LA := Lib.hid (fun w => isList_any l n hn (by omega) w)
  rw [h] at LA
  have l1 : decide ((20000 : Int) < (n : Int)) = false := by simp; omega
  obtain ⟨N, hN⟩ : ∃ N, 32 + n = N := ⟨_, rfl⟩
  have e0 : (32 : Int) + (n : Int) = (N : Int) := by omega
  have AV := Lib.hid (att_vals l n hn)
  have AS := Lib.hid (att_str l n hn)
  rw [hN] at AV AS
  obtain ⟨R, hR⟩ : ∃ R, attS l = R := ⟨_, rfl⟩
  rw [hR] at AS ⊢
  obtain ⟨i0, hi0, hz0, hz1, hz2⟩ := info_parts info_u8
  have HN := Lib.hid hN
  have HL := Lib.hid hn
  have N5 : N ≤ 20032 := by omega
  clear h hN hR
  go_enter Try.func14, Try.ntmps14
  go_wp2_with fail
  (with_reducible refine (LA.out _).mono ?_)
  rintro e w' ⟨rfl, rfl⟩
  go_wp2_with (at_make; refine wpList_make_own _ rfl _ _ 53 rfl w.heap.size 5 i0 (.int .u8 0) 1 Try.underlying53 hi0 hz0 hz1 .i64 .i64 _ N rfl rfl (by first | rfl | omega) (by rw [hz2]; omega) (by unfold maxLen; omega) (Nat.le_refl _) ?_; intro w1 hown1 hg1; have HO1 := Lib.hid hown1; have HB1 := Lib.hid (show Below w.heap.size w w1 from (Below.refl _ _).grown hg1 (Nat.le_refl _) (fun k e => by cases e)); clear hown1 hg1)
  go_loopw [4, 16] (fun o x wr => ∃ k : Nat, k ≤ 32 ∧ x = .int .i64 (k : Nat) ∧ wr.ownsRow w.heap.size 5 1 o k (vals mkv k) ∧ Below w.heap.size w wr) (fun _ x _ => 32 - (intOf x).toNat)
  case atStart => exact ⟨0, Nat.zero_le _, rfl, HO1.out, HB1.out⟩
  case round =>
    obtain ⟨k, hk, rfl, hown, hB⟩ := hrel
    have HO := Lib.hid hown
    have B2 := Lib.hid hB
    clear hown HO1 HB1
    by_cases hlt : k < 32
    · have t3 : decide ((k : Int) < 32) = true := by simp; omega
      obtain ⟨m, hm⟩ : ∃ m, 31 - k = m := ⟨_, rfl⟩
      have e1 : (31 : Int) - (k : Int) = (m : Int) := by omega
      have e2 : IntKind.i64.wrap ((31 : Int) - (k : Int)) = (m : Int) := by rw [IntKind.wrap_i64]; omega
      have m31 : m ≤ 31 := by omega
      have NS := Lib.hid (show vals mkv (k + 1) = vals mkv k ++ [.int .u8 (mkb k : Nat)] by rw [vals_succ, mkv_nat])
      have eb : mkb k = 449838109 / 2 ^ m % 2 := by
        unfold mkb
        rw [hm]
      have b2 := mkb_lt k
      obtain ⟨q, hq⟩ : ∃ q, 449838109 / 2 ^ m = q := ⟨_, rfl⟩
      have q1 : (449838109 : Int) / 2 ^ m = (q : Int) := by
        rw [← hq]
        simp
      have q2 : q ≤ 449838109 := by rw [← hq]; exact Nat.div_le_self _ _
      rw [hq] at eb
      obtain ⟨b, hb⟩ : ∃ b, mkb k = b := ⟨_, rfl⟩
      rw [hb] at eb NS b2
      have q3 : bits .and .u32 (q : Int) 1 = (b : Int) := by
        have := u32_and_nat q 1 (by omega) (by decide)
        rw [show (1 : Nat) = 2 ^ 1 - 1 from rfl, Nat.and_two_pow_sub_one_eq_mod] at this
        rw [eb]
        exact this
      have q4 : IntKind.u8.wrap (b : Int) = (b : Int) := by rw [IntKind.wrap_u8]; omega
      have BA := Lib.hid (ba hB (.cells #[.int .u8 (b : Nat)] 5))
      clear hB hq hb eb hm
      go_wp2_with (at_builtin; go_loud (refine wpList_append_own _ rfl _ _ 53 rfl w.heap.size 5 i0 (.int .u8 0) 1 1 Try.underlying53 hi0 hz0 hz1 hz2 rfl (by decide) _ _ _ rfl (HO.out.alloc _) ⟨wr.heap.size, 0, none⟩ 1 1 [.int .u8 (b : Nat)] rfl rfl cell_one (by simp [Value.oneCell']) (by unfold maxLen; omega) (by omega) (by have := BA.out.size; simp at this ⊢; omega) ?_); intro v' w9 hown2 hgrow _; obtain ⟨g', cap', rfl⟩ := ownsRow_succ hown2; have HO2 := Lib.hid hown2; have BW := Lib.hid (BA.out.grown hgrow BA.out.size (fun k e => own_block_ge HO.out e)); clear hown2 hgrow)
      go_roundw
      case rel => exact ⟨k + 1, by omega, by go_num, by rw [NS.out]; exact HO2.out, BW.out⟩
      case measure => simp [intOf]; omega
    · have t3 : decide ((k : Int) < 32) = false := by simp; omega
      obtain rfl : k = 32 := by omega
      have CV := Lib.hid (fun (v : Value) (w3 : World) (h : w3.ownsRow w.heap.size 5 1 v (32 + l.size) (vals mkv 32 ++ Lib.strCells l)) => own_back (f := attf l) (n := N) (by rw [HL.out, HN.out, AV.out] at h; exact h))
      have SZ := Lib.hid (show w.heap.size ≤ wr.heap.size from B2.out.size)
      clear hB
      go_wp2_with (first
        | (at_builtin; refine Lib.wpList_append_own_string _ rfl _ _ 53 9 rfl w.heap.size 5 i0 Try.underlying53 Try.underlying9 hi0 hz0 hz1 hz2 _ 32 _ rfl HO.out l rfl (by rw [HL.out]; unfold maxLen; omega) (by rw [HL.out]; omega) SZ.out ?_; intro v3 w3 hown3 hgrow3 _; have C3 := Lib.hid (CV.out v3 w3 hown3); have B3 := Lib.hid (B2.out.grown hgrow3 B2.out.size (fun k e => own_block_ge HO.out e)); clear hown3 hgrow3)
        | simp only [C3.out])
      go_ret2
      exact ⟨by rw [AS.out]; rfl, B3.out⟩
end Go.Proofs.Ytlfnglinalmpjaa
