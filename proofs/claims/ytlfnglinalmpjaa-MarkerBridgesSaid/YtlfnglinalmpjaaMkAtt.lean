/- Layer 8: the reference's Marker and Attach. -/
import Derived.Test.YtlfnglinalmpjaaMkMix
import Derived.Test.YtlfnglinalmpjaaVitRef
namespace Go.Proofs.Ytlfnglinalmpjaa
open Go.RowKit
set_option linter.unusedVariables false

/-- The bits of the marker, the highest first. -/
def mkb (k : Nat) : Nat := 449838109 / 2 ^ (31 - k) % 2
def mkv (k : Nat) : BitVec 8 := BitVec.ofNat 8 (mkb k)
theorem mkb_lt (k : Nat) : mkb k < 2 := Nat.mod_lt _ (by decide)
theorem mkv_nat (k : Nat) : (mkv k).toNat = mkb k := by
  have := mkb_lt k
  unfold mkv
  rw [BitVec.toNat_ofNat]
  omega
def mkS : ByteArray := ⟨(Gal.coefs mkv 32).toArray⟩
set_option maxRecDepth 100000 in
set_option maxHeartbeats 2000000 in
theorem rmarker_any (w : World) : Calls Try.prog 29 #[] w fun e w' => e = .returned (.string mkS) ∧ Below w.heap.size w w' := by
  obtain ⟨i0, hi0, hz0, hz1, hz2⟩ := info_parts info_u8
  have HS := Lib.hid (show mkS = ⟨(Gal.coefs mkv 32).toArray⟩ from rfl)
  obtain ⟨R, hR⟩ : ∃ R, mkS = R := ⟨_, rfl⟩
  rw [hR] at HS ⊢
  clear hR
  go_enter Try.func29, Try.ntmps29
  go_wp2_with fail
  go_loopw [1, 2] (fun o x wr => ∃ (k : Nat) (i : Int), k ≤ 32 ∧ i = 31 - (k : Int) ∧ x = .int .i64 i ∧ wr.ownsRow w.heap.size 5 1 o k (vals mkv k) ∧ Below w.heap.size w wr) (fun _ x _ => (match x with | .int _ i => (i + 1).toNat | _ => 0))
  case atStart => exact ⟨0, 31, by omega, by omega, rfl, World.ownsRow_nil _ _ _ _, Below.refl _ _⟩
  case round =>
    obtain ⟨k, i, hk, hki, rfl, hown, hB⟩ := hrel
    have HO := Lib.hid hown
    have SL := Lib.hid (own_slen hown)
    have B2 := Lib.hid hB
    clear hown
    by_cases hlt : k < 32
    · obtain ⟨m, rfl⟩ : ∃ m : Nat, i = (m : Int) := ⟨i.toNat, by omega⟩
      have t3 : decide ((0 : Int) ≤ (m : Int)) = true := by simp
      have m31 : m ≤ 31 := by omega
      have NS := Lib.hid (show vals mkv (k + 1) = vals mkv k ++ [.int .u8 (mkb k : Nat)] by rw [vals_succ, mkv_nat])
      have eb : mkb k = 449838109 / 2 ^ m % 2 := by
        unfold mkb
        rw [show 31 - k = m by omega]
      have b2 := mkb_lt k
      obtain ⟨q, hq⟩ : ∃ q, 449838109 / 2 ^ m = q := ⟨_, rfl⟩
      have q1 : (449838109 : Int) / 2 ^ m = (q : Int) := by
        rw [← hq]
        simp
      have q2 : q ≤ 449838109 := by rw [← hq]; exact Nat.div_le_self _ _
      rw [hq] at eb
      obtain ⟨b, hb⟩ : ∃ b, mkb k = b := ⟨_, rfl⟩
      rw [hb] at eb NS b2
      have q3 : (q : Int).tmod 2 = (b : Int) := by rw [Int.tmod_eq_emod_of_nonneg (by omega)]; omega
      have q4 : IntKind.u8.wrap (b : Int) = (b : Int) := by rw [IntKind.wrap_u8]; omega
      have BA := Lib.hid (ba hB (.cells #[.int .u8 (b : Nat)] 5))
      have HK := Lib.hid hki
      clear hB hq hb eb hki
      go_wp2_with (at_builtin; go_loud (refine wpList_append_own _ rfl _ _ 53 rfl w.heap.size 5 i0 (.int .u8 0) 1 1 Try.underlying53 hi0 hz0 hz1 hz2 rfl (by decide) _ _ _ rfl (HO.out.alloc _) ⟨wr.heap.size, 0, none⟩ 1 1 [.int .u8 (b : Nat)] rfl rfl cell_one (by simp [Value.oneCell']) (by unfold maxLen; omega) (by omega) (by have := BA.out.size; simp at this ⊢; omega) ?_); intro v' w9 hown2 hgrow _; obtain ⟨g', cap', rfl⟩ := ownsRow_succ hown2; have HO2 := Lib.hid hown2; have BW := Lib.hid (BA.out.grown hgrow BA.out.size (fun k e => own_block_ge HO.out e)); clear hown2 hgrow)
      go_roundw
      case rel => exact ⟨k + 1, (m : Int) - 1, by omega, by have := HK.out; omega, by go_num, by rw [NS.out]; exact HO2.out, BW.out⟩
      case measure => simp
    · obtain rfl : k = 32 := by omega
      obtain rfl : i = -1 := by omega
      have CV := Lib.hid (own_back HO.out)
      have HS1 := HS.out
      clear hB hki
      go_wp2_with (simp only [CV.out])
      go_ret
      exact ⟨by rw [HS1]; rfl, B2.out⟩
/-- What Attach returns. -/
def attS (l : ByteArray) : ByteArray := mkS ++ l
theorem ratt_form (l : ByteArray) (n : Nat) (hn : l.size = n) (hl : n ≤ 1000000) (h : listOk l.data.toList = false) (w : World) :
    Calls Try.prog 15 #[.string l] w fun e w' => e = .returned (.tuple #[.string ⟨#[]⟩, .int .i64 6]) ∧ w = w' := by
  have LA := Lib.hid (fun w => list_any l n hn hl w)
  rw [h] at LA
  clear h
  go_enter Try.func15, Try.ntmps15
  go_wp2_with fail
  (with_reducible refine (LA.out _).mono ?_)
  rintro e w' ⟨rfl, rfl⟩
  go_wp2_with fail
  go_ret2
  exact ⟨rfl, rfl⟩
theorem ratt_long (l : ByteArray) (n : Nat) (hn : l.size = n) (hl : n ≤ 1000000) (h : listOk l.data.toList = true) (h1 : 20000 < n) (w : World) :
    Calls Try.prog 15 #[.string l] w fun e w' => e = .returned (.tuple #[.string ⟨#[]⟩, .int .i64 3]) ∧ w = w' := by
  have LA := Lib.hid (fun w => list_any l n hn hl w)
  rw [h] at LA
  have l1 : decide ((20000 : Int) < (n : Int)) = true := by simp; omega
  clear h
  go_enter Try.func15, Try.ntmps15
  go_wp2_with fail
  (with_reducible refine (LA.out _).mono ?_)
  rintro e w' ⟨rfl, rfl⟩
  go_wp2_with fail
  go_ret2
  exact ⟨rfl, rfl⟩
theorem ratt_any (l : ByteArray) (n : Nat) (hn : l.size = n) (hl : n ≤ 20000) (h : listOk l.data.toList = true) (w : World) :
    Calls Try.prog 15 #[.string l] w fun e w' => e = .returned (.tuple #[.string (attS l), .int .i64 0]) ∧ Below w.heap.size w w' := by
  have LA := Lib.hid (fun w => list_any l n hn (by omega) w)
  rw [h] at LA
  have l1 : decide ((20000 : Int) < (n : Int)) = false := by simp; omega
  have MK := Lib.hid (fun w => rmarker_any w)
  have HA := Lib.hid (show attS l = mkS ++ l from rfl)
  have sM : mkS.size = 32 := coefs_size _ _
  obtain ⟨M, hM⟩ : ∃ M, mkS = M := ⟨_, rfl⟩
  rw [hM] at MK HA sM
  clear h hM
  go_enter Try.func15, Try.ntmps15
  go_wp2_with fail
  (with_reducible refine (LA.out _).mono ?_)
  rintro e w' ⟨rfl, rfl⟩
  go_wp2_with fail
  (with_reducible refine (MK.out _).mono ?_)
  rintro e w1 ⟨rfl, h1⟩
  have B1 := Lib.hid h1
  go_wp2_with fail
  go_ret2
  exact ⟨by rw [HA.out]; rfl, B1.out⟩
end Go.Proofs.Ytlfnglinalmpjaa
