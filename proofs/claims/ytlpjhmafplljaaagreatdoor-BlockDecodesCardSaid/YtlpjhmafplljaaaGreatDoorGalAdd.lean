/- The contract of galois' add over this program. -/
import Derived.Test.YtlpjhmafplljaaaGreatDoorGalReg
namespace Go.Proofs.YtlpjhmafplljaaaGreatDoor
open Go.RowKit
set_option linter.unusedVariables false

/-- The first k bytes of a row are added. -/
def rowF (f : Nat → BitVec 8) (x : BitVec 8) (g : Nat → BitVec 8) (at0 k j : Nat) : BitVec 8 := if at0 ≤ j ∧ j < at0 + k then f j ^^^ Gal.mul x (g (j - at0)) else f j
theorem rowF_zero (f : Nat → BitVec 8) (x : BitVec 8) (g : Nat → BitVec 8) (at0 j : Nat) : rowF f x g at0 0 j = f j := by
  unfold rowF
  rw [if_neg (by omega)]
theorem rowF_at (f : Nat → BitVec 8) (x : BitVec 8) (g : Nat → BitVec 8) (at0 k : Nat) : rowF f x g at0 k (at0 + k) = f (at0 + k) := by
  unfold rowF
  rw [if_neg (by omega)]
theorem rowF_new (f : Nat → BitVec 8) (x : BitVec 8) (g : Nat → BitVec 8) (at0 k : Nat) : rowF f x g at0 (k + 1) (at0 + k) = f (at0 + k) ^^^ Gal.mul x (g k) := by
  unfold rowF
  rw [if_pos (by omega), show at0 + k - at0 = k by omega]
theorem rowF_other (f : Nat → BitVec 8) (x : BitVec 8) (g : Nat → BitVec 8) (at0 k j : Nat) (h : j ≠ at0 + k) : rowF f x g at0 (k + 1) j = rowF f x g at0 k j := by
  unfold rowF
  by_cases e : at0 ≤ j ∧ j < at0 + k
  · rw [if_pos e, if_pos (by omega)]
  · rw [if_neg e, if_neg (by omega)]
theorem rowF_all (f : Nat → BitVec 8) (x : BitVec 8) (g : Nat → BitVec 8) (at0 n j : Nat) (hg : ∀ k, n ≤ k → g k = 0#8) : rowF f x g at0 n j = f j ^^^ Gal.mul x (Gal.sh at0 g j) := by
  unfold rowF Gal.sh
  by_cases h : at0 ≤ j
  · rw [if_pos h]
    by_cases e : j < at0 + n
    · rw [if_pos ⟨h, e⟩]
    · rw [if_neg (by omega), hg _ (by omega), Gal.mul_zero, BitVec.xor_zero]
  · rw [if_neg (by omega), if_neg h, Gal.mul_zero, BitVec.xor_zero]
/-- The row is added. -/
def Added (w : World) (sb N : Nat) (f : Nat → BitVec 8) (x : BitVec 8) (q : List UInt8) (at0 : Nat) (w' : World) : Prop :=
  NumsK .u8 w' sb N (fun j => (f j ^^^ Gal.mul x (Gal.sh at0 (Gal.co q) j)).toNat) ∧ But sb w w'
set_option maxRecDepth 100000 in
theorem add_any (sb at0 len cap N tb : Nat) (x : BitVec 8) (q : ByteArray) (f : Nat → BitVec 8) (w : World) (hq : q.size ≤ len) (hN : at0 + len ≤ N) (hN2 : N ≤ 4000000) (hne : tb ≠ sb) (F : NumsK .u8 w sb N (fun j => (f j).toNat)) (T : Tabs w tb Gal.tab) :
    Calls Tryz.prog 61 #[.slice (some ⟨sb, at0, none⟩) len cap, .string q, byTimes tb x] w fun e w' => e = .returned (.tuple #[]) ∧ Added w sb N f x q.data.toList at0 w' := by
  obtain ⟨n, hn⟩ : ∃ n, q.size = n := ⟨_, rfl⟩
  have HN := Lib.hid hn
  have n2 : n ≤ 4000000 := by omega
  have HF := Lib.hid F
  have HT := Lib.hid T
  have HQ := Lib.hid hq
  clear F T hq
  go_enter Tryz.func61, Tryz.ntmps61
  go_wp2_with fail
  clear hn
  go_loopw [9] (fun i wr => ∃ k : Nat, k ≤ n ∧ i = .int .i64 k ∧ NumsK .u8 wr sb N (fun j => (rowF f x (Gal.co q.data.toList) at0 k j).toNat) ∧ But sb w wr) (fun i _ => n - (intOf i).toNat)
  case atStart => exact ⟨0, Nat.zero_le _, rfl, HF.out.congr (fun j hj => by rw [rowF_zero]), But.refl _ _⟩
  case round =>
    obtain ⟨k, hk, rfl, hF, hB⟩ := hrel
    by_cases hlt : k < n
    · have NF := Lib.hid hF
      have NB := Lib.hid hB
      have TT := Lib.hid (hB.row HT.out hne)
      have kq : k < q.size := by rw [HN.out]; exact hlt
      have kl : k < len := by have := HQ.out; have := HN.out; omega
      clear hF hB
      go_upto_region 3 with fail
      refine addRegion sb at0 k len cap N tb x q (rowF f x (Gal.co q.data.toList) at0 k) kq kl (by omega) NF.out TT.out (by kernel_rfl) rfl rfl rfl rfl rfl rfl rfl rfl rfl rfl rfl rfl rfl rfl rfl rfl rfl rfl ?_
      intro w1 B1
      simp only [Act.put, List.setIfInBounds_toArray, List.set_cons_succ, List.set_cons_zero]
      rw [rowF_at]
      obtain ⟨v, hv⟩ : ∃ v, (f (at0 + k) ^^^ Gal.mul x (Gal.co q.data.toList k)).toNat = v := ⟨_, rfl⟩
      have N1 := Lib.hid ((NF.out.below B1).set (g := fun j => (rowF f x (Gal.co q.data.toList) at0 (k + 1) j).toNat) (at0 + k) v (by omega) (by show (rowF _ _ _ _ _ _).toNat = _; rw [rowF_new]; exact hv) (fun j hj hjk => by show (rowF _ _ _ _ _ _).toNat = (rowF _ _ _ _ _ _).toNat; rw [rowF_other _ _ _ _ _ _ hjk]))
      have N2 := Lib.hid (((NB.out.trans (But.of_below B1 (Nat.le_of_lt NF.out.1))).setCell (at0 + k) (.int .u8 (v : Nat))))
      rw [hv]
      obtain ⟨w6, hw6⟩ : ∃ w6, w1.setCell ⟨sb, at0 + k, none⟩ (.int .u8 (v : Nat)) = w6 := ⟨_, rfl⟩
      rw [hw6] at N1 N2 ⊢
      clear hw6 B1 NF NB TT hv
      obtain ⟨y1, hy1⟩ : ∃ y, (Gal.co q.data.toList k).toNat = y := ⟨_, rfl⟩
      obtain ⟨y2, hy2⟩ : ∃ y, (Gal.mul x (Gal.co q.data.toList k)).toNat = y := ⟨_, rfl⟩
      obtain ⟨y3, hy3⟩ : ∃ y, (f (at0 + k)).toNat = y := ⟨_, rfl⟩
      rw [hy1, hy2, hy3]
      clear hy1 hy2 hy3
      go_wp2_with fail
      go_roundw
      case rel => exact ⟨k + 1, by omega, by go_num, N1.out, N2.out⟩
      case measure => simp [intOf]; omega
    · obtain rfl : k = n := by omega
      have Q := Lib.hid (show Added w sb N f x q.data.toList at0 wr from ⟨hF.congr (fun j hj => by rw [rowF_all _ _ _ _ _ _ (fun i hi => Gal.co_out (by rw [ls, HN.out]; exact hi))]), hB⟩)
      clear hF hB
      go_wp2_with fail
      go_end0
      exact ⟨rfl, Q.out⟩
end Go.Proofs.YtlpjhmafplljaaaGreatDoor
