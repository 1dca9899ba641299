/- FldKeeps, FldUnpack3 of layer 2 as one text, under names of their own. -/
import Derived.Test.YtphkaambodecdaaF2d
/- FieldsKeeps: of every string of at most 5000 bytes, every place and every number: what the program's Put writes, its Get reads; the bits outside stay; two fields without a common bit can be put in any order. No condition. -/
namespace Go.Proofs.Ytphkaambodecdaa
open Go.ChangeShapes Go.WideShapes Go.ChangeAt Go.RowKit
set_option linter.unusedVariables false

namespace Fld
theorem num_bits (l : List UInt8) (p w v : Nat) (hv : v < 2 ^ w) (h : ∀ j, j < w → bit l (p + j) = v / 2 ^ (w - 1 - j) % 2) : ∀ k, k ≤ w → num l p k = v / 2 ^ (w - k)
  | 0, _ => by
    unfold num
    rw [Nat.sub_zero]
    exact (Nat.div_eq_of_lt hv).symm
  | k + 1, hk => by
    unfold num
    rw [num_bits l p w v hv h k (by omega), h k (by omega), show w - k = (w - 1 - k) + 1 by omega, show w - (k + 1) = w - 1 - k by omega, Nat.pow_succ, ← Nat.div_div_eq_div_mul]
    omega
theorem num_put (l : List UInt8) (p w v : Nat) (h : p + w ≤ 8 * l.length) (hv : v < 2 ^ w) : num (put l p w v w) p w = v := by
  rw [num_bits (put l p w v w) p w v hv (fun j hj => by rw [bit_put l p w v h w (Nat.le_refl _), if_pos (by omega), show p + j - p = j by omega]) w (Nat.le_refl _)]
  simp
theorem put_comm (l : List UInt8) (p w v q x u : Nat) (h : p + w ≤ 8 * l.length) (k : q + x ≤ 8 * l.length) (d : q + x ≤ p ∨ p + w ≤ q) : put (put l p w v w) q x u x = put (put l q x u x) p w v w := by
  apply ext_bits
  · simp only [put_length]
  · intro i _
    rw [bit_put _ q x u (by rw [put_length]; exact k) x (Nat.le_refl _), bit_put l p w v h w (Nat.le_refl _), bit_put _ p w v (by rw [put_length]; exact h) w (Nat.le_refl _), bit_put l q x u k x (Nat.le_refl _)]
    by_cases a : q ≤ i ∧ i < q + x
    · rw [if_pos a, if_neg (by omega), if_pos a]
    · rw [if_neg a]
      by_cases b : p ≤ i ∧ i < p + w
      · rw [if_pos b, if_pos b]
      · rw [if_neg b, if_neg b, if_neg a]
theorem chkP_cases {n : Nat} {p wd : Int} {v : Nat} (h : chkP n p wd v = 0) : ok n p wd ∧ ¬ 65536 < n ∧ v < 2 ^ wd.toNat := by
  unfold chkP at h
  split at h
  · obtain ⟨a, b⟩ := chk_cases ‹_›
    split at h
    · exact ⟨a, b, by have : fitsB v wd.toNat = true := ‹_›; unfold fitsB at this; exact of_decide_eq_true this⟩
    · cases h
  · exact absurd h ‹_›
theorem putV_ok {l : List UInt8} {n : Nat} {p wd : Int} {v : Nat} (hl : l.length = n) (h : chkP n p wd v = 0) : putV l p wd v = put l p.toNat wd.toNat v wd.toNat := by unfold putV; rw [hl, if_pos h]
theorem getV_ok {l : List UInt8} {n : Nat} {p wd : Int} (hl : l.length = n) (h : chk n p wd = 0) : getV l p wd = num l p.toNat wd.toNat := by unfold getV; rw [hl, if_pos h]
end Fld
end Go.Proofs.Ytphkaambodecdaa
/- The contract of package fields' Unpack over this program, for all widths and strings of at most 5000 bytes; and what Pack and Unpack say of each other. -/
namespace Go.Proofs.Ytphkaambodecdaa
open Go.RowKit Go.Shelf
set_option linter.unusedVariables false

set_option maxHeartbeats 1000000 in
theorem unp_empty (a : Option Addr) (cap : Nat) (hm1 : cap ≤ 9223372036854775807) (s : ByteArray) (hs : s.size = 0) (w : World) :
    Calls Try.prog 61 #[.slice a 0 cap, .string s] w (Unpacked [] s.data.toList w) := by
  have A : Hid (Calls Try.prog 67 #[.slice a 0 cap] w fun e w' => e = .returned (.bool true) ∧ w = w') := Lib.hid (areWidths_any a cap [] (by simp) w (.inl rfl))
  have T : Hid (∀ a c w, Calls Try.prog 68 #[.slice a 0 c] w fun e w' => e = .returned (.int .i64 0) ∧ w = w') := Lib.hid (fun a c w => total_any a c [] (by simp) (by simp) w (.inl rfl))
  have FI : Hid (Calls Try.prog 70 #[.slice a 0 cap] w (Filled [] w)) := Lib.hid (filled_any a cap [] (by simp) (by simp) hm1 (by simp) w (.inl rfl))
  have sn : s.data.toList = [] := List.eq_nil_of_length_eq_zero (by simpa using hs)
  have UE : Hid (Fld.unpE [] s.data.toList = 0 ∧ Fld.unpV [] s.data.toList = []) := Lib.hid (by rw [sn]; exact ⟨rfl, rfl⟩)
  have h1 : (s.size : Int) = 0 := by omega
  have HS := Lib.hid h1
  have h2 : s.size ≤ 0 := by omega
  clear hs h1 sn
  go_enter Try.func61, Try.ntmps61
  go_wp2_with fail
  (with_reducible refine A.out.mono ?_)
  rintro e w' ⟨rfl, rfl⟩
  go_wp2_with fail
  (with_reducible refine FI.out.mono ?_)
  rintro e w1 ⟨a', cap', rfl, hfc, hfr, hfb⟩
  have e0 : (Fld.fill []).length = 0 := rfl
  rw [e0]
  have HFB := Lib.hid hfb
  clear hfb hfr hfc e0
  go_wp2_with fail
  (with_reducible refine (T.out _ _ _).mono ?_)
  rintro e w' ⟨rfl, rfl⟩
  obtain ⟨i0, hi, hz0, hz1, hz2⟩ := info_parts info_u64
  have q1 : ((0 : Int) == 8 * (s.size : Int)) = true := by have := HS.out; simp; omega
  have q2 : ((0 : Int) != 8 * (s.size : Int)) = false := by have := HS.out; simp; omega
  go_wp2_with (at_make; refine wpList_make_full _ rfl _ _ 106 rfl w1.heap.size 107 i0 (.int .u64 0) 1 Try.underlying106 hi hz0 hz1 .i64 .i64 _ _ 0 rfl rfl rfl rfl (by rw [hz2]; omega) (by unfold maxLen; omega) (Nat.le_refl _) ?_; intro w2 hown hgrow)
  have HB2 := Lib.hid (show Below w.heap.size w w2 from HFB.out.trans (((Below.refl _ _).grown hgrow (Nat.le_refl _) (fun k e => by cases e)).mono HFB.out.size))
  clear hown hgrow hi hz0 hz1 hz2
  refine wp_loop_rounds 1 ?_
  rw [rounds_succ]
  go_wp2_with fail
  refine wp_loop_rounds 1 ?_
  rw [rounds_succ]
  go_wp2_with fail
  go_ret2
  exact ⟨some ⟨w1.heap.size, 0, none⟩, 0, by rw [UE.out.1, UE.out.2]; rfl, by rw [UE.out.2]; exact Nat.le_refl _, .inl (by rw [UE.out.2]; rfl), HB2.out, fun b off h => by cases h; exact HFB.out.size⟩

theorem unpack_any (a : Option Addr) (cap : Nat) (zs : List Int) (s : ByteArray) (hz : zs.length ≤ 500) (hc : zs.length ≤ cap) (hm : cap ≤ 9223372036854775807) (hs : s.size ≤ 5000) (w : World) (R : FReads .i64 w a zs) :
    Calls Try.prog 61 #[.slice a zs.length cap, .string s] w (Unpacked zs s.data.toList w) := by
  by_cases hw : Fld.allW zs = true
  · by_cases he : s.size = (Fld.tot (Fld.nats zs) + 7) / 8
    · by_cases h0 : zs.length = 0
      · have e1 : zs = [] := List.eq_nil_of_length_eq_zero h0
        subst e1
        exact unp_empty a cap hm s he w
      · exact unp_ok a cap zs s zs.length rfl (by omega) hz hc hm hs hw he w R
    · exact unp_len a cap zs s zs.length rfl hz hc hm hs hw he w R
  · exact unp_bad a cap zs s zs.length rfl hz hs (by simpa using hw) w R

namespace Fld
/-- A bit of fields one after the other: before the first one, within, behind the k-th one. -/
theorem pk_bits (l : List UInt8) (ns vs : List Nat) (hb : tot ns ≤ 8 * l.length) : ∀ k, k ≤ ns.length → ∀ i,
    (tot (ns.take k) ≤ i → bit (pk l ns vs k) i = bit l i) ∧ (∀ j, j < k → tot (ns.take j) ≤ i → i < tot (ns.take (j + 1)) → bit (pk l ns vs k) i = vs.getD j 0 / 2 ^ (ns.getD j 0 - 1 - (i - tot (ns.take j))) % 2)
  | 0, _, i => ⟨fun _ => rfl, fun j hj => by omega⟩
  | k + 1, hk, i => by
    obtain ⟨h1, h2⟩ := pk_bits l ns vs hb k (by omega) i
    have ts := tot_take_succ ns k (by omega)
    have tm := tot_mono ns (k + 1)
    have bp := bit_put (pk l ns vs k) (tot (ns.take k)) (ns.getD k 0) (vs.getD k 0) (by rw [pk_length]; omega) (ns.getD k 0) (Nat.le_refl _) i
    constructor
    · intro h
      unfold pk
      rw [bp, if_neg (by omega)]
      exact h1 (by omega)
    · intro j hj h3 h4
      unfold pk
      rw [bp]
      by_cases e : j = k
      · subst e
        rw [if_pos (by omega)]
      · have : tot (ns.take (j + 1)) ≤ tot (ns.take k) := by
          have := tot_mono (ns.take k) (j + 1)
          rwa [List.take_take, Nat.min_eq_left (by omega)] at this
        rw [if_neg (by omega)]
        exact h2 j (by omega) h3 h4
theorem zeros_bit (n i : Nat) : bit (zeros n) i = 0 := by
  unfold bit zeros
  have : (List.replicate n (0 : UInt8)).getD (i / 8) 0 = 0 := by
    rw [List.getD_eq_getElem?_getD, List.getElem?_replicate]
    split <;> rfl
  rw [this]
  simp
theorem packB_length (ns vs : List Nat) : (packB ns vs).length = (tot ns + 7) / 8 := by unfold packB; rw [pk_length]; simp [zeros]
/-- What was packed is read. -/
theorem uv_packB (ns vs : List Nat) (h : fitAll ns vs = true) (j : Nat) (hj : j < ns.length) : uv (packB ns vs) ns j = vs.getD j 0 := by
  have hf : vs.getD j 0 < 2 ^ ns.getD j 0 := by
    unfold fitAll at h
    rw [List.all_eq_true] at h
    have := h j (by simpa using hj)
    exact of_decide_eq_true this
  have ts := tot_take_succ ns j hj
  have tm := tot_mono ns (j + 1)
  unfold uv
  rw [num_bits (packB ns vs) (tot (ns.take j)) (ns.getD j 0) (vs.getD j 0) hf (fun i hi => by
    have := (pk_bits (zeros ((tot ns + 7) / 8)) ns vs (by simp [zeros]; omega) ns.length (Nat.le_refl _) (tot (ns.take j) + i)).2 j hj (by omega) (by omega)
    unfold packB
    rw [this, show tot (ns.take j) + i - tot (ns.take j) = i by omega]) (ns.getD j 0) (Nat.le_refl _)]
  simp
theorem rest_packB (ns vs : List Nat) : restB (packB ns vs) (tot ns) = true := by
  rw [restB_iff]
  intro i h1 h2
  have := (pk_bits (zeros ((tot ns + 7) / 8)) ns vs (by simp [zeros]; omega) ns.length (Nat.le_refl _) i).1 (by rw [List.take_length]; exact h1)
  unfold packB
  rw [this, zeros_bit]
/-- Unpack of what Pack returns. -/
theorem unp_pack (zs : List Int) (vs : List Nat) (h : packE zs vs = 0) : unpE zs (packV zs vs) = 0 ∧ unpV zs (packV zs vs) = vs := by
  have hp : packV zs vs = packB (nats zs) vs := by unfold packV; rw [if_pos h]
  unfold packE at h
  split at h
  · rename_i hc
    obtain ⟨hl, hw⟩ := hc
    split at h
    · rename_i hf
      have e : unpE zs (packB (nats zs) vs) = 0 := by
        unfold unpE
        rw [if_pos hw, if_pos ⟨packB_length _ _, rest_packB _ _⟩]
      rw [hp]
      refine ⟨e, ?_⟩
      unfold unpV
      rw [if_pos e]
      apply List.ext_getElem
      · rw [vals_length, nats_length, hl]
      · intro i h1 h2
        have hi : i < (nats zs).length := by rw [vals_length] at h1; exact h1
        have g := vals_get (nats zs) (packB (nats zs) vs) i hi
        rw [uv_packB _ _ hf i hi] at g
        simp only [List.getD, List.getElem?_eq_getElem h1, List.getElem?_eq_getElem h2, Option.getD_some] at g
        exact g
    · cases h
  · cases h
/-- Every number of a field fits. -/
theorem vals_fit (ns : List Nat) (l : List UInt8) : fitAll ns (vals ns l) = true := by
  apply fitAll_yes
  intro i hi
  rw [vals_get ns l i hi]
  exact decide_eq_true (num_lt _ _ _)
theorem div_bit (l : List UInt8) (p : Nat) : ∀ w j, j < w → num l p w / 2 ^ (w - 1 - j) % 2 = bit l (p + j)
  | 0, j, h => by omega
  | w + 1, j, h => by
    have b := bit_lt l (p + w)
    by_cases e : j = w
    · subst e
      unfold num
      rw [show j + 1 - 1 - j = 0 by omega]
      simp
      omega
    · have i := div_bit l p w j (by omega)
      unfold num
      rw [show w + 1 - 1 - j = (w - 1 - j) + 1 by omega, Nat.pow_succ, Nat.mul_comm (2 ^ (w - 1 - j)) 2, ← Nat.div_div_eq_div_mul, show (2 * num l p w + bit l (p + w)) / 2 = num l p w by omega]
      exact i
theorem find_field (ns : List Nat) (i : Nat) : ∀ k, k ≤ ns.length → i < tot (ns.take k) → ∃ j, j < k ∧ tot (ns.take j) ≤ i ∧ i < tot (ns.take (j + 1))
  | 0, _, h => by simp [tot] at h
  | k + 1, hk, h => by
    by_cases e : i < tot (ns.take k)
    · obtain ⟨j, h1, h2, h3⟩ := find_field ns i k (by omega) e
      exact ⟨j, by omega, h2, h3⟩
    · exact ⟨k, by omega, by omega, h⟩
/-- Pack of what Unpack returns. -/
theorem pack_unp (zs : List Int) (l : List UInt8) (h : unpE zs l = 0) : packE zs (unpV zs l) = 0 ∧ packV zs (unpV zs l) = l := by
  have hv : unpV zs l = vals (nats zs) l := by unfold unpV; rw [if_pos h]
  unfold unpE at h
  split at h
  · rename_i hw
    split at h
    · rename_i hc
      obtain ⟨hl, hr⟩ := hc
      have hf := vals_fit (nats zs) l
      have e : packE zs (vals (nats zs) l) = 0 := by
        unfold packE
        rw [if_pos ⟨by rw [vals_length, nats_length], hw⟩, if_pos hf]
      rw [hv]
      refine ⟨e, ?_⟩
      unfold packV
      rw [if_pos e]
      apply ext_bits
      · rw [packB_length, hl]
      · intro i hi
        rw [packB_length] at hi
        have pb := pk_bits (zeros ((tot (nats zs) + 7) / 8)) (nats zs) (vals (nats zs) l) (by simp [zeros]; omega) (nats zs).length (Nat.le_refl _) i
        unfold packB
        by_cases e2 : tot (nats zs) ≤ i
        · rw [pb.1 (by rw [List.take_length]; exact e2), zeros_bit]
          exact ((restB_iff _ _).1 hr i e2 (by omega)).symm
        · obtain ⟨j, h1, h2, h3⟩ := find_field (nats zs) i (nats zs).length (Nat.le_refl _) (by rw [List.take_length]; omega)
          have ts := tot_take_succ (nats zs) j h1
          rw [pb.2 j h1 h2 h3, vals_get _ _ _ h1]
          unfold uv
          rw [div_bit l _ _ _ (by omega), show tot ((nats zs).take j) + (i - tot ((nats zs).take j)) = i by omega]
    · cases h
  · cases h
end Fld
end Go.Proofs.Ytphkaambodecdaa
