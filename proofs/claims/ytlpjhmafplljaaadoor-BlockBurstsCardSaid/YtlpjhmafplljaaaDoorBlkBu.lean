/- BlkBurst, BlkPick as one text. -/
import Derived.Test.YtlpjhmafplljaaaDoorBlkTop
/- The mathematics of interleaving: a part of what Wrap makes is what Encode makes of the part; bursts of four times the depth hit a part four times at most. And Unwrap of what it refuses. -/
namespace Go.Proofs.YtlpjhmafplljaaaDoor
open Go.RowKit
set_option linter.unusedVariables false

namespace Blk
theorem part_length (l : List UInt8) (j z : Nat) : (part l j z).length = parts l.length j z := Gal.coefs_length _ _
theorem wrap_length (l : List UInt8) (z : Nat) : (wrap l z).length = l.length + 8 * z := by unfold wrap; rw [List.length_append, Gal.coefs_length]
theorem co_left (a b : List UInt8) {i : Nat} (h : i < a.length) : Gal.co (a ++ b) i = Gal.co a i := by
  unfold Gal.co
  rw [List.getD_eq_getElem?_getD, List.getD_eq_getElem?_getD, List.getElem?_append, if_pos h]
theorem co_right (a b : List UInt8) (i : Nat) : Gal.co (a ++ b) (a.length + i) = Gal.co b i := by
  unfold Gal.co
  rw [List.getD_eq_getElem?_getD, List.getD_eq_getElem?_getD, List.getElem?_append, if_neg (by omega), Nat.add_sub_cancel_left]
/-- A part of interleaved code blocks is a code block. -/
theorem wrap_part (l : List UInt8) (n z i : Nat) (hn : l.length = n) (hi : i < z) : Gal.coefs (prt n i z (Gal.co (wrap l z))) (parts n i z + 8) = enc (part l i z) := by
  have hp : (part l i z).length = parts n i z := by rw [part_length, hn]
  refine Gal.ext (by rw [Gal.coefs_length, enc_length, hp]) (fun k hk => ?_)
  rw [Gal.coefs_length] at hk
  rw [Gal.co_coefs, if_pos hk]
  unfold prt jn
  by_cases g : k < parts n i z
  · have hk2 := (parts_iff n i z k hi).2 g
    rw [if_pos g, enc_data _ _ (by rw [hp]; exact g)]
    unfold wrap part
    show Gal.co (l ++ Gal.coefs (wrp l z z) (8 * z)) (i + k * z) = _
    rw [co_left _ _ (by rw [hn]; exact hk2), Gal.co_coefs, if_pos (by rw [hn]; exact g)]
  · rw [if_neg g]
    obtain ⟨r, hr⟩ : ∃ r, k = parts n i z + r := ⟨k - parts n i z, by omega⟩
    rw [hr, Nat.add_sub_cancel_left]
    have r8 : r < 8 := by omega
    have hb : i + r * z < 8 * z := by
      have := Nat.mul_le_mul_right z (show r + 1 ≤ 8 from r8)
      rw [Nat.add_mul, Nat.one_mul] at this
      omega
    have e1 : Gal.co (wrap l z) (n + (i + r * z)) = Gal.co (wpar l z i) r := by
      unfold wrap
      rw [← hn, co_right, Gal.co_coefs, if_pos hb]
      unfold wrp
      obtain ⟨h1, h2⟩ := spr_div (i := r) hi
      rw [h1, h2, if_pos hi]
    show Gal.co (wrap l z) (n + (i + r * z)) = _
    rw [e1]
    unfold enc
    rw [← hp, co_right]
    rfl
/-- The parts put together are the data. -/
theorem udt_parts (l : List UInt8) (n z : Nat) (o : Nat → List UInt8) (hn : l.length = n) (hz : 0 < z) (ho : ∀ i, i < z → o i = part l i z) : Gal.coefs (udt o z z) n = l := by
  refine Gal.ext (by rw [Gal.coefs_length, hn]) (fun p hp => ?_)
  rw [Gal.coefs_length] at hp
  rw [Gal.co_coefs, if_pos hp]
  have hm : p % z < z := Nat.mod_lt _ hz
  have hd : p % z + p / z * z = p := by have := Nat.div_add_mod p z; rw [Nat.mul_comm] at this; omega
  unfold udt
  rw [if_pos hm, ho _ hm]
  unfold part
  rw [Gal.co_coefs, if_pos ((parts_iff _ _ _ _ hm).1 (by rw [hd, hn]; exact hp)), hd]
theorem parts_add (A i z k : Nat) (hi : i < z) : parts (A + k * z) i z = parts A i z + k := by
  unfold parts
  rw [show A + k * z + z - 1 - i = (A + z - 1 - i) + k * z by omega, Nat.add_mul_div_right _ _ (by omega)]
theorem cnt_range (p m k : Nat) : cnt (fun r => decide (p ≤ r ∧ r < p + m)) k = min (k - p) m := by
  induction k with
  | zero => simp [cnt]
  | succ k ih =>
    rw [cnt_succ, ih]
    by_cases h : p ≤ k ∧ k < p + m
    · rw [if_pos (by simpa using h)]; omega
    · rw [if_neg (by simpa using h)]; omega
/-- A burst of m times the depth hits a part m times at most. -/
theorem burst_hits (A m i z k : Nat) (hi : i < z) : cnt (fun r => decide (A ≤ i + r * z ∧ i + r * z < A + m * z)) k ≤ m := by
  have e : cnt (fun r => decide (A ≤ i + r * z ∧ i + r * z < A + m * z)) k = cnt (fun r => decide (parts A i z ≤ r ∧ r < parts A i z + m)) k := by
    refine cnt_congr (fun r _ => ?_)
    have h1 := parts_iff A i z r hi
    have h2 := parts_iff (A + m * z) i z r hi
    rw [parts_add A i z m hi] at h2
    exact decide_eq_decide.2 ⟨fun h => ⟨by have := h1; omega, h2.1 h.2⟩, fun h => ⟨by have := h1; omega, h2.2 h.2⟩⟩
  rw [e, cnt_range]
  omega
/-- What differs lies in four places: at most four differences. -/
theorem cnt_four (P : Nat → Bool) (p m : Nat) (h : ∀ r, r < m → P r = true → p ≤ r ∧ r < p + 4) : cnt P m ≤ 4 := by
  refine Nat.le_trans ?_ (show cnt (fun r => decide (p ≤ r ∧ r < p + 4)) m ≤ 4 by rw [cnt_range]; omega)
  induction m with
  | zero => simp [cnt]
  | succ m ih =>
    have h1 := ih (fun r hr => h r (by omega))
    rw [cnt_succ, cnt_succ]
    by_cases g : P m = true
    · rw [if_pos g, if_pos (by simpa using h m (by omega) g)]
      omega
    · rw [if_neg g]
      omega
theorem besides_nil (b c : List UInt8) : besides b c [] = (dif b c).length := by
  unfold besides dif
  simp
/-- A part with a burst of four times the depth, in the data or in the parity bytes, is near what was sent. -/
theorem burst_near (l : List UInt8) (n z i A : Nat) (g : Nat → BitVec 8) (hn : l.length = n) (hi : i < z) (hz : z ≤ n) (h2 : n ≤ 223 * z)
    (hw : ∀ p, p < n + 8 * z → g p ≠ Gal.co (wrap l z) p → A ≤ p ∧ p < A + 4 * z)
    (hs : (∀ p, n ≤ p → p < n + 8 * z → g p = Gal.co (wrap l z) p) ∨ (∀ p, p < n → g p = Gal.co (wrap l z) p)) :
    Near (Gal.coefs (prt n i z g) (parts n i z + 8)) [] (enc (part l i z)) := by
  have hp : (part l i z).length = parts n i z := by rw [part_length, hn]
  have q1 := parts_pos hi hz
  have q2 : parts n i z ≤ 223 := by
    apply Nat.le_of_not_lt
    intro h
    have := (parts_iff n i z 223 hi).2 h
    omega
  refine ⟨code_enc _ (by omega) (by omega), by rw [enc_length, hp, Gal.coefs_length], ?_⟩
  rw [besides_nil, ← wrap_part l n z i hn hi]
  have hc : (dif (Gal.coefs (prt n i z g) (parts n i z + 8)) (Gal.coefs (prt n i z (Gal.co (wrap l z))) (parts n i z + 8))).length = cnt (fun r => decide (Gal.co (Gal.coefs (prt n i z g) (parts n i z + 8)) r ≠ Gal.co (Gal.coefs (prt n i z (Gal.co (wrap l z))) (parts n i z + 8)) r)) (parts n i z + 8) := by
    unfold dif cnt
    rw [Gal.coefs_length]
  rw [hc]
  have key : ∃ p, ∀ r, r < parts n i z + 8 → prt n i z g r ≠ prt n i z (Gal.co (wrap l z)) r → p ≤ r ∧ r < p + 4 := by
    rcases hs with hs | hs
    · refine ⟨parts A i z, fun r hr hne => ?_⟩
      by_cases c : r < parts n i z
      · have e : ∀ f : Nat → BitVec 8, prt n i z f r = f (i + r * z) := fun f => by unfold prt jn; rw [if_pos c]
        rw [e, e] at hne
        have hb := (parts_iff n i z r hi).2 c
        obtain ⟨h3, h4⟩ := hw _ (by omega) hne
        have h5 := parts_iff A i z r hi
        have h6 := parts_iff (A + 4 * z) i z r hi
        rw [parts_add A i z 4 hi] at h6
        exact ⟨by omega, h6.1 h4⟩
      · exfalso
        have e : ∀ f : Nat → BitVec 8, prt n i z f r = f (n + (i + (r - parts n i z) * z)) := fun f => by unfold prt jn; rw [if_neg c]
        rw [e, e] at hne
        have := Nat.mul_le_mul_right z (show r - parts n i z + 1 ≤ 8 by omega)
        rw [Nat.add_mul, Nat.one_mul] at this
        exact hne (hs _ (by omega) (by omega))
    · refine ⟨parts (A - n) i z + parts n i z, fun r hr hne => ?_⟩
      by_cases c : r < parts n i z
      · exfalso
        have e : ∀ f : Nat → BitVec 8, prt n i z f r = f (i + r * z) := fun f => by unfold prt jn; rw [if_pos c]
        rw [e, e] at hne
        exact hne (hs _ ((parts_iff n i z r hi).2 c))
      · have e : ∀ f : Nat → BitVec 8, prt n i z f r = f (n + (i + (r - parts n i z) * z)) := fun f => by unfold prt jn; rw [if_neg c]
        rw [e, e] at hne
        have := Nat.mul_le_mul_right z (show r - parts n i z + 1 ≤ 8 by omega)
        rw [Nat.add_mul, Nat.one_mul] at this
        obtain ⟨h3, h4⟩ := hw _ (by omega) hne
        have h5 := parts_iff (A - n) i z (r - parts n i z) hi
        have h6 := parts_iff (A - n + 4 * z) i z (r - parts n i z) hi
        rw [parts_add (A - n) i z 4 hi] at h6
        have h7 := h6.1 (by omega)
        exact ⟨by omega, by omega⟩
  obtain ⟨p, key⟩ := key
  have h4 := cnt_four (fun r => decide (Gal.co (Gal.coefs (prt n i z g) (parts n i z + 8)) r ≠ Gal.co (Gal.coefs (prt n i z (Gal.co (wrap l z))) (parts n i z + 8)) r)) p (parts n i z + 8) (fun r hr h => by
    rw [decide_eq_true_eq, Gal.co_coefs, Gal.co_coefs, if_pos hr, if_pos hr] at h
    exact key r hr h)
  simp only [List.length_nil]
  omega
end Blk
/-- What Unwrap makes of it. -/
theorem burst_udp (l : List UInt8) (n z i A : Nat) (g : Nat → BitVec 8) (er : Nat → Bool) (o : List UInt8) (k x : Int) (hn : l.length = n) (hi : i < z) (hz : z ≤ n) (h2 : n ≤ 223 * z) (her : ∀ j, j < n + 8 * z → er j = false)
    (hw : ∀ p, p < n + 8 * z → g p ≠ Gal.co (Blk.wrap l z) p → A ≤ p ∧ p < A + 4 * z)
    (hs : (∀ p, n ≤ p → p < n + 8 * z → g p = Gal.co (Blk.wrap l z) p) ∨ (∀ p, p < n → g p = Gal.co (Blk.wrap l z) p))
    (h : UdP n z g er i o k x) : o = Blk.part l i z ∧ x = 0 := by
  unfold UdP at h
  rw [ers_nil (prt_false her rfl hi)] at h
  obtain ⟨h1, _, h3⟩ := Blk.dec_unique h (.inl ⟨_, Blk.burst_near l n z i A g hn hi hz h2 hw hs, rfl, rfl, rfl⟩)
  refine ⟨h1.trans ?_, h3⟩
  rw [Gal.coefs_length, Nat.add_sub_cancel, show Blk.parts n i z = (Blk.part l i z).length by rw [Blk.part_length, hn]]
  exact Blk.enc_take _
theorem unwrap_bad (s : ByteArray) (z : Int) (a : Option Addr) (cap m n : Nat) (zs : List Int) (hn : s.size = n) (n2 : n ≤ 400000) (hb : ¬ (1 ≤ z ∧ z ≤ 4 ∧ 9 * z ≤ n ∧ (n : Int) ≤ 231 * z ∧ Within zs n)) (hm : zs.length = m) (m2 : m ≤ 400000) (w : World) (R : Ints w a zs) :
    Calls Tryd.prog 12 #[.string s, .int .i64 z, .slice a m cap] w fun e w' => e = .returned (.tuple #[.string ⟨#[]⟩, .slice none 0 0, .int .i64 2]) ∧ w = w' := by
  have ID := Lib.hid (isDepth_any z w)
  by_cases g : 1 ≤ z ∧ z ≤ 4
  · rw [decide_eq_true g] at ID
    obtain ⟨g1, g2⟩ := g
    have m9 : IntKind.i64.wrap (9 * z) = 9 * z := by rw [IntKind.wrap_i64]; omega
    have m231 : IntKind.i64.wrap (231 * z) = 231 * z := by rw [IntKind.wrap_i64]; omega
    by_cases g3 : (n : Int) < 9 * z
    · clear hb R hm
      go_enter Tryd.func12, Tryd.ntmps12
      go_wp2_with fail
      (with_reducible refine ID.out.mono ?_)
      rintro e w' ⟨rfl, rfl⟩
      go_wp2_with fail
      go_ret3
      exact ⟨rfl, rfl⟩
    · by_cases g4 : 231 * z < (n : Int)
      · clear hb R hm
        go_enter Tryd.func12, Tryd.ntmps12
        go_wp2_with fail
        (with_reducible refine ID.out.mono ?_)
        rintro e w' ⟨rfl, rfl⟩
        go_wp2_with fail
        go_ret3
        exact ⟨rfl, rfl⟩
      · have AP := Lib.hid (arePlaces_any a cap m zs n hm m2 (by omega) w R)
        rw [decide_eq_false (show ¬ Within zs n from fun q => hb ⟨g1, g2, by omega, by omega, q⟩)] at AP
        clear hb R hm
        go_enter Tryd.func12, Tryd.ntmps12
        go_wp2_with fail
        (with_reducible refine ID.out.mono ?_)
        rintro e w' ⟨rfl, rfl⟩
        go_wp2_with fail
        (with_reducible refine AP.out.mono ?_)
        rintro e w' ⟨rfl, rfl⟩
        go_wp2_with fail
        go_ret3
        exact ⟨rfl, rfl⟩
  · rw [decide_eq_false g] at ID
    clear hb g R hm
    go_enter Tryd.func12, Tryd.ntmps12
    go_wp2_with fail
    (with_reducible refine ID.out.mono ?_)
    rintro e w' ⟨rfl, rfl⟩
    go_wp2_with fail
    go_ret3
    exact ⟨rfl, rfl⟩
end Go.Proofs.YtlpjhmafplljaaaDoor
/- The contract of the check kit's Pick over this program. -/
namespace Go.Proofs.YtlpjhmafplljaaaDoor
open Go.RowKit
set_option linter.unusedVariables false
theorem pick_any (n : Int) (hn : (Lit.int .i64 n).wf = true) (m : Nat) (h0 : 0 < m) (h1 : m ≤ 4294967296) (w : World) :
    Calls Tryd.prog 11 #[.int .i64 n, .int .i64 m] w fun e w' => e = .returned (.int .i64 ((n % (m : Int)).toNat : Nat)) ∧ w = w' := by
  obtain ⟨b1, b2⟩ := bounds_i64 hn
  have m0 : (m : Int) ≠ 0 := by omega
  have e0 := Int.emod_nonneg n m0
  have e1 := Int.emod_lt_of_pos n (show 0 < (m : Int) by omega)
  obtain ⟨t, ht⟩ : ∃ t, n.tmod (m : Int) = t := ⟨_, rfl⟩
  obtain ⟨q, hq⟩ : ∃ q : Nat, (n % (m : Int)).toNat = q := ⟨_, rfl⟩
  rw [hq]
  have hs : t = (q : Int) ∨ (t < 0 ∧ t + m = (q : Int)) := by
    rw [← ht]
    by_cases g : 0 ≤ n
    · left
      rw [Int.tmod_eq_emod_of_nonneg g]
      omega
    · have e := Int.tmod_eq_emod (a := n) (b := (m : Int))
      by_cases d : (m : Int) ∣ n
      · left
        rw [if_pos (Or.inr d)] at e
        omega
      · right
        rw [if_neg (by intro h; rcases h with h | h; exact g h; exact d h)] at e
        have : n % (m : Int) ≠ 0 := fun h => d (Int.dvd_of_emod_eq_zero h)
        have na : ((m : Int).natAbs : Int) = m := by simp
        omega
  have tw : IntKind.i64.wrap (n.tmod (m : Int)) = t := by
    rw [ht, IntKind.wrap_i64]
    omega
  rcases hs with hs | ⟨hn, hs⟩
  · subst hs
    clear hq e0 e1
    go_enter Tryd.func11, Tryd.ntmps11
    go_wp2_with fail
    go_ret
    exact ⟨rfl, rfl⟩
  · have sw : IntKind.i64.wrap (t + (m : Int)) = (q : Int) := by
      rw [hs, IntKind.wrap_i64]
      omega
    clear hq e0 e1 hs
    go_enter Tryd.func11, Tryd.ntmps11
    go_wp2_with fail
    go_ret
    exact ⟨rfl, rfl⟩
end Go.Proofs.YtlpjhmafplljaaaDoor
