/- BlkBoth, BlkBu, BlkPls as one text. -/
import Derived.Test.YtlpjhmafplljaaaGreatDoorBlkRDec
import Derived.Test.YtlpjhmafplljaaaGreatDoorBlkTop
/- The program's decoder and the reference's answer the same: plain mathematics. -/
namespace Go.Proofs.YtlpjhmafplljaaaGreatDoor
set_option linter.unusedVariables false
namespace Blk
theorem nodup_le {f g : List Nat} (hf : f.Nodup) (h : ∀ p, p ∈ f → p ∈ g) : f.length ≤ g.length := by
  have := count_in g f hf
  rwa [List.filter_eq_self.2 (fun p hp => List.contains_iff_mem.2 (h p hp))] at this
theorem near_congr {b c : List UInt8} {f g : List Nat} (hf : f.Nodup) (hg : g.Nodup) (h : ∀ p, p ∈ f ↔ p ∈ g) (H : Near b f c) : Near b g c := by
  refine ⟨H.1, H.2.1, ?_⟩
  rw [← besides_congr h]
  have := nodup_le hg (fun p => (h p).2)
  have := H.2.2
  omega
/-- The set of erased places alone decides. -/
theorem dec_congr {b : List UInt8} {f g : List Nat} {o : List UInt8} {n e : Int} (hf : f.Nodup) (hg : g.Nodup) (h : ∀ p, p ∈ f ↔ p ∈ g) (H : Dec b f o n e) : Dec b g o n e := by
  rcases H with ⟨c, h1, r⟩ | ⟨h1, r⟩
  · exact .inl ⟨c, near_congr hf hg h h1, r⟩
  · exact .inr ⟨fun c hc => h1 c (near_congr hg hf (fun p => (h p).symm) hc), r⟩
theorem ers_mem (er : Nat → Bool) (n p : Nat) : p ∈ ers er n ↔ p < n ∧ er p = true := by unfold ers; rw [List.mem_filter, List.mem_range]
end Blk
/-- Both decoders answer the same. -/
theorem both_dec {s : List UInt8} {L : Nat} {zs : List Int} (hz : Within zs L) {er : Nat → Bool} (her : ∀ j, j < L → (er j = true ↔ (j : Int) ∈ zs)) {f : List Nat} (hf : f.Nodup) (hm : ∀ j : Nat, j ∈ f ↔ (j : Int) ∈ zs)
    {o o' : List UInt8} {k x k' x' : Int} (D : Blk.Dec s (Blk.ers er L) o k x) (D' : Blk.Dec s f o' k' x') : o = o' ∧ k = k' ∧ x = x' :=
  Blk.dec_unique D (Blk.dec_congr hf (Blk.ers_nodup er L) (fun p => by
    rw [hm p, Blk.ers_mem]
    constructor
    · exact fun h => by
        have := hz _ h
        exact ⟨by omega, (her p (by omega)).2 h⟩
    · exact fun h => (her p h.1).1 h.2) D')
end Go.Proofs.YtlpjhmafplljaaaGreatDoor
/- BlkBurst, BlkPick as one text. -/
/- The mathematics of interleaving: a part of what Wrap makes is what Encode makes of the part; bursts of four times the depth hit a part four times at most. And Unwrap of what it refuses. -/
namespace Go.Proofs.YtlpjhmafplljaaaGreatDoor
open Go.RowKit
set_option linter.unusedVariables false

namespace Blk
theorem part_length (l : List UInt8) (j z : Nat) : (part l j z).length = parts l.length j z := Gal.coefs_length _ _
theorem wrap_length (l : List UInt8) (z : Nat) : (wrap l z).length = l.length + 8 * z := by unfold wrap; rw [List.length_append, Gal.coefs_length]
theorem co_left (a b : List UInt8) {i : Nat} (h : i < a.length) : Gal.co (a ++ b) i = Gal.co a i := by
  unfold Gal.co
  rw [List.getD_eq_getElem?_getD, List.getD_eq_getElem?_getD, List.getElem?_append, if_pos h]
theorem co_right (a b : List UInt8) (i : Nat) : Gal.co (a ++ b) (a.length + i) = Gal.co b i := by
  unfold Gal.co
  rw [List.getD_eq_getElem?_getD, List.getD_eq_getElem?_getD, List.getElem?_append, if_neg (by omega), Nat.add_sub_cancel_left]
/-- A part of interleaved code blocks is a code block. -/
theorem wrap_part (l : List UInt8) (n z i : Nat) (hn : l.length = n) (hi : i < z) : Gal.coefs (prt n i z (Gal.co (wrap l z))) (parts n i z + 8) = enc (part l i z) := by
  have hp : (part l i z).length = parts n i z := by rw [part_length, hn]
  refine Gal.ext (by rw [Gal.coefs_length, enc_length, hp]) (fun k hk => ?_)
  rw [Gal.coefs_length] at hk
  rw [Gal.co_coefs, if_pos hk]
  unfold prt jn
  by_cases g : k < parts n i z
  · have hk2 := (parts_iff n i z k hi).2 g
    rw [if_pos g, enc_data _ _ (by rw [hp]; exact g)]
    unfold wrap part
    show Gal.co (l ++ Gal.coefs (wrp l z z) (8 * z)) (i + k * z) = _
    rw [co_left _ _ (by rw [hn]; exact hk2), Gal.co_coefs, if_pos (by rw [hn]; exact g)]
  · rw [if_neg g]
    obtain ⟨r, hr⟩ : ∃ r, k = parts n i z + r := ⟨k - parts n i z, by omega⟩
    rw [hr, Nat.add_sub_cancel_left]
    have r8 : r < 8 := by omega
    have hb : i + r * z < 8 * z := by
      have := Nat.mul_le_mul_right z (show r + 1 ≤ 8 from r8)
      rw [Nat.add_mul, Nat.one_mul] at this
      omega
    have e1 : Gal.co (wrap l z) (n + (i + r * z)) = Gal.co (wpar l z i) r := by
      unfold wrap
      rw [← hn, co_right, Gal.co_coefs, if_pos hb]
      unfold wrp
      obtain ⟨h1, h2⟩ := spr_div (i := r) hi
      rw [h1, h2, if_pos hi]
    show Gal.co (wrap l z) (n + (i + r * z)) = _
    rw [e1]
    unfold enc
    rw [← hp, co_right]
    rfl
/-- The parts put together are the data. -/
theorem udt_parts (l : List UInt8) (n z : Nat) (o : Nat → List UInt8) (hn : l.length = n) (hz : 0 < z) (ho : ∀ i, i < z → o i = part l i z) : Gal.coefs (udt o z z) n = l := by
  refine Gal.ext (by rw [Gal.coefs_length, hn]) (fun p hp => ?_)
  rw [Gal.coefs_length] at hp
  rw [Gal.co_coefs, if_pos hp]
  have hm : p % z < z := Nat.mod_lt _ hz
  have hd : p % z + p / z * z = p := by have := Nat.div_add_mod p z; rw [Nat.mul_comm] at this; omega
  unfold udt
  rw [if_pos hm, ho _ hm]
  unfold part
  rw [Gal.co_coefs, if_pos ((parts_iff _ _ _ _ hm).1 (by rw [hd, hn]; exact hp)), hd]
theorem parts_add (A i z k : Nat) (hi : i < z) : parts (A + k * z) i z = parts A i z + k := by
  unfold parts
  rw [show A + k * z + z - 1 - i = (A + z - 1 - i) + k * z by omega, Nat.add_mul_div_right _ _ (by omega)]
theorem cnt_range (p m k : Nat) : cnt (fun r => decide (p ≤ r ∧ r < p + m)) k = min (k - p) m := by
  induction k with
  | zero => simp [cnt]
  | succ k ih =>
    rw [cnt_succ, ih]
    by_cases h : p ≤ k ∧ k < p + m
    · rw [if_pos (by simpa using h)]; omega
    · rw [if_neg (by simpa using h)]; omega
/-- A burst of m times the depth hits a part m times at most. -/
theorem burst_hits (A m i z k : Nat) (hi : i < z) : cnt (fun r => decide (A ≤ i + r * z ∧ i + r * z < A + m * z)) k ≤ m := by
  have e : cnt (fun r => decide (A ≤ i + r * z ∧ i + r * z < A + m * z)) k = cnt (fun r => decide (parts A i z ≤ r ∧ r < parts A i z + m)) k := by
    refine cnt_congr (fun r _ => ?_)
    have h1 := parts_iff A i z r hi
    have h2 := parts_iff (A + m * z) i z r hi
    rw [parts_add A i z m hi] at h2
    exact decide_eq_decide.2 ⟨fun h => ⟨by have := h1; omega, h2.1 h.2⟩, fun h => ⟨by have := h1; omega, h2.2 h.2⟩⟩
  rw [e, cnt_range]
  omega
/-- What differs lies in four places: at most four differences. -/
theorem cnt_four (P : Nat → Bool) (p m : Nat) (h : ∀ r, r < m → P r = true → p ≤ r ∧ r < p + 4) : cnt P m ≤ 4 := by
  refine Nat.le_trans ?_ (show cnt (fun r => decide (p ≤ r ∧ r < p + 4)) m ≤ 4 by rw [cnt_range]; omega)
  induction m with
  | zero => simp [cnt]
  | succ m ih =>
    have h1 := ih (fun r hr => h r (by omega))
    rw [cnt_succ, cnt_succ]
    by_cases g : P m = true
    · rw [if_pos g, if_pos (by simpa using h m (by omega) g)]
      omega
    · rw [if_neg g]
      omega
theorem besides_nil (b c : List UInt8) : besides b c [] = (dif b c).length := by
  unfold besides dif
  simp
/-- A part with a burst of four times the depth, in the data or in the parity bytes, is near what was sent. -/
theorem burst_near (l : List UInt8) (n z i A : Nat) (g : Nat → BitVec 8) (hn : l.length = n) (hi : i < z) (hz : z ≤ n) (h2 : n ≤ 223 * z)
    (hw : ∀ p, p < n + 8 * z → g p ≠ Gal.co (wrap l z) p → A ≤ p ∧ p < A + 4 * z)
    (hs : (∀ p, n ≤ p → p < n + 8 * z → g p = Gal.co (wrap l z) p) ∨ (∀ p, p < n → g p = Gal.co (wrap l z) p)) :
    Near (Gal.coefs (prt n i z g) (parts n i z + 8)) [] (enc (part l i z)) := by
  have hp : (part l i z).length = parts n i z := by rw [part_length, hn]
  have q1 := parts_pos hi hz
  have q2 : parts n i z ≤ 223 := by
    apply Nat.le_of_not_lt
    intro h
    have := (parts_iff n i z 223 hi).2 h
    omega
  refine ⟨code_enc _ (by omega) (by omega), by rw [enc_length, hp, Gal.coefs_length], ?_⟩
  rw [besides_nil, ← wrap_part l n z i hn hi]
  have hc : (dif (Gal.coefs (prt n i z g) (parts n i z + 8)) (Gal.coefs (prt n i z (Gal.co (wrap l z))) (parts n i z + 8))).length = cnt (fun r => decide (Gal.co (Gal.coefs (prt n i z g) (parts n i z + 8)) r ≠ Gal.co (Gal.coefs (prt n i z (Gal.co (wrap l z))) (parts n i z + 8)) r)) (parts n i z + 8) := by
    unfold dif cnt
    rw [Gal.coefs_length]
  rw [hc]
  have key : ∃ p, ∀ r, r < parts n i z + 8 → prt n i z g r ≠ prt n i z (Gal.co (wrap l z)) r → p ≤ r ∧ r < p + 4 := by
    rcases hs with hs | hs
    · refine ⟨parts A i z, fun r hr hne => ?_⟩
      by_cases c : r < parts n i z
      · have e : ∀ f : Nat → BitVec 8, prt n i z f r = f (i + r * z) := fun f => by unfold prt jn; rw [if_pos c]
        rw [e, e] at hne
        have hb := (parts_iff n i z r hi).2 c
        obtain ⟨h3, h4⟩ := hw _ (by omega) hne
        have h5 := parts_iff A i z r hi
        have h6 := parts_iff (A + 4 * z) i z r hi
        rw [parts_add A i z 4 hi] at h6
        exact ⟨by omega, h6.1 h4⟩
      · exfalso
        have e : ∀ f : Nat → BitVec 8, prt n i z f r = f (n + (i + (r - parts n i z) * z)) := fun f => by unfold prt jn; rw [if_neg c]
        rw [e, e] at hne
        have := Nat.mul_le_mul_right z (show r - parts n i z + 1 ≤ 8 by omega)
        rw [Nat.add_mul, Nat.one_mul] at this
        exact hne (hs _ (by omega) (by omega))
    · refine ⟨parts (A - n) i z + parts n i z, fun r hr hne => ?_⟩
      by_cases c : r < parts n i z
      · exfalso
        have e : ∀ f : Nat → BitVec 8, prt n i z f r = f (i + r * z) := fun f => by unfold prt jn; rw [if_pos c]
        rw [e, e] at hne
        exact hne (hs _ ((parts_iff n i z r hi).2 c))
      · have e : ∀ f : Nat → BitVec 8, prt n i z f r = f (n + (i + (r - parts n i z) * z)) := fun f => by unfold prt jn; rw [if_neg c]
        rw [e, e] at hne
        have := Nat.mul_le_mul_right z (show r - parts n i z + 1 ≤ 8 by omega)
        rw [Nat.add_mul, Nat.one_mul] at this
        obtain ⟨h3, h4⟩ := hw _ (by omega) hne
        have h5 := parts_iff (A - n) i z (r - parts n i z) hi
        have h6 := parts_iff (A - n + 4 * z) i z (r - parts n i z) hi
        rw [parts_add (A - n) i z 4 hi] at h6
        have h7 := h6.1 (by omega)
        exact ⟨by omega, by omega⟩
  obtain ⟨p, key⟩ := key
  have h4 := cnt_four (fun r => decide (Gal.co (Gal.coefs (prt n i z g) (parts n i z + 8)) r ≠ Gal.co (Gal.coefs (prt n i z (Gal.co (wrap l z))) (parts n i z + 8)) r)) p (parts n i z + 8) (fun r hr h => by
    rw [decide_eq_true_eq, Gal.co_coefs, Gal.co_coefs, if_pos hr, if_pos hr] at h
    exact key r hr h)
  simp only [List.length_nil]
  omega
end Blk
/-- What Unwrap makes of it. -/
theorem burst_udp (l : List UInt8) (n z i A : Nat) (g : Nat → BitVec 8) (er : Nat → Bool) (o : List UInt8) (k x : Int) (hn : l.length = n) (hi : i < z) (hz : z ≤ n) (h2 : n ≤ 223 * z) (her : ∀ j, j < n + 8 * z → er j = false)
    (hw : ∀ p, p < n + 8 * z → g p ≠ Gal.co (Blk.wrap l z) p → A ≤ p ∧ p < A + 4 * z)
    (hs : (∀ p, n ≤ p → p < n + 8 * z → g p = Gal.co (Blk.wrap l z) p) ∨ (∀ p, p < n → g p = Gal.co (Blk.wrap l z) p))
    (h : UdP n z g er i o k x) : o = Blk.part l i z ∧ x = 0 := by
  unfold UdP at h
  rw [ers_nil (prt_false her rfl hi)] at h
  obtain ⟨h1, _, h3⟩ := Blk.dec_unique h (.inl ⟨_, Blk.burst_near l n z i A g hn hi hz h2 hw hs, rfl, rfl, rfl⟩)
  refine ⟨h1.trans ?_, h3⟩
  rw [Gal.coefs_length, Nat.add_sub_cancel, show Blk.parts n i z = (Blk.part l i z).length by rw [Blk.part_length, hn]]
  exact Blk.enc_take _
theorem unwrap_bad (s : ByteArray) (z : Int) (a : Option Addr) (cap m n : Nat) (zs : List Int) (hn : s.size = n) (n2 : n ≤ 400000) (hb : ¬ (1 ≤ z ∧ z ≤ 4 ∧ 9 * z ≤ n ∧ (n : Int) ≤ 231 * z ∧ Within zs n)) (hm : zs.length = m) (m2 : m ≤ 400000) (w : World) (R : Ints w a zs) :
    Calls Tryz.prog 16 #[.string s, .int .i64 z, .slice a m cap] w fun e w' => e = .returned (.tuple #[.string ⟨#[]⟩, .slice none 0 0, .int .i64 2]) ∧ w = w' := by
  have ID := Lib.hid (isDepth_any z w)
  by_cases g : 1 ≤ z ∧ z ≤ 4
  · rw [decide_eq_true g] at ID
    obtain ⟨g1, g2⟩ := g
    have m9 : IntKind.i64.wrap (9 * z) = 9 * z := by rw [IntKind.wrap_i64]; omega
    have m231 : IntKind.i64.wrap (231 * z) = 231 * z := by rw [IntKind.wrap_i64]; omega
    by_cases g3 : (n : Int) < 9 * z
    · clear hb R hm
      go_enter Tryz.func16, Tryz.ntmps16
      go_wp2_with fail
      (with_reducible refine ID.out.mono ?_)
      rintro e w' ⟨rfl, rfl⟩
      go_wp2_with fail
      go_ret3
      exact ⟨rfl, rfl⟩
    · by_cases g4 : 231 * z < (n : Int)
      · clear hb R hm
        go_enter Tryz.func16, Tryz.ntmps16
        go_wp2_with fail
        (with_reducible refine ID.out.mono ?_)
        rintro e w' ⟨rfl, rfl⟩
        go_wp2_with fail
        go_ret3
        exact ⟨rfl, rfl⟩
      · have AP := Lib.hid (arePlaces_any a cap m zs n hm m2 (by omega) w R)
        rw [decide_eq_false (show ¬ Within zs n from fun q => hb ⟨g1, g2, by omega, by omega, q⟩)] at AP
        clear hb R hm
        go_enter Tryz.func16, Tryz.ntmps16
        go_wp2_with fail
        (with_reducible refine ID.out.mono ?_)
        rintro e w' ⟨rfl, rfl⟩
        go_wp2_with fail
        (with_reducible refine AP.out.mono ?_)
        rintro e w' ⟨rfl, rfl⟩
        go_wp2_with fail
        go_ret3
        exact ⟨rfl, rfl⟩
  · rw [decide_eq_false g] at ID
    clear hb g R hm
    go_enter Tryz.func16, Tryz.ntmps16
    go_wp2_with fail
    (with_reducible refine ID.out.mono ?_)
    rintro e w' ⟨rfl, rfl⟩
    go_wp2_with fail
    go_ret3
    exact ⟨rfl, rfl⟩
end Go.Proofs.YtlpjhmafplljaaaGreatDoor
/- The contract of the check kit's Pick over this program. -/
namespace Go.Proofs.YtlpjhmafplljaaaGreatDoor
open Go.RowKit
set_option linter.unusedVariables false
theorem pick_any (n : Int) (hn : (Lit.int .i64 n).wf = true) (m : Nat) (h0 : 0 < m) (h1 : m ≤ 4294967296) (w : World) :
    Calls Tryz.prog 36 #[.int .i64 n, .int .i64 m] w fun e w' => e = .returned (.int .i64 ((n % (m : Int)).toNat : Nat)) ∧ w = w' := by
  obtain ⟨b1, b2⟩ := bounds_i64 hn
  have m0 : (m : Int) ≠ 0 := by omega
  have e0 := Int.emod_nonneg n m0
  have e1 := Int.emod_lt_of_pos n (show 0 < (m : Int) by omega)
  obtain ⟨t, ht⟩ : ∃ t, n.tmod (m : Int) = t := ⟨_, rfl⟩
  obtain ⟨q, hq⟩ : ∃ q : Nat, (n % (m : Int)).toNat = q := ⟨_, rfl⟩
  rw [hq]
  have hs : t = (q : Int) ∨ (t < 0 ∧ t + m = (q : Int)) := by
    rw [← ht]
    by_cases g : 0 ≤ n
    · left
      rw [Int.tmod_eq_emod_of_nonneg g]
      omega
    · have e := Int.tmod_eq_emod (a := n) (b := (m : Int))
      by_cases d : (m : Int) ∣ n
      · left
        rw [if_pos (Or.inr d)] at e
        omega
      · right
        rw [if_neg (by intro h; rcases h with h | h; exact g h; exact d h)] at e
        have : n % (m : Int) ≠ 0 := fun h => d (Int.dvd_of_emod_eq_zero h)
        have na : ((m : Int).natAbs : Int) = m := by simp
        omega
  have tw : IntKind.i64.wrap (n.tmod (m : Int)) = t := by
    rw [ht, IntKind.wrap_i64]
    omega
  rcases hs with hs | ⟨hn, hs⟩
  · subst hs
    clear hq e0 e1
    go_enter Tryz.func36, Tryz.ntmps36
    go_wp2_with fail
    go_ret
    exact ⟨rfl, rfl⟩
  · have sw : IntKind.i64.wrap (t + (m : Int)) = (q : Int) := by
      rw [hs, IntKind.wrap_i64]
      omega
    clear hq e0 e1 hs
    go_enter Tryz.func36, Tryz.ntmps36
    go_wp2_with fail
    go_ret
    exact ⟨rfl, rfl⟩
end Go.Proofs.YtlpjhmafplljaaaGreatDoor
/- The places of an interleaved string that belong to one code block: plain mathematics. -/
namespace Go.Proofs.YtlpjhmafplljaaaGreatDoor
set_option linter.unusedVariables false
/-- The place of the code block that the place p of the whole string is, if it belongs to it. -/
def pl1 (N M z j p : Nat) : List Nat := if p < N then (if p % z = j then [p / z] else []) else (if (p - N) % z = j then [M + (p - N) / z] else [])
def pls (N M z j : Nat) (zs : List Int) : List Nat := zs.flatMap (fun p => pl1 N M z j p.toNat)
theorem pl1_len (N M z j p : Nat) : (pl1 N M z j p).length ≤ 1 := by
  unfold pl1
  split <;> split <;> simp
theorem pls_len (N M z j : Nat) : ∀ zs : List Int, (pls N M z j zs).length ≤ zs.length
  | [] => Nat.le_refl _
  | p :: zs => by
    have h1 := pl1_len N M z j p.toNat
    have h2 := pls_len N M z j zs
    unfold pls at h2 ⊢
    rw [List.flatMap_cons, List.length_append, List.length_cons]
    omega
theorem pls_take (N M z j : Nat) (zs : List Int) {k p : Nat} (hk : k < zs.length) (hp : zs.getD k 0 = (p : Int)) : pls N M z j (zs.take (k + 1)) = pls N M z j (zs.take k) ++ pl1 N M z j p := by
  rw [List.take_add_one, List.getElem?_eq_getElem hk]
  rw [getD_at zs hk] at hp
  unfold pls
  rw [List.flatMap_append, hp]
  simp
theorem div_of {p z j : Nat} (h : p % z = j) : p = j + p / z * z := by
  have := Nat.div_add_mod p z
  rw [h, Nat.mul_comm] at this
  omega
theorem pls_lt {n N z j M : Nat} (hN : N + 8 * z = n) (hj : j < z) (hM : Blk.parts N j z = M) {zs : List Int} (hz : Within zs n) {q : Nat} (h : q ∈ pls N M z j zs) : q < M + 8 := by
  unfold pls at h
  obtain ⟨x, hx, hq⟩ := List.mem_flatMap.1 h
  have := hz x hx
  obtain ⟨p, rfl⟩ : ∃ p : Nat, x = (p : Int) := ⟨x.toNat, by omega⟩
  rw [Int.toNat_natCast] at hq
  unfold pl1 at hq
  by_cases g : p < N
  · rw [if_pos g] at hq
    by_cases g2 : p % z = j
    · rw [if_pos g2, List.mem_singleton] at hq
      have e := div_of g2
      rw [← hq] at e
      have := (Blk.parts_iff N j z q hj).1 (by omega)
      omega
    · rw [if_neg g2] at hq
      simp at hq
  · rw [if_neg g] at hq
    by_cases g2 : (p - N) % z = j
    · rw [if_pos g2, List.mem_singleton] at hq
      have : (p - N) / z < 8 := (Nat.div_lt_iff_lt_mul (by omega)).2 (by omega)
      omega
    · rw [if_neg g2] at hq
      simp at hq
theorem pls_iff {n N z j M : Nat} (hN : N + 8 * z = n) (hj : j < z) (hM : Blk.parts N j z = M) {zs : List Int} (hz : Within zs n) {er : Nat → Bool} (her : ∀ i, i < n → (er i = true ↔ (i : Int) ∈ zs)) {q : Nat} (hq : q < M + 8) :
    prt N j z er q = true ↔ q ∈ pls N M z j zs := by
  subst hM
  unfold prt jn
  constructor
  · intro h
    unfold pls
    rw [List.mem_flatMap]
    by_cases g : q < Blk.parts N j z
    · rw [if_pos g] at h
      have h2 := (Blk.parts_iff N j z q hj).2 g
      refine ⟨((j + q * z : Nat) : Int), (her _ (by omega)).1 h, ?_⟩
      obtain ⟨e1, e2⟩ := spr_div (i := q) hj
      rw [Int.toNat_natCast]
      unfold pl1
      rw [if_pos h2, if_pos e1, e2]
      exact List.mem_singleton.2 rfl
    · rw [if_neg g] at h
      obtain ⟨r, hr⟩ : ∃ r, q = Blk.parts N j z + r := ⟨q - Blk.parts N j z, by omega⟩
      subst hr
      have e0 : Blk.parts N j z + r - Blk.parts N j z = r := by omega
      rw [e0] at h
      have hb : j + r * z < 8 * z := by
        have := Nat.mul_le_mul_right z (show r + 1 ≤ 8 by omega)
        rw [Nat.add_mul, Nat.one_mul] at this
        omega
      refine ⟨((N + (j + r * z) : Nat) : Int), (her _ (by omega)).1 h, ?_⟩
      obtain ⟨e1, e2⟩ := spr_div (i := r) hj
      rw [Int.toNat_natCast]
      unfold pl1
      rw [if_neg (by omega), Nat.add_sub_cancel_left, if_pos e1, e2]
      exact List.mem_singleton.2 rfl
  · intro h
    unfold pls at h
    obtain ⟨x, hx, hq2⟩ := List.mem_flatMap.1 h
    have hw := hz x hx
    obtain ⟨p, rfl⟩ : ∃ p : Nat, x = (p : Int) := ⟨x.toNat, by omega⟩
    rw [Int.toNat_natCast] at hq2
    unfold pl1 at hq2
    by_cases g : p < N
    · rw [if_pos g] at hq2
      by_cases g2 : p % z = j
      · rw [if_pos g2, List.mem_singleton] at hq2
        have e := div_of g2
        rw [← hq2] at e
        have h3 := (Blk.parts_iff N j z q hj).1 (by omega)
        rw [if_pos h3]
        show er (j + q * z) = true
        rw [← e]
        exact (her p (by omega)).2 hx
      · rw [if_neg g2] at hq2
        simp at hq2
    · rw [if_neg g] at hq2
      by_cases g2 : (p - N) % z = j
      · rw [if_pos g2, List.mem_singleton] at hq2
        have e := div_of g2
        obtain ⟨r, hr⟩ : ∃ r, (p - N) / z = r := ⟨_, rfl⟩
        rw [hr] at e hq2
        subst hq2
        rw [if_neg (by omega), Nat.add_sub_cancel_left]
        show er (N + (j + r * z)) = true
        rw [show N + (j + r * z) = p by omega]
        exact (her p (by omega)).2 hx
      · rw [if_neg g2] at hq2
        simp at hq2
/-- The two pieces of a code block put together. -/
theorem cat_parts (s : ByteArray) (n N z j : Nat) (hn : s.size = n) (hN : N + 8 * z = n) (hj : j < z) :
    (⟨(Blk.part (s.extract 0 N).data.toList j z).toArray⟩ : ByteArray) ++ ⟨(Blk.part (s.extract N n).data.toList j z).toArray⟩ = ⟨(Gal.coefs (prt N j z (Gal.co s.data.toList)) (Blk.parts N j z + 8)).toArray⟩ := by
  have sl : s.data.toList.length = n := by rw [ls, hn]
  have t1 : (s.extract 0 N).data.toList = s.data.toList.take N := take_bytes s N
  have t2 : (s.extract N n).data.toList = s.data.toList.drop N := by
    rw [ByteArray.data_extract, Array.toList_extract, List.extract_eq_take_drop, List.take_of_length_le (by rw [List.length_drop, sl]; omega)]
  have l1 : (Blk.part (s.extract 0 N).data.toList j z).length = Blk.parts N j z := by rw [Blk.part_length, t1, List.length_take, sl, Nat.min_eq_left (by omega)]
  have l2 : (Blk.part (s.extract N n).data.toList j z).length = 8 := by rw [Blk.part_length, t2, List.length_drop, sl, show n - N = 8 * z by omega]; exact parts_mul 8 j z hj
  have key : Blk.part (s.extract 0 N).data.toList j z ++ Blk.part (s.extract N n).data.toList j z = Gal.coefs (prt N j z (Gal.co s.data.toList)) (Blk.parts N j z + 8) := by
    refine Gal.ext (by rw [List.length_append, l1, l2, Gal.coefs_length]) (fun k hk => ?_)
    rw [List.length_append, l1, l2] at hk
    rw [Gal.co_coefs, if_pos hk]
    unfold prt jn
    by_cases g : k < Blk.parts N j z
    · rw [if_pos g, Blk.co_left _ _ (by rw [l1]; exact g)]
      have h2 := (Blk.parts_iff N j z k hj).2 g
      unfold Blk.part
      rw [Gal.co_coefs, t1, List.length_take, sl, Nat.min_eq_left (by omega), if_pos g]
      unfold Gal.co
      rw [List.getD_eq_getElem?_getD, List.getElem?_take_of_lt h2, ← List.getD_eq_getElem?_getD]
    · rw [if_neg g]
      obtain ⟨r, hr⟩ : ∃ r, k = Blk.parts N j z + r := ⟨k - Blk.parts N j z, by omega⟩
      subst hr
      rw [Nat.add_sub_cancel_left]
      rw [← l1, Blk.co_right]
      unfold Blk.part
      rw [Gal.co_coefs, t2, List.length_drop, sl, show n - N = 8 * z by omega, show Blk.parts (8 * z) j z = 8 from parts_mul 8 j z hj, if_pos (by omega)]
      unfold Gal.co
      rw [List.getD_eq_getElem?_getD, List.getElem?_drop, ← List.getD_eq_getElem?_getD]
  apply ByteArray.ext
  rw [ByteArray.data_append]
  show (Blk.part (s.extract 0 N).data.toList j z).toArray ++ (Blk.part (s.extract N n).data.toList j z).toArray = _
  rw [List.append_toArray, key]
theorem part_size (s : ByteArray) (n N z j : Nat) (hn : s.size = n) (hN : N ≤ n) (hj : j < z) : (⟨(Blk.part (s.extract 0 N).data.toList j z).toArray⟩ : ByteArray).size = Blk.parts N j z := by
  rw [sz, Blk.part_length, take_bytes, List.length_take, ls, hn, Nat.min_eq_left hN]
/-- What is known of a part of the reference. -/
def RdP (N z : Nat) (S : Nat → BitVec 8) (zs : List Int) (i : Nat) (o : List UInt8) (k x : Int) : Prop :=
  ∃ f, f.Nodup ∧ (∀ q : Nat, q ∈ f ↔ (q : Int) ∈ il (pls N (Blk.parts N i z) z i zs)) ∧ Blk.Dec (Gal.coefs (prt N i z S) (Blk.parts N i z + 8)) f o k x
theorem rdp_succ {N z j : Nat} {S : Nat → BitVec 8} {zs : List Int} {o : Nat → List UInt8} {k x : Nat → Int} {o' : List UInt8} {k' x' : Int} (h : ∀ i, i < j → RdP N z S zs i (o i) (k i) (x i)) (h' : RdP N z S zs j o' k' x') :
    ∀ i, i < j + 1 → RdP N z S zs i (Blk.upd o j o' i) (Blk.upd k j k' i) (Blk.upd x j x' i) := fun i hi => by
  by_cases e : i = j
  · subst e
    rw [Blk.upd_same, Blk.upd_same, Blk.upd_same]
    exact h'
  · rw [Blk.upd_other _ _ e, Blk.upd_other _ _ e, Blk.upd_other _ _ e]
    exact h i (by omega)
/-- The counts as a list. -/
def cnl (k x : Nat → Int) (j : Nat) : List Int := (List.range j).map (Blk.cnts k x j)
theorem cnl_succ (k x : Nat → Int) (a b : Int) (j : Nat) : cnl (Blk.upd k j a) (Blk.upd x j b) (j + 1) = cnl k x j ++ [if b = 0 then a else -1] := by
  unfold cnl
  rw [List.range_succ, List.map_append]
  congr 1
  · refine List.map_congr_left (fun i hi => ?_)
    exact Blk.cnts_other k x a b (by have := List.mem_range.1 hi; omega)
  · rw [List.map_singleton, Blk.cnts_same]
theorem cnl_len (k x : Nat → Int) (j : Nat) : (cnl k x j).length = j := by unfold cnl; rw [List.length_map, List.length_range]
/-- Both know the same of each part. -/
theorem both_parts {n N z : Nat} (hN : N + 8 * z = n) {zs : List Int} (hz : Within zs n) {S : Nat → BitVec 8} {er : Nat → Bool} (her : ∀ i, i < n → (er i = true ↔ (i : Int) ∈ zs)) {i : Nat} (hi : i < z)
    {o o' : List UInt8} {k x k' x' : Int} (D : UdP N z S er i o k x) (D' : RdP N z S zs i o' k' x') : o = o' ∧ k = k' ∧ x = x' := by
  obtain ⟨f, hf, hm, D2⟩ := D'
  refine both_dec (zs := il (pls N (Blk.parts N i z) z i zs)) (L := Blk.parts N i z + 8) (er := prt N i z er) (fun p hp => ?_) (fun q hq => ?_) hf hm D D2
  · unfold il at hp
    obtain ⟨q, hq, rfl⟩ := List.mem_map.1 hp
    have := pls_lt hN hi rfl hz hq
    omega
  · rw [pls_iff hN hi rfl hz her hq, il_mem]
end Go.Proofs.YtlpjhmafplljaaaGreatDoor
