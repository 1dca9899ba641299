/- BlkBu, BlkSpoil, BlkErr, BlkCorrects as one text. -/
import Derived.Test.YtlpjhmafplljaaaDoorBlkTop
import Derived.Lib.SmallJoins
/- BlkBurst, BlkPick as one text. -/
/- The mathematics of interleaving: a part of what Wrap makes is what Encode makes of the part; bursts of four times the depth hit a part four times at most. And Unwrap of what it refuses. -/
namespace Go.Proofs.YtlpjhmafplljaaaDoor
open Go.RowKit
set_option linter.unusedVariables false

namespace Blk
theorem part_length (l : List UInt8) (j z : Nat) : (part l j z).length = parts l.length j z := Gal.coefs_length _ _
theorem wrap_length (l : List UInt8) (z : Nat) : (wrap l z).length = l.length + 8 * z := by unfold wrap; rw [List.length_append, Gal.coefs_length]
theorem co_left (a b : List UInt8) {i : Nat} (h : i < a.length) : Gal.co (a ++ b) i = Gal.co a i := by
  unfold Gal.co
  rw [List.getD_eq_getElem?_getD, List.getD_eq_getElem?_getD, List.getElem?_append, if_pos h]
theorem co_right (a b : List UInt8) (i : Nat) : Gal.co (a ++ b) (a.length + i) = Gal.co b i := by
  unfold Gal.co
  rw [List.getD_eq_getElem?_getD, List.getD_eq_getElem?_getD, List.getElem?_append, if_neg (by omega), Nat.add_sub_cancel_left]
/-- A part of interleaved code blocks is a code block. -/
theorem wrap_part (l : List UInt8) (n z i : Nat) (hn : l.length = n) (hi : i < z) : Gal.coefs (prt n i z (Gal.co (wrap l z))) (parts n i z + 8) = enc (part l i z) := by
  have hp : (part l i z).length = parts n i z := by rw [part_length, hn]
  refine Gal.ext (by rw [Gal.coefs_length, enc_length, hp]) (fun k hk => ?_)
  rw [Gal.coefs_length] at hk
  rw [Gal.co_coefs, if_pos hk]
  unfold prt jn
  by_cases g : k < parts n i z
  · have hk2 := (parts_iff n i z k hi).2 g
    rw [if_pos g, enc_data _ _ (by rw [hp]; exact g)]
    unfold wrap part
    show Gal.co (l ++ Gal.coefs (wrp l z z) (8 * z)) (i + k * z) = _
    rw [co_left _ _ (by rw [hn]; exact hk2), Gal.co_coefs, if_pos (by rw [hn]; exact g)]
  · rw [if_neg g]
    obtain ⟨r, hr⟩ : ∃ r, k = parts n i z + r := ⟨k - parts n i z, by omega⟩
    rw [hr, Nat.add_sub_cancel_left]
    have r8 : r < 8 := by omega
    have hb : i + r * z < 8 * z := by
      have := Nat.mul_le_mul_right z (show r + 1 ≤ 8 from r8)
      rw [Nat.add_mul, Nat.one_mul] at this
      omega
    have e1 : Gal.co (wrap l z) (n + (i + r * z)) = Gal.co (wpar l z i) r := by
      unfold wrap
      rw [← hn, co_right, Gal.co_coefs, if_pos hb]
      unfold wrp
      obtain ⟨h1, h2⟩ := spr_div (i := r) hi
      rw [h1, h2, if_pos hi]
    show Gal.co (wrap l z) (n + (i + r * z)) = _
    rw [e1]
    unfold enc
    rw [← hp, co_right]
    rfl
/-- The parts put together are the data. -/
theorem udt_parts (l : List UInt8) (n z : Nat) (o : Nat → List UInt8) (hn : l.length = n) (hz : 0 < z) (ho : ∀ i, i < z → o i = part l i z) : Gal.coefs (udt o z z) n = l := by
  refine Gal.ext (by rw [Gal.coefs_length, hn]) (fun p hp => ?_)
  rw [Gal.coefs_length] at hp
  rw [Gal.co_coefs, if_pos hp]
  have hm : p % z < z := Nat.mod_lt _ hz
  have hd : p % z + p / z * z = p := by have := Nat.div_add_mod p z; rw [Nat.mul_comm] at this; omega
  unfold udt
  rw [if_pos hm, ho _ hm]
  unfold part
  rw [Gal.co_coefs, if_pos ((parts_iff _ _ _ _ hm).1 (by rw [hd, hn]; exact hp)), hd]
theorem parts_add (A i z k : Nat) (hi : i < z) : parts (A + k * z) i z = parts A i z + k := by
  unfold parts
  rw [show A + k * z + z - 1 - i = (A + z - 1 - i) + k * z by omega, Nat.add_mul_div_right _ _ (by omega)]
theorem cnt_range (p m k : Nat) : cnt (fun r => decide (p ≤ r ∧ r < p + m)) k = min (k - p) m := by
  induction k with
  | zero => simp [cnt]
  | succ k ih =>
    rw [cnt_succ, ih]
    by_cases h : p ≤ k ∧ k < p + m
    · rw [if_pos (by simpa using h)]; omega
    · rw [if_neg (by simpa using h)]; omega
/-- A burst of m times the depth hits a part m times at most. -/
theorem burst_hits (A m i z k : Nat) (hi : i < z) : cnt (fun r => decide (A ≤ i + r * z ∧ i + r * z < A + m * z)) k ≤ m := by
  have e : cnt (fun r => decide (A ≤ i + r * z ∧ i + r * z < A + m * z)) k = cnt (fun r => decide (parts A i z ≤ r ∧ r < parts A i z + m)) k := by
    refine cnt_congr (fun r _ => ?_)
    have h1 := parts_iff A i z r hi
    have h2 := parts_iff (A + m * z) i z r hi
    rw [parts_add A i z m hi] at h2
    exact decide_eq_decide.2 ⟨fun h => ⟨by have := h1; omega, h2.1 h.2⟩, fun h => ⟨by have := h1; omega, h2.2 h.2⟩⟩
  rw [e, cnt_range]
  omega
/-- What differs lies in four places: at most four differences. -/
theorem cnt_four (P : Nat → Bool) (p m : Nat) (h : ∀ r, r < m → P r = true → p ≤ r ∧ r < p + 4) : cnt P m ≤ 4 := by
  refine Nat.le_trans ?_ (show cnt (fun r => decide (p ≤ r ∧ r < p + 4)) m ≤ 4 by rw [cnt_range]; omega)
  induction m with
  | zero => simp [cnt]
  | succ m ih =>
    have h1 := ih (fun r hr => h r (by omega))
    rw [cnt_succ, cnt_succ]
    by_cases g : P m = true
    · rw [if_pos g, if_pos (by simpa using h m (by omega) g)]
      omega
    · rw [if_neg g]
      omega
theorem besides_nil (b c : List UInt8) : besides b c [] = (dif b c).length := by
  unfold besides dif
  simp
/-- A part with a burst of four times the depth, in the data or in the parity bytes, is near what was sent. -/
theorem burst_near (l : List UInt8) (n z i A : Nat) (g : Nat → BitVec 8) (hn : l.length = n) (hi : i < z) (hz : z ≤ n) (h2 : n ≤ 223 * z)
    (hw : ∀ p, p < n + 8 * z → g p ≠ Gal.co (wrap l z) p → A ≤ p ∧ p < A + 4 * z)
    (hs : (∀ p, n ≤ p → p < n + 8 * z → g p = Gal.co (wrap l z) p) ∨ (∀ p, p < n → g p = Gal.co (wrap l z) p)) :
    Near (Gal.coefs (prt n i z g) (parts n i z + 8)) [] (enc (part l i z)) := by
  have hp : (part l i z).length = parts n i z := by rw [part_length, hn]
  have q1 := parts_pos hi hz
  have q2 : parts n i z ≤ 223 := by
    apply Nat.le_of_not_lt
    intro h
    have := (parts_iff n i z 223 hi).2 h
    omega
  refine ⟨code_enc _ (by omega) (by omega), by rw [enc_length, hp, Gal.coefs_length], ?_⟩
  rw [besides_nil, ← wrap_part l n z i hn hi]
  have hc : (dif (Gal.coefs (prt n i z g) (parts n i z + 8)) (Gal.coefs (prt n i z (Gal.co (wrap l z))) (parts n i z + 8))).length = cnt (fun r => decide (Gal.co (Gal.coefs (prt n i z g) (parts n i z + 8)) r ≠ Gal.co (Gal.coefs (prt n i z (Gal.co (wrap l z))) (parts n i z + 8)) r)) (parts n i z + 8) := by
    unfold dif cnt
    rw [Gal.coefs_length]
  rw [hc]
  have key : ∃ p, ∀ r, r < parts n i z + 8 → prt n i z g r ≠ prt n i z (Gal.co (wrap l z)) r → p ≤ r ∧ r < p + 4 := by
    rcases hs with hs | hs
    · refine ⟨parts A i z, fun r hr hne => ?_⟩
      by_cases c : r < parts n i z
      · have e : ∀ f : Nat → BitVec 8, prt n i z f r = f (i + r * z) := fun f => by unfold prt jn; rw [if_pos c]
        rw [e, e] at hne
        have hb := (parts_iff n i z r hi).2 c
        obtain ⟨h3, h4⟩ := hw _ (by omega) hne
        have h5 := parts_iff A i z r hi
        have h6 := parts_iff (A + 4 * z) i z r hi
        rw [parts_add A i z 4 hi] at h6
        exact ⟨by omega, h6.1 h4⟩
      · exfalso
        have e : ∀ f : Nat → BitVec 8, prt n i z f r = f (n + (i + (r - parts n i z) * z)) := fun f => by unfold prt jn; rw [if_neg c]
        rw [e, e] at hne
        have := Nat.mul_le_mul_right z (show r - parts n i z + 1 ≤ 8 by omega)
        rw [Nat.add_mul, Nat.one_mul] at this
        exact hne (hs _ (by omega) (by omega))
    · refine ⟨parts (A - n) i z + parts n i z, fun r hr hne => ?_⟩
      by_cases c : r < parts n i z
      · exfalso
        have e : ∀ f : Nat → BitVec 8, prt n i z f r = f (i + r * z) := fun f => by unfold prt jn; rw [if_pos c]
        rw [e, e] at hne
        exact hne (hs _ ((parts_iff n i z r hi).2 c))
      · have e : ∀ f : Nat → BitVec 8, prt n i z f r = f (n + (i + (r - parts n i z) * z)) := fun f => by unfold prt jn; rw [if_neg c]
        rw [e, e] at hne
        have := Nat.mul_le_mul_right z (show r - parts n i z + 1 ≤ 8 by omega)
        rw [Nat.add_mul, Nat.one_mul] at this
        obtain ⟨h3, h4⟩ := hw _ (by omega) hne
        have h5 := parts_iff (A - n) i z (r - parts n i z) hi
        have h6 := parts_iff (A - n + 4 * z) i z (r - parts n i z) hi
        rw [parts_add (A - n) i z 4 hi] at h6
        have h7 := h6.1 (by omega)
        exact ⟨by omega, by omega⟩
  obtain ⟨p, key⟩ := key
  have h4 := cnt_four (fun r => decide (Gal.co (Gal.coefs (prt n i z g) (parts n i z + 8)) r ≠ Gal.co (Gal.coefs (prt n i z (Gal.co (wrap l z))) (parts n i z + 8)) r)) p (parts n i z + 8) (fun r hr h => by
    rw [decide_eq_true_eq, Gal.co_coefs, Gal.co_coefs, if_pos hr, if_pos hr] at h
    exact key r hr h)
  simp only [List.length_nil]
  omega
end Blk
/-- What Unwrap makes of it. -/
theorem burst_udp (l : List UInt8) (n z i A : Nat) (g : Nat → BitVec 8) (er : Nat → Bool) (o : List UInt8) (k x : Int) (hn : l.length = n) (hi : i < z) (hz : z ≤ n) (h2 : n ≤ 223 * z) (her : ∀ j, j < n + 8 * z → er j = false)
    (hw : ∀ p, p < n + 8 * z → g p ≠ Gal.co (Blk.wrap l z) p → A ≤ p ∧ p < A + 4 * z)
    (hs : (∀ p, n ≤ p → p < n + 8 * z → g p = Gal.co (Blk.wrap l z) p) ∨ (∀ p, p < n → g p = Gal.co (Blk.wrap l z) p))
    (h : UdP n z g er i o k x) : o = Blk.part l i z ∧ x = 0 := by
  unfold UdP at h
  rw [ers_nil (prt_false her rfl hi)] at h
  obtain ⟨h1, _, h3⟩ := Blk.dec_unique h (.inl ⟨_, Blk.burst_near l n z i A g hn hi hz h2 hw hs, rfl, rfl, rfl⟩)
  refine ⟨h1.trans ?_, h3⟩
  rw [Gal.coefs_length, Nat.add_sub_cancel, show Blk.parts n i z = (Blk.part l i z).length by rw [Blk.part_length, hn]]
  exact Blk.enc_take _
theorem unwrap_bad (s : ByteArray) (z : Int) (a : Option Addr) (cap m n : Nat) (zs : List Int) (hn : s.size = n) (n2 : n ≤ 400000) (hb : ¬ (1 ≤ z ∧ z ≤ 4 ∧ 9 * z ≤ n ∧ (n : Int) ≤ 231 * z ∧ Within zs n)) (hm : zs.length = m) (m2 : m ≤ 400000) (w : World) (R : Ints w a zs) :
    Calls Tryd.prog 12 #[.string s, .int .i64 z, .slice a m cap] w fun e w' => e = .returned (.tuple #[.string ⟨#[]⟩, .slice none 0 0, .int .i64 2]) ∧ w = w' := by
  have ID := Lib.hid (isDepth_any z w)
  by_cases g : 1 ≤ z ∧ z ≤ 4
  · rw [decide_eq_true g] at ID
    obtain ⟨g1, g2⟩ := g
    have m9 : IntKind.i64.wrap (9 * z) = 9 * z := by rw [IntKind.wrap_i64]; omega
    have m231 : IntKind.i64.wrap (231 * z) = 231 * z := by rw [IntKind.wrap_i64]; omega
    by_cases g3 : (n : Int) < 9 * z
    · clear hb R hm
      go_enter Tryd.func12, Tryd.ntmps12
      go_wp2_with fail
      (with_reducible refine ID.out.mono ?_)
      rintro e w' ⟨rfl, rfl⟩
      go_wp2_with fail
      go_ret3
      exact ⟨rfl, rfl⟩
    · by_cases g4 : 231 * z < (n : Int)
      · clear hb R hm
        go_enter Tryd.func12, Tryd.ntmps12
        go_wp2_with fail
        (with_reducible refine ID.out.mono ?_)
        rintro e w' ⟨rfl, rfl⟩
        go_wp2_with fail
        go_ret3
        exact ⟨rfl, rfl⟩
      · have AP := Lib.hid (arePlaces_any a cap m zs n hm m2 (by omega) w R)
        rw [decide_eq_false (show ¬ Within zs n from fun q => hb ⟨g1, g2, by omega, by omega, q⟩)] at AP
        clear hb R hm
        go_enter Tryd.func12, Tryd.ntmps12
        go_wp2_with fail
        (with_reducible refine ID.out.mono ?_)
        rintro e w' ⟨rfl, rfl⟩
        go_wp2_with fail
        (with_reducible refine AP.out.mono ?_)
        rintro e w' ⟨rfl, rfl⟩
        go_wp2_with fail
        go_ret3
        exact ⟨rfl, rfl⟩
  · rw [decide_eq_false g] at ID
    clear hb g R hm
    go_enter Tryd.func12, Tryd.ntmps12
    go_wp2_with fail
    (with_reducible refine ID.out.mono ?_)
    rintro e w' ⟨rfl, rfl⟩
    go_wp2_with fail
    go_ret3
    exact ⟨rfl, rfl⟩
end Go.Proofs.YtlpjhmafplljaaaDoor
/- The contract of the check kit's Pick over this program. -/
namespace Go.Proofs.YtlpjhmafplljaaaDoor
open Go.RowKit
set_option linter.unusedVariables false
theorem pick_any (n : Int) (hn : (Lit.int .i64 n).wf = true) (m : Nat) (h0 : 0 < m) (h1 : m ≤ 4294967296) (w : World) :
    Calls Tryd.prog 11 #[.int .i64 n, .int .i64 m] w fun e w' => e = .returned (.int .i64 ((n % (m : Int)).toNat : Nat)) ∧ w = w' := by
  obtain ⟨b1, b2⟩ := bounds_i64 hn
  have m0 : (m : Int) ≠ 0 := by omega
  have e0 := Int.emod_nonneg n m0
  have e1 := Int.emod_lt_of_pos n (show 0 < (m : Int) by omega)
  obtain ⟨t, ht⟩ : ∃ t, n.tmod (m : Int) = t := ⟨_, rfl⟩
  obtain ⟨q, hq⟩ : ∃ q : Nat, (n % (m : Int)).toNat = q := ⟨_, rfl⟩
  rw [hq]
  have hs : t = (q : Int) ∨ (t < 0 ∧ t + m = (q : Int)) := by
    rw [← ht]
    by_cases g : 0 ≤ n
    · left
      rw [Int.tmod_eq_emod_of_nonneg g]
      omega
    · have e := Int.tmod_eq_emod (a := n) (b := (m : Int))
      by_cases d : (m : Int) ∣ n
      · left
        rw [if_pos (Or.inr d)] at e
        omega
      · right
        rw [if_neg (by intro h; rcases h with h | h; exact g h; exact d h)] at e
        have : n % (m : Int) ≠ 0 := fun h => d (Int.dvd_of_emod_eq_zero h)
        have na : ((m : Int).natAbs : Int) = m := by simp
        omega
  have tw : IntKind.i64.wrap (n.tmod (m : Int)) = t := by
    rw [ht, IntKind.wrap_i64]
    omega
  rcases hs with hs | ⟨hn, hs⟩
  · subst hs
    clear hq e0 e1
    go_enter Tryd.func11, Tryd.ntmps11
    go_wp2_with fail
    go_ret
    exact ⟨rfl, rfl⟩
  · have sw : IntKind.i64.wrap (t + (m : Int)) = (q : Int) := by
      rw [hs, IntKind.wrap_i64]
      omega
    clear hq e0 e1 hs
    go_enter Tryd.func11, Tryd.ntmps11
    go_wp2_with fail
    go_ret
    exact ⟨rfl, rfl⟩
end Go.Proofs.YtlpjhmafplljaaaDoor
/- What the statements' spoil does: some string of the same length, and a list of places in it. -/
namespace Go.Proofs.YtlpjhmafplljaaaDoor
open Go.RowKit
set_option linter.unusedVariables false
/-- Cells of a list of errors. -/
def Errs (w : World) (a : Option Addr) (m : Nat) (At : Nat → Int) (Ch : Nat → BitVec 8) (Er : Nat → Bool) : Prop :=
  m = 0 ∨ ∃ b off, a = some ⟨b, off, none⟩ ∧ b < w.heap.size ∧ ∀ j, j < m → w.cell? ⟨b, off + j * 3, none⟩ = some (.int .i64 (At j)) ∧ w.cell? ⟨b, off + j * 3 + 1, none⟩ = some (.int .u8 ((Ch j).toNat : Nat)) ∧ w.cell? ⟨b, off + j * 3 + 2, none⟩ = some (.bool (Er j))
theorem Errs.below {w w' : World} {a : Option Addr} {m : Nat} {At : Nat → Int} {Ch : Nat → BitVec 8} {Er : Nat → Bool} (h : Errs w a m At Ch Er) (hb : Below w.heap.size w w') : Errs w' a m At Ch Er := by
  rcases h with h | ⟨b, off, rfl, hl, hc⟩
  · exact .inl h
  · exact .inr ⟨b, off, rfl, Nat.lt_of_lt_of_le hl hb.size, fun j hj => ⟨(hb.cell (p := ⟨b, _, none⟩) hl).trans (hc j hj).1, (hb.cell (p := ⟨b, _, none⟩) hl).trans (hc j hj).2.1, (hb.cell (p := ⟨b, _, none⟩) hl).trans (hc j hj).2.2⟩⟩
theorem add_pl (b off j : Nat) : (⟨b, off, none⟩ : Addr).add j = ⟨b, off + j, none⟩ := by unfold Addr.add; split <;> simp_all
def ivl (zs : List Int) : List Value := zs.map (.int .i64)
theorem ivl_add (zs : List Int) (k : Nat) : ivl (zs ++ [(k : Int)]) = ivl zs ++ [.int .i64 (k : Nat)] := by simp [ivl]
theorem within_add {zs : List Int} {n k : Nat} (h : Within zs n) (hk : k < n) : Within (zs ++ [(k : Int)]) n := fun p hp => by
  rcases List.mem_append.1 hp with q | q
  · exact h p q
  · rw [List.mem_singleton.1 q]; omega
theorem ints_own {w : World} {B m : Nat} {v : Value} {zs : List Int} (h : w.ownsRow B 3 1 v m (ivl zs)) (hm : zs.length = m) : ∃ a cap, v = .slice a m cap ∧ Ints w a zs := by
  rcases h.2 with ⟨rfl, q⟩ | ⟨g, cap, cur, rfl, hb, hh, _⟩
  · have : zs = [] := List.eq_nil_of_length_eq_zero (hm.trans q)
    subst this
    exact ⟨none, 0, by rw [← hm]; rfl, .inl rfl⟩
  · refine ⟨_, cap, rfl, .inr ⟨g, 0, rfl, ?_, fun j hj => ?_⟩⟩
    · rcases Nat.lt_or_ge g w.heap.size with q | q
      · exact q
      · rw [Array.getElem?_eq_none q] at hh; cases hh
    · have := h.cells (g := g) rfl j (.int .i64 (zs.getD j 0)) (by unfold ivl; rw [List.getElem?_map, List.getElem?_eq_getElem hj, Option.map_some, getD_at zs hj])
      rw [add_pl] at this
      exact this
theorem below_set {B : Nat} {a w : World} (h : Below B a w) {p : Addr} (hp : B ≤ p.block) (u : Value) : Below B a (w.setCell p u) := h.setCell hp u
/-- What spoil leaves: a string as long, and places in it. -/
def SpP (L m : Nat) (w : World) (e : Ending) (w' : World) : Prop :=
  ∃ (s : ByteArray) (zs : List Int) (a : Option Addr) (cap : Nat), e = .returned (.tuple #[.string s, .slice a zs.length cap]) ∧ s.size = L ∧ zs.length ≤ m ∧ Within zs L ∧ Ints w' a zs ∧ Below w.heap.size w w'
structure SpoilRegion (sb L D i k b eo m cap : Nat) (V X : BitVec 8) (A : Act) (w0 : World) (s : Nat → Bool) (a : Act) (w : World) : Prop where
  off : Off [26, 27, 28, 29, 30, 31, 32, 33, 34, 35, 36, 37, 38] a A
  before : Below w0.heap.size w0 w
  t0 : s 0 = true → a.eval (.tmp 26) = .slice (some ⟨sb, 0, none⟩) L D
  t1 : s 1 = true → a.eval (.tmp 27) = .int .i64 (k : Nat)
  t2 : s 2 = true → a.eval (.tmp 28) = .slice (some ⟨sb, 0, none⟩) L D
  t3 : s 3 = true → a.eval (.tmp 29) = .int .i64 (k : Nat)
  t4 : s 4 = true → a.eval (.tmp 30) = .pointer (some ⟨sb, k, none⟩)
  t5 : s 5 = true → a.eval (.tmp 31) = .int .u8 (V.toNat : Nat)
  t6 : s 6 = true → a.eval (.tmp 32) = .slice (some ⟨b, eo, none⟩) m cap
  t7 : s 7 = true → a.eval (.tmp 33) = .int .i64 (i : Nat)
  t8 : s 8 = true → a.eval (.tmp 34) = .pointer (some ⟨b, eo + i * 3, none⟩)
  t9 : s 9 = true → a.eval (.tmp 35) = .pointer (some ⟨b, eo + i * 3 + 1, none⟩)
  t10 : s 10 = true → a.eval (.tmp 36) = .int .u8 (X.toNat : Nat)
  t11 : s 11 = true → a.eval (.tmp 37) = .int .u8 ((V ^^^ X).toNat : Nat)
  t12 : s 12 = true → a.eval (.tmp 38) = .pointer (some ⟨sb, k, none⟩)
set_option maxHeartbeats 2000000 in
set_option maxRecDepth 100000 in
theorem spoilRegion {id : Nat} {l : List Oper} {A : Act} {w : World} {Q : Exit → Act → World → Prop} (sb L D i k b eo m cap : Nat) (V X : BitVec 8)
    (hsb : sb < w.heap.size) (hc : w.cell? ⟨sb, k, none⟩ = some (.int .u8 (V.toNat : Nat))) (hk : k < L) (hL : L ≤ 2000) (hb : b < w.heap.size) (he : w.cell? ⟨b, eo + i * 3 + 1, none⟩ = some (.int .u8 (X.toNat : Nat))) (hi : i < m) (hm3 : m ≤ 60)
    (hB : tableH l.toArray 13 (fun i => match i with | 0 => [] | 1 => [] | 2 => [] | 3 => [] | 4 => [2, 3] | 5 => [4] | 6 => [] | 7 => [] | 8 => [6, 7] | 9 => [8] | 10 => [9] | 11 => [5, 10] | 12 => [0, 1] | _ => []) (fun _ => []) = true)
    (h0 : pick l 0 = some (.move (.tmp 6), some 26))
    (h1 : pick l 1 = some (.move (.tmp 9), some 27))
    (h2 : pick l 2 = some (.move (.tmp 6), some 28))
    (h3 : pick l 3 = some (.move (.tmp 9), some 29))
    (h4 : pick l 4 = some (.indexAddr 33 (.tmp 28) (.tmp 29), some 30))
    (h5 : pick l 5 = some (.load 5 (.tmp 30), some 31))
    (h6 : pick l 6 = some (.move (.tmp 1), some 32))
    (h7 : pick l 7 = some (.move (.tmp 8), some 33))
    (h8 : pick l 8 = some (.indexAddr 22 (.tmp 32) (.tmp 33), some 34))
    (h9 : pick l 9 = some (.fieldAddr 44 (.tmp 34) 1, some 35))
    (h10 : pick l 10 = some (.load 5 (.tmp 35), some 36))
    (h11 : pick l 11 = some (.binOp .xor 5 (.tmp 31) (.tmp 36) 5, some 37))
    (h12 : pick l 12 = some (.indexAddr 33 (.tmp 26) (.tmp 27), some 38))
    (hs : A.tmps.size = 51)
    (x6 : A.eval (.tmp 6) = .slice (some ⟨sb, 0, none⟩) L D)
    (x9 : A.eval (.tmp 9) = .int .i64 (k : Nat))
    (x1 : A.eval (.tmp 1) = .slice (some ⟨b, eo, none⟩) m cap)
    (x8 : A.eval (.tmp 8) = .int .i64 (i : Nat))
    (h : ∀ w1, Below w.heap.size w w1 → wpList Tryd.prog l.toArray Q (l.drop 13) (((((((((((((A.put (some 26) (.slice (some ⟨sb, 0, none⟩) L D)).put (some 27) (.int .i64 (k : Nat))).put (some 28) (.slice (some ⟨sb, 0, none⟩) L D)).put (some 29) (.int .i64 (k : Nat))).put (some 30) (.pointer (some ⟨sb, k, none⟩))).put (some 31) (.int .u8 (V.toNat : Nat))).put (some 32) (.slice (some ⟨b, eo, none⟩) m cap)).put (some 33) (.int .i64 (i : Nat))).put (some 34) (.pointer (some ⟨b, eo + i * 3, none⟩))).put (some 35) (.pointer (some ⟨b, eo + i * 3 + 1, none⟩))).put (some 36) (.int .u8 (X.toNat : Nat))).put (some 37) (.int .u8 ((V ^^^ X).toNat : Nat))).put (some 38) (.pointer (some ⟨sb, k, none⟩))) w1) :
    (Code.region id l.toArray true).wp Tryd.prog Q A w := by
  refine wp_region_head (by kernel_rfl) _ _ _ hB (SpoilRegion sb L D i k b eo m cap V X A w) ⟨Off.refl _ _, (Below.refl _ _).drew, by simp, by simp, by simp, by simp, by simp, by simp, by simp, by simp, by simp, by simp, by simp, by simp, by simp⟩ ?_ ?_
  · intro s a w' S i' o il ho hsi hT K hK
    have sz : a.tmps.size = 51 := by rw [S.off.2.1]; exact hs
    have y6 : a.eval (.tmp 6) = .slice (some ⟨sb, 0, none⟩) L D := by rw [S.off.eval (by decide)]; exact x6
    have y9 : a.eval (.tmp 9) = .int .i64 (k : Nat) := by rw [S.off.eval (by decide)]; exact x9
    have y1 : a.eval (.tmp 1) = .slice (some ⟨b, eo, none⟩) m cap := by rw [S.off.eval (by decide)]; exact x1
    have y8 : a.eval (.tmp 8) = .int .i64 (i : Nat) := by rw [S.off.eval (by decide)]; exact x8
    match i', il, ho, hsi, hT with
    | 0, _, ho, hsi, hT =>
      obtain ⟨e1, e2⟩ := pick_of h0 ho
      have BW := S.before
      refine step_val (v := .slice (some ⟨sb, 0, none⟩) L D) (by simp only [execOp, e1, y6]; go_simp) (hK _ _ ?_)
      rw [e2]
      exact ⟨S.off.put (by decide) _, S.before, fun _ => (eval_put _ _ _ (by omega)).trans rfl, fun g => by rw [eval_put_ne _ _ _ _ (by decide)]; exact S.t1 (by simpa using g), fun g => by rw [eval_put_ne _ _ _ _ (by decide)]; exact S.t2 (by simpa using g), fun g => by rw [eval_put_ne _ _ _ _ (by decide)]; exact S.t3 (by simpa using g), fun g => by rw [eval_put_ne _ _ _ _ (by decide)]; exact S.t4 (by simpa using g), fun g => by rw [eval_put_ne _ _ _ _ (by decide)]; exact S.t5 (by simpa using g), fun g => by rw [eval_put_ne _ _ _ _ (by decide)]; exact S.t6 (by simpa using g), fun g => by rw [eval_put_ne _ _ _ _ (by decide)]; exact S.t7 (by simpa using g), fun g => by rw [eval_put_ne _ _ _ _ (by decide)]; exact S.t8 (by simpa using g), fun g => by rw [eval_put_ne _ _ _ _ (by decide)]; exact S.t9 (by simpa using g), fun g => by rw [eval_put_ne _ _ _ _ (by decide)]; exact S.t10 (by simpa using g), fun g => by rw [eval_put_ne _ _ _ _ (by decide)]; exact S.t11 (by simpa using g), fun g => by rw [eval_put_ne _ _ _ _ (by decide)]; exact S.t12 (by simpa using g)⟩
    | 1, _, ho, hsi, hT =>
      obtain ⟨e1, e2⟩ := pick_of h1 ho
      have BW := S.before
      refine step_val (v := .int .i64 (k : Nat)) (by simp only [execOp, e1, y9]; go_simp) (hK _ _ ?_)
      rw [e2]
      exact ⟨S.off.put (by decide) _, S.before, fun g => by rw [eval_put_ne _ _ _ _ (by decide)]; exact S.t0 (by simpa using g), fun _ => (eval_put _ _ _ (by omega)).trans rfl, fun g => by rw [eval_put_ne _ _ _ _ (by decide)]; exact S.t2 (by simpa using g), fun g => by rw [eval_put_ne _ _ _ _ (by decide)]; exact S.t3 (by simpa using g), fun g => by rw [eval_put_ne _ _ _ _ (by decide)]; exact S.t4 (by simpa using g), fun g => by rw [eval_put_ne _ _ _ _ (by decide)]; exact S.t5 (by simpa using g), fun g => by rw [eval_put_ne _ _ _ _ (by decide)]; exact S.t6 (by simpa using g), fun g => by rw [eval_put_ne _ _ _ _ (by decide)]; exact S.t7 (by simpa using g), fun g => by rw [eval_put_ne _ _ _ _ (by decide)]; exact S.t8 (by simpa using g), fun g => by rw [eval_put_ne _ _ _ _ (by decide)]; exact S.t9 (by simpa using g), fun g => by rw [eval_put_ne _ _ _ _ (by decide)]; exact S.t10 (by simpa using g), fun g => by rw [eval_put_ne _ _ _ _ (by decide)]; exact S.t11 (by simpa using g), fun g => by rw [eval_put_ne _ _ _ _ (by decide)]; exact S.t12 (by simpa using g)⟩
    | 2, _, ho, hsi, hT =>
      obtain ⟨e1, e2⟩ := pick_of h2 ho
      have BW := S.before
      refine step_val (v := .slice (some ⟨sb, 0, none⟩) L D) (by simp only [execOp, e1, y6]; go_simp) (hK _ _ ?_)
      rw [e2]
      exact ⟨S.off.put (by decide) _, S.before, fun g => by rw [eval_put_ne _ _ _ _ (by decide)]; exact S.t0 (by simpa using g), fun g => by rw [eval_put_ne _ _ _ _ (by decide)]; exact S.t1 (by simpa using g), fun _ => (eval_put _ _ _ (by omega)).trans rfl, fun g => by rw [eval_put_ne _ _ _ _ (by decide)]; exact S.t3 (by simpa using g), fun g => by rw [eval_put_ne _ _ _ _ (by decide)]; exact S.t4 (by simpa using g), fun g => by rw [eval_put_ne _ _ _ _ (by decide)]; exact S.t5 (by simpa using g), fun g => by rw [eval_put_ne _ _ _ _ (by decide)]; exact S.t6 (by simpa using g), fun g => by rw [eval_put_ne _ _ _ _ (by decide)]; exact S.t7 (by simpa using g), fun g => by rw [eval_put_ne _ _ _ _ (by decide)]; exact S.t8 (by simpa using g), fun g => by rw [eval_put_ne _ _ _ _ (by decide)]; exact S.t9 (by simpa using g), fun g => by rw [eval_put_ne _ _ _ _ (by decide)]; exact S.t10 (by simpa using g), fun g => by rw [eval_put_ne _ _ _ _ (by decide)]; exact S.t11 (by simpa using g), fun g => by rw [eval_put_ne _ _ _ _ (by decide)]; exact S.t12 (by simpa using g)⟩
    | 3, _, ho, hsi, hT =>
      obtain ⟨e1, e2⟩ := pick_of h3 ho
      have BW := S.before
      refine step_val (v := .int .i64 (k : Nat)) (by simp only [execOp, e1, y9]; go_simp) (hK _ _ ?_)
      rw [e2]
      exact ⟨S.off.put (by decide) _, S.before, fun g => by rw [eval_put_ne _ _ _ _ (by decide)]; exact S.t0 (by simpa using g), fun g => by rw [eval_put_ne _ _ _ _ (by decide)]; exact S.t1 (by simpa using g), fun g => by rw [eval_put_ne _ _ _ _ (by decide)]; exact S.t2 (by simpa using g), fun _ => (eval_put _ _ _ (by omega)).trans rfl, fun g => by rw [eval_put_ne _ _ _ _ (by decide)]; exact S.t4 (by simpa using g), fun g => by rw [eval_put_ne _ _ _ _ (by decide)]; exact S.t5 (by simpa using g), fun g => by rw [eval_put_ne _ _ _ _ (by decide)]; exact S.t6 (by simpa using g), fun g => by rw [eval_put_ne _ _ _ _ (by decide)]; exact S.t7 (by simpa using g), fun g => by rw [eval_put_ne _ _ _ _ (by decide)]; exact S.t8 (by simpa using g), fun g => by rw [eval_put_ne _ _ _ _ (by decide)]; exact S.t9 (by simpa using g), fun g => by rw [eval_put_ne _ _ _ _ (by decide)]; exact S.t10 (by simpa using g), fun g => by rw [eval_put_ne _ _ _ _ (by decide)]; exact S.t11 (by simpa using g), fun g => by rw [eval_put_ne _ _ _ _ (by decide)]; exact S.t12 (by simpa using g)⟩
    | 4, _, ho, hsi, hT =>
      obtain ⟨e1, e2⟩ := pick_of h4 ho
      have D2 : s 2 = true := list_pos hT (d := 2) (by decide)
      have D3 : s 3 = true := list_pos hT (d := 3) (by decide)
      have BW := S.before
      refine step_val (v := .pointer (some ⟨sb, k, none⟩)) (by simp only [execOp, e1, S.t2 D2, S.t3 D3]; go_simp) (hK _ _ ?_)
      rw [e2]
      exact ⟨S.off.put (by decide) _, S.before, fun g => by rw [eval_put_ne _ _ _ _ (by decide)]; exact S.t0 (by simpa using g), fun g => by rw [eval_put_ne _ _ _ _ (by decide)]; exact S.t1 (by simpa using g), fun g => by rw [eval_put_ne _ _ _ _ (by decide)]; exact S.t2 (by simpa using g), fun g => by rw [eval_put_ne _ _ _ _ (by decide)]; exact S.t3 (by simpa using g), fun _ => (eval_put _ _ _ (by omega)).trans rfl, fun g => by rw [eval_put_ne _ _ _ _ (by decide)]; exact S.t5 (by simpa using g), fun g => by rw [eval_put_ne _ _ _ _ (by decide)]; exact S.t6 (by simpa using g), fun g => by rw [eval_put_ne _ _ _ _ (by decide)]; exact S.t7 (by simpa using g), fun g => by rw [eval_put_ne _ _ _ _ (by decide)]; exact S.t8 (by simpa using g), fun g => by rw [eval_put_ne _ _ _ _ (by decide)]; exact S.t9 (by simpa using g), fun g => by rw [eval_put_ne _ _ _ _ (by decide)]; exact S.t10 (by simpa using g), fun g => by rw [eval_put_ne _ _ _ _ (by decide)]; exact S.t11 (by simpa using g), fun g => by rw [eval_put_ne _ _ _ _ (by decide)]; exact S.t12 (by simpa using g)⟩
    | 5, _, ho, hsi, hT =>
      obtain ⟨e1, e2⟩ := pick_of h5 ho
      have D4 : s 4 = true := list_pos hT (d := 4) (by decide)
      have BW := S.before
      have cl := (BW.cell (p := ⟨sb, k, none⟩) hsb).trans hc
      refine step_val (v := .int .u8 (V.toNat : Nat)) (by simp only [execOp, e1, S.t4 D4]; go_simp) (hK _ _ ?_)
      rw [e2]
      exact ⟨S.off.put (by decide) _, S.before, fun g => by rw [eval_put_ne _ _ _ _ (by decide)]; exact S.t0 (by simpa using g), fun g => by rw [eval_put_ne _ _ _ _ (by decide)]; exact S.t1 (by simpa using g), fun g => by rw [eval_put_ne _ _ _ _ (by decide)]; exact S.t2 (by simpa using g), fun g => by rw [eval_put_ne _ _ _ _ (by decide)]; exact S.t3 (by simpa using g), fun g => by rw [eval_put_ne _ _ _ _ (by decide)]; exact S.t4 (by simpa using g), fun _ => (eval_put _ _ _ (by omega)).trans rfl, fun g => by rw [eval_put_ne _ _ _ _ (by decide)]; exact S.t6 (by simpa using g), fun g => by rw [eval_put_ne _ _ _ _ (by decide)]; exact S.t7 (by simpa using g), fun g => by rw [eval_put_ne _ _ _ _ (by decide)]; exact S.t8 (by simpa using g), fun g => by rw [eval_put_ne _ _ _ _ (by decide)]; exact S.t9 (by simpa using g), fun g => by rw [eval_put_ne _ _ _ _ (by decide)]; exact S.t10 (by simpa using g), fun g => by rw [eval_put_ne _ _ _ _ (by decide)]; exact S.t11 (by simpa using g), fun g => by rw [eval_put_ne _ _ _ _ (by decide)]; exact S.t12 (by simpa using g)⟩
    | 6, _, ho, hsi, hT =>
      obtain ⟨e1, e2⟩ := pick_of h6 ho
      have BW := S.before
      refine step_val (v := .slice (some ⟨b, eo, none⟩) m cap) (by simp only [execOp, e1, y1]; go_simp) (hK _ _ ?_)
      rw [e2]
      exact ⟨S.off.put (by decide) _, S.before, fun g => by rw [eval_put_ne _ _ _ _ (by decide)]; exact S.t0 (by simpa using g), fun g => by rw [eval_put_ne _ _ _ _ (by decide)]; exact S.t1 (by simpa using g), fun g => by rw [eval_put_ne _ _ _ _ (by decide)]; exact S.t2 (by simpa using g), fun g => by rw [eval_put_ne _ _ _ _ (by decide)]; exact S.t3 (by simpa using g), fun g => by rw [eval_put_ne _ _ _ _ (by decide)]; exact S.t4 (by simpa using g), fun g => by rw [eval_put_ne _ _ _ _ (by decide)]; exact S.t5 (by simpa using g), fun _ => (eval_put _ _ _ (by omega)).trans rfl, fun g => by rw [eval_put_ne _ _ _ _ (by decide)]; exact S.t7 (by simpa using g), fun g => by rw [eval_put_ne _ _ _ _ (by decide)]; exact S.t8 (by simpa using g), fun g => by rw [eval_put_ne _ _ _ _ (by decide)]; exact S.t9 (by simpa using g), fun g => by rw [eval_put_ne _ _ _ _ (by decide)]; exact S.t10 (by simpa using g), fun g => by rw [eval_put_ne _ _ _ _ (by decide)]; exact S.t11 (by simpa using g), fun g => by rw [eval_put_ne _ _ _ _ (by decide)]; exact S.t12 (by simpa using g)⟩
    | 7, _, ho, hsi, hT =>
      obtain ⟨e1, e2⟩ := pick_of h7 ho
      have BW := S.before
      refine step_val (v := .int .i64 (i : Nat)) (by simp only [execOp, e1, y8]; go_simp) (hK _ _ ?_)
      rw [e2]
      exact ⟨S.off.put (by decide) _, S.before, fun g => by rw [eval_put_ne _ _ _ _ (by decide)]; exact S.t0 (by simpa using g), fun g => by rw [eval_put_ne _ _ _ _ (by decide)]; exact S.t1 (by simpa using g), fun g => by rw [eval_put_ne _ _ _ _ (by decide)]; exact S.t2 (by simpa using g), fun g => by rw [eval_put_ne _ _ _ _ (by decide)]; exact S.t3 (by simpa using g), fun g => by rw [eval_put_ne _ _ _ _ (by decide)]; exact S.t4 (by simpa using g), fun g => by rw [eval_put_ne _ _ _ _ (by decide)]; exact S.t5 (by simpa using g), fun g => by rw [eval_put_ne _ _ _ _ (by decide)]; exact S.t6 (by simpa using g), fun _ => (eval_put _ _ _ (by omega)).trans rfl, fun g => by rw [eval_put_ne _ _ _ _ (by decide)]; exact S.t8 (by simpa using g), fun g => by rw [eval_put_ne _ _ _ _ (by decide)]; exact S.t9 (by simpa using g), fun g => by rw [eval_put_ne _ _ _ _ (by decide)]; exact S.t10 (by simpa using g), fun g => by rw [eval_put_ne _ _ _ _ (by decide)]; exact S.t11 (by simpa using g), fun g => by rw [eval_put_ne _ _ _ _ (by decide)]; exact S.t12 (by simpa using g)⟩
    | 8, _, ho, hsi, hT =>
      obtain ⟨e1, e2⟩ := pick_of h8 ho
      have D6 : s 6 = true := list_pos hT (d := 6) (by decide)
      have D7 : s 7 = true := list_pos hT (d := 7) (by decide)
      have BW := S.before
      refine step_val (v := .pointer (some ⟨b, eo + i * 3, none⟩)) (by simp only [execOp, e1, S.t6 D6, S.t7 D7]; go_simp) (hK _ _ ?_)
      rw [e2]
      exact ⟨S.off.put (by decide) _, S.before, fun g => by rw [eval_put_ne _ _ _ _ (by decide)]; exact S.t0 (by simpa using g), fun g => by rw [eval_put_ne _ _ _ _ (by decide)]; exact S.t1 (by simpa using g), fun g => by rw [eval_put_ne _ _ _ _ (by decide)]; exact S.t2 (by simpa using g), fun g => by rw [eval_put_ne _ _ _ _ (by decide)]; exact S.t3 (by simpa using g), fun g => by rw [eval_put_ne _ _ _ _ (by decide)]; exact S.t4 (by simpa using g), fun g => by rw [eval_put_ne _ _ _ _ (by decide)]; exact S.t5 (by simpa using g), fun g => by rw [eval_put_ne _ _ _ _ (by decide)]; exact S.t6 (by simpa using g), fun g => by rw [eval_put_ne _ _ _ _ (by decide)]; exact S.t7 (by simpa using g), fun _ => (eval_put _ _ _ (by omega)).trans rfl, fun g => by rw [eval_put_ne _ _ _ _ (by decide)]; exact S.t9 (by simpa using g), fun g => by rw [eval_put_ne _ _ _ _ (by decide)]; exact S.t10 (by simpa using g), fun g => by rw [eval_put_ne _ _ _ _ (by decide)]; exact S.t11 (by simpa using g), fun g => by rw [eval_put_ne _ _ _ _ (by decide)]; exact S.t12 (by simpa using g)⟩
    | 9, _, ho, hsi, hT =>
      obtain ⟨e1, e2⟩ := pick_of h9 ho
      have D8 : s 8 = true := list_pos hT (d := 8) (by decide)
      have BW := S.before
      refine step_val (v := .pointer (some ⟨b, eo + i * 3 + 1, none⟩)) (by simp only [execOp, e1, S.t8 D8]; go_simp) (hK _ _ ?_)
      rw [e2]
      exact ⟨S.off.put (by decide) _, S.before, fun g => by rw [eval_put_ne _ _ _ _ (by decide)]; exact S.t0 (by simpa using g), fun g => by rw [eval_put_ne _ _ _ _ (by decide)]; exact S.t1 (by simpa using g), fun g => by rw [eval_put_ne _ _ _ _ (by decide)]; exact S.t2 (by simpa using g), fun g => by rw [eval_put_ne _ _ _ _ (by decide)]; exact S.t3 (by simpa using g), fun g => by rw [eval_put_ne _ _ _ _ (by decide)]; exact S.t4 (by simpa using g), fun g => by rw [eval_put_ne _ _ _ _ (by decide)]; exact S.t5 (by simpa using g), fun g => by rw [eval_put_ne _ _ _ _ (by decide)]; exact S.t6 (by simpa using g), fun g => by rw [eval_put_ne _ _ _ _ (by decide)]; exact S.t7 (by simpa using g), fun g => by rw [eval_put_ne _ _ _ _ (by decide)]; exact S.t8 (by simpa using g), fun _ => (eval_put _ _ _ (by omega)).trans rfl, fun g => by rw [eval_put_ne _ _ _ _ (by decide)]; exact S.t10 (by simpa using g), fun g => by rw [eval_put_ne _ _ _ _ (by decide)]; exact S.t11 (by simpa using g), fun g => by rw [eval_put_ne _ _ _ _ (by decide)]; exact S.t12 (by simpa using g)⟩
    | 10, _, ho, hsi, hT =>
      obtain ⟨e1, e2⟩ := pick_of h10 ho
      have D9 : s 9 = true := list_pos hT (d := 9) (by decide)
      have BW := S.before
      have cl := (BW.cell (p := ⟨b, eo + i * 3 + 1, none⟩) hb).trans he
      refine step_val (v := .int .u8 (X.toNat : Nat)) (by simp only [execOp, e1, S.t9 D9]; go_simp) (hK _ _ ?_)
      rw [e2]
      exact ⟨S.off.put (by decide) _, S.before, fun g => by rw [eval_put_ne _ _ _ _ (by decide)]; exact S.t0 (by simpa using g), fun g => by rw [eval_put_ne _ _ _ _ (by decide)]; exact S.t1 (by simpa using g), fun g => by rw [eval_put_ne _ _ _ _ (by decide)]; exact S.t2 (by simpa using g), fun g => by rw [eval_put_ne _ _ _ _ (by decide)]; exact S.t3 (by simpa using g), fun g => by rw [eval_put_ne _ _ _ _ (by decide)]; exact S.t4 (by simpa using g), fun g => by rw [eval_put_ne _ _ _ _ (by decide)]; exact S.t5 (by simpa using g), fun g => by rw [eval_put_ne _ _ _ _ (by decide)]; exact S.t6 (by simpa using g), fun g => by rw [eval_put_ne _ _ _ _ (by decide)]; exact S.t7 (by simpa using g), fun g => by rw [eval_put_ne _ _ _ _ (by decide)]; exact S.t8 (by simpa using g), fun g => by rw [eval_put_ne _ _ _ _ (by decide)]; exact S.t9 (by simpa using g), fun _ => (eval_put _ _ _ (by omega)).trans rfl, fun g => by rw [eval_put_ne _ _ _ _ (by decide)]; exact S.t11 (by simpa using g), fun g => by rw [eval_put_ne _ _ _ _ (by decide)]; exact S.t12 (by simpa using g)⟩
    | 11, _, ho, hsi, hT =>
      obtain ⟨e1, e2⟩ := pick_of h11 ho
      have D5 : s 5 = true := list_pos hT (d := 5) (by decide)
      have D10 : s 10 = true := list_pos hT (d := 10) (by decide)
      have BW := S.before
      have xr := xor8 V X
      refine step_val (v := .int .u8 ((V ^^^ X).toNat : Nat)) (by simp only [execOp, e1, S.t5 D5, S.t10 D10]; go_simp) (hK _ _ ?_)
      rw [e2]
      exact ⟨S.off.put (by decide) _, S.before, fun g => by rw [eval_put_ne _ _ _ _ (by decide)]; exact S.t0 (by simpa using g), fun g => by rw [eval_put_ne _ _ _ _ (by decide)]; exact S.t1 (by simpa using g), fun g => by rw [eval_put_ne _ _ _ _ (by decide)]; exact S.t2 (by simpa using g), fun g => by rw [eval_put_ne _ _ _ _ (by decide)]; exact S.t3 (by simpa using g), fun g => by rw [eval_put_ne _ _ _ _ (by decide)]; exact S.t4 (by simpa using g), fun g => by rw [eval_put_ne _ _ _ _ (by decide)]; exact S.t5 (by simpa using g), fun g => by rw [eval_put_ne _ _ _ _ (by decide)]; exact S.t6 (by simpa using g), fun g => by rw [eval_put_ne _ _ _ _ (by decide)]; exact S.t7 (by simpa using g), fun g => by rw [eval_put_ne _ _ _ _ (by decide)]; exact S.t8 (by simpa using g), fun g => by rw [eval_put_ne _ _ _ _ (by decide)]; exact S.t9 (by simpa using g), fun g => by rw [eval_put_ne _ _ _ _ (by decide)]; exact S.t10 (by simpa using g), fun _ => (eval_put _ _ _ (by omega)).trans rfl, fun g => by rw [eval_put_ne _ _ _ _ (by decide)]; exact S.t12 (by simpa using g)⟩
    | 12, _, ho, hsi, hT =>
      obtain ⟨e1, e2⟩ := pick_of h12 ho
      have D0 : s 0 = true := list_pos hT (d := 0) (by decide)
      have D1 : s 1 = true := list_pos hT (d := 1) (by decide)
      have BW := S.before
      refine step_val (v := .pointer (some ⟨sb, k, none⟩)) (by simp only [execOp, e1, S.t0 D0, S.t1 D1]; go_simp) (hK _ _ ?_)
      rw [e2]
      exact ⟨S.off.put (by decide) _, S.before, fun g => by rw [eval_put_ne _ _ _ _ (by decide)]; exact S.t0 (by simpa using g), fun g => by rw [eval_put_ne _ _ _ _ (by decide)]; exact S.t1 (by simpa using g), fun g => by rw [eval_put_ne _ _ _ _ (by decide)]; exact S.t2 (by simpa using g), fun g => by rw [eval_put_ne _ _ _ _ (by decide)]; exact S.t3 (by simpa using g), fun g => by rw [eval_put_ne _ _ _ _ (by decide)]; exact S.t4 (by simpa using g), fun g => by rw [eval_put_ne _ _ _ _ (by decide)]; exact S.t5 (by simpa using g), fun g => by rw [eval_put_ne _ _ _ _ (by decide)]; exact S.t6 (by simpa using g), fun g => by rw [eval_put_ne _ _ _ _ (by decide)]; exact S.t7 (by simpa using g), fun g => by rw [eval_put_ne _ _ _ _ (by decide)]; exact S.t8 (by simpa using g), fun g => by rw [eval_put_ne _ _ _ _ (by decide)]; exact S.t9 (by simpa using g), fun g => by rw [eval_put_ne _ _ _ _ (by decide)]; exact S.t10 (by simpa using g), fun g => by rw [eval_put_ne _ _ _ _ (by decide)]; exact S.t11 (by simpa using g), fun _ => (eval_put _ _ _ (by omega)).trans rfl⟩
    | _ + 13, il, _, _, _ => exact absurd il (by omega)
  · intro s a w' S hall
    have a0 := hall 0 (by omega)
    have a1 := hall 1 (by omega)
    have a2 := hall 2 (by omega)
    have a3 := hall 3 (by omega)
    have a4 := hall 4 (by omega)
    have a5 := hall 5 (by omega)
    have a6 := hall 6 (by omega)
    have a7 := hall 7 (by omega)
    have a8 := hall 8 (by omega)
    have a9 := hall 9 (by omega)
    have a10 := hall 10 (by omega)
    have a11 := hall 11 (by omega)
    have a12 := hall 12 (by omega)
    have e := off_norm _ (by intro d hd; simp at hd; omega) S.off
    simp only [List.foldl, S.t0 a0, S.t1 a1, S.t2 a2, S.t3 a3, S.t4 a4, S.t5 a5, S.t6 a6, S.t7 a7, S.t8 a8, S.t9 a9, S.t10 a10, S.t11 a11, S.t12 a12] at e
    rw [e]
    exact h _ S.before
set_option maxRecDepth 100000 in
set_option maxHeartbeats 2000000 in
theorem spoil_any (s : ByteArray) (L m : Nat) (hs : s.size = L) (L1 : 1 ≤ L) (L2 : L ≤ 2000) (a : Option Addr) (cap : Nat) (m2 : m ≤ 60) (At : Nat → Int) (Ch : Nat → BitVec 8) (Er : Nat → Bool) (hA : ∀ j, j < m → (Lit.int .i64 (At j)).wf = true) (w : World) (R : Errs w a m At Ch Er) :
    Calls Tryd.prog 8 #[.string s, .slice a m cap] w (SpP L m w) := by
  have HA := Lib.hid hA
  have c1 := run_bytes_of_string (P := Tryd.prog) w 9 33 5 s Tryd.underlying9 Tryd.underlying33 Tryd.underlying5
  have dg := grownCap_ge w s.size 0 5
  obtain ⟨D, hcap⟩ : ∃ D, grownCap w s.size 0 5 = D := ⟨_, rfl⟩
  rw [hcap, hs] at c1
  rw [hcap, hs] at dg
  have n1 := nums_new s D 5 w.drew
  rw [hs, show w.drew.heap.size = w.heap.size from rfl] at n1
  have b1 := ba (Below.refl w.heap.size w).drew (.cells (bytesRow s D) 5 ((bytesRow s D).size, (bytesRow s D).size + 1))
  have lz : (w.drew.alloc (.cells (bytesRow s D) 5 ((bytesRow s D).size, (bytesRow s D).size + 1))).heap.size = w.heap.size + 1 := by rw [World.size_alloc]; rfl
  obtain ⟨w1, hw1⟩ : ∃ w1, w.drew.alloc (.cells (bytesRow s D) 5 ((bytesRow s D).size, (bytesRow s D).size + 1)) = w1 := ⟨_, rfl⟩
  rw [hw1] at c1 n1 b1 lz
  have C1 := Lib.hid c1
  have N1 := Lib.hid n1
  have B1 := Lib.hid b1
  have HR := Lib.hid R
  obtain ⟨sb, hsb⟩ : ∃ d, w.heap.size = d := ⟨_, rfl⟩
  rw [hsb] at N1 C1 lz
  have LZ := Lib.hid lz
  have HSB := Lib.hid hsb
  clear hw1 hcap hA c1 n1 b1 R lz hsb
  go_enter Tryd.func8, Tryd.ntmps8
  go_wp2_with (simp only [C1.out])
  go_loopw [7, 8] (fun o i wr => ∃ (k : Nat) (f : Nat → BitVec 8) (zs : List Int), k ≤ m ∧ i = .int .i64 (k : Nat) ∧ zs.length ≤ k ∧ Within zs L ∧ wr.ownsRow (sb + 1) 3 1 o zs.length (ivl zs) ∧ NumsK .u8 wr sb L (fun p => (f p).toNat) ∧ Below w.heap.size w wr ∧ sb + 1 ≤ wr.heap.size) (fun _ i _ => m - (intOf i).toNat)
  case atStart => exact ⟨0, _, [], Nat.zero_le _, rfl, Nat.le_refl _, (fun p hp => by simp at hp), World.ownsRow_nil _ _ _ _, N1.out, B1.out, by rw [LZ.out]; exact Nat.le_refl _⟩
  case round =>
    obtain ⟨i, f, zs, hi, rfl, hzl, hzw, hown, hN, hB, hsz⟩ := hrel
    have HO := Lib.hid hown
    have HN := Lib.hid hN
    have HB := Lib.hid hB
    have HZ := Lib.hid hsz
    have HW := Lib.hid hzw
    clear hown hN hB hsz hzw
    by_cases hlt : i < m
    · obtain ⟨b, eo, rfl, hbl0, hcell0⟩ := HR.out.resolve_left (by omega)
      have hcell : ∀ j, j < m → wr.cell? ⟨b, eo + j * 3, none⟩ = some (.int .i64 (At j)) ∧ wr.cell? ⟨b, eo + j * 3 + 1, none⟩ = some (.int .u8 ((Ch j).toNat : Nat)) ∧ wr.cell? ⟨b, eo + j * 3 + 2, none⟩ = some (.bool (Er j)) := fun j hj => ⟨(HB.out.cell (p := ⟨b, _, none⟩) hbl0).trans (hcell0 j hj).1, (HB.out.cell (p := ⟨b, _, none⟩) hbl0).trans (hcell0 j hj).2.1, (HB.out.cell (p := ⟨b, _, none⟩) hbl0).trans (hcell0 j hj).2.2⟩
      have BL := Lib.hid (Nat.lt_of_lt_of_le hbl0 HB.out.size)
      have BS := Lib.hid (show b ≠ sb by have := HSB.out; omega)
      obtain ⟨c0, c1, c2⟩ := hcell i hlt
      have EC1 := Lib.hid c1
      have EC2 := Lib.hid c2
      have PK := Lib.hid (fun w => pick_any (At i) (HA.out i hlt) L (by omega) (by omega) w)
      have kL : ((At i) % (L : Int)).toNat < L := by
        have := Int.emod_nonneg (At i) (show (L : Int) ≠ 0 by omega)
        have := Int.emod_lt_of_pos (At i) (show 0 < (L : Int) by omega)
        omega
      obtain ⟨k, hk⟩ : ∃ k, ((At i) % (L : Int)).toNat = k := ⟨_, rfl⟩
      rw [hk] at PK kL
      obtain ⟨x, hx⟩ : ∃ x, At i = x := ⟨_, rfl⟩
      rw [hx] at c0 PK
      clear hk hcell hcell0 hbl0 c1 c2 hx
      go_wp2_with fail
      (with_reducible refine (PK.out _).mono ?_)
      rintro e w4 ⟨rfl, rfl⟩
      clear PK c0
      have cp := HN.out.cell kL
      have SBW := Lib.hid HN.out.1
      obtain ⟨V, hV⟩ : ∃ V, f k = V := ⟨_, rfl⟩
      obtain ⟨X, hX⟩ : ∃ X, Ch i = X := ⟨_, rfl⟩
      rw [hV] at cp
      rw [hX] at EC1
      have CP := Lib.hid cp
      have CPX := Lib.hid (fun w' (hb : Below wr.heap.size wr w') => And.intro ((hb.cell (p := ⟨sb, k, none⟩) HN.out.1).trans cp) ((hb.frozen (p := ⟨sb, k, none⟩) HN.out.1).trans (HN.out.frozen kL)))
      have NX := Lib.hid (fun w' (hb : Below wr.heap.size wr w') => (HN.out.below hb).set (g := fun p => ((fun p => if p = k then V ^^^ X else f p) p).toNat) k (V ^^^ X).toNat kL (by show (if k = k then _ else _ : BitVec 8).toNat = _; rw [if_pos rfl]) (fun p _ hp => by show (if p = k then _ else _ : BitVec 8).toNat = _; rw [if_neg hp]))
      clear cp hV hX
      go_upto_region 13 with fail
      refine spoilRegion sb L D i k b eo m cap V X SBW.out CP.out kL (by omega) BL.out EC1.out hlt m2 (by kernel_rfl) rfl rfl rfl rfl rfl rfl rfl rfl rfl rfl rfl rfl rfl rfl rfl rfl rfl rfl ?_
      intro w5 k5
      simp only [Act.put, List.setIfInBounds_toArray, List.set_cons_succ, List.set_cons_zero, List.drop_succ_cons, List.drop_zero]
      obtain ⟨c5, f5⟩ := CPX.out w5 k5
      have N9 := Lib.hid (NX.out w5 k5)
      have e2 := ((World.cell?_setCell_other w5 ⟨sb, k, none⟩ ⟨b, eo + i * 3 + 2, none⟩ (.int .u8 ((V ^^^ X).toNat : Nat)) (fun e => BS.out (congrArg Addr.block e).symm)).trans (k5.cell (p := ⟨b, eo + i * 3 + 2, none⟩) BL.out)).trans EC2.out
      have H5 := Lib.hid (own_set (own_below HO.out k5) (c := sb) (i := k) (u := (.int .u8 ((V ^^^ X).toNat : Nat))) (Nat.lt_succ_self sb))
      have HB5 := Lib.hid (below_set (bt HB.out k5) (p := ⟨sb, k, none⟩) (by rw [← HSB.out]; exact Nat.le_refl _) (.int .u8 ((V ^^^ X).toNat : Nat)))
      have S5 := Lib.hid (show sb + 1 ≤ (w5.setCell ⟨sb, k, none⟩ (.int .u8 ((V ^^^ X).toNat : Nat))).heap.size by rw [World.size_setCell]; exact Nat.le_trans HZ.out k5.size)
      obtain ⟨i0, hi0, hz0, hz1, hz2⟩ := info_parts info_i64
      obtain ⟨er, her⟩ : ∃ e, Er i = e := ⟨_, rfl⟩
      rw [her] at e2
      obtain ⟨y, hy⟩ : ∃ y, (V ^^^ X).toNat = y := ⟨_, rfl⟩
      rw [hy] at e2 H5 HB5 S5 N9 ⊢
      clear hy k5 CPX NX EC1 EC2 her CP BS SBW HO HB HZ
      cases er with
      | true =>
        have CN := Lib.hid (show ∀ j u, [Value.int .i64 (k : Nat)][j]? = some u → ((w5.setCell ⟨sb, k, none⟩ (.int .u8 (y : Nat))).alloc (.cells #[.int .i64 (k : Nat)] 3)).cell? ((⟨w5.heap.size, 0, none⟩ : Addr).add j) = some u by have := cell_one (w := w5.setCell ⟨sb, k, none⟩ (.int .u8 (y : Nat))) (v := .int .i64 (k : Nat)) (t := 3); rwa [World.size_setCell] at this)
        have S6 := Lib.hid (show sb + 1 ≤ ((w5.setCell ⟨sb, k, none⟩ (.int .u8 (y : Nat))).alloc (.cells #[.int .i64 (k : Nat)] 3)).heap.size by rw [World.size_alloc]; have := S5.out; omega)
        have HB6 := Lib.hid (HB5.out.alloc HB5.out.size (.cells #[.int .i64 (k : Nat)] 3))
        have N10 := Lib.hid (N9.out.alloc (.cells #[.int .i64 (k : Nat)] 3))
        have H6 := Lib.hid (H5.out.alloc (.cells #[.int .i64 (k : Nat)] 3))
        clear N9 HB5 S5
        go_wp2_with (at_builtin; refine wpList_append_own _ rfl _ _ 27 rfl (sb + 1) 3 i0 (.int .i64 0) 1 8 Tryd.underlying27 hi0 hz0 hz1 hz2 rfl (by decide) _ _ _ rfl H6.out ⟨w5.heap.size, 0, none⟩ 1 1 [.int .i64 (k : Nat)] rfl rfl CN.out (by simp [Value.oneCell']) (by unfold maxLen; omega) (by omega) S6.out ?_; intro v' w7 hown2 hgrow _; obtain ⟨g', cap', rfl⟩ := ownsRow_succ hown2; have HO7 := Lib.hid hown2; have HB7 := Lib.hid (HB6.out.grown hgrow HB6.out.size (fun g e => by have := own_block_ge H5.out e; have := HSB.out; omega)); have N11 := Lib.hid (N10.out.of_block (hgrow.block sb N10.out.1 (fun e => by have := own_block_ge H5.out e.symm; omega))); have S7 := Lib.hid (Nat.le_trans S6.out hgrow.size); clear hown2 hgrow)
        go_roundw
        case rel => exact ⟨i + 1, _, zs ++ [(k : Int)], by omega, by go_num, by rw [List.length_append]; simp; omega, within_add HW.out kL, by rw [List.length_append, ivl_add]; exact HO7.out, N11.out, HB7.out, S7.out⟩
        case measure => simp [intOf]; omega
      | false =>
        go_wp2_with fail
        go_roundw
        case rel => exact ⟨i + 1, _, zs, by omega, by go_num, by omega, HW.out, H5.out, N9.out, HB5.out, S5.out⟩
        case measure => simp [intOf]; omega
    · obtain rfl : i = m := by omega
      have CV := Lib.hid (nums_back D HN.out)
      obtain ⟨s2, hs2⟩ : ∃ s2 : ByteArray, (⟨(Gal.coefs f L).toArray⟩ : ByteArray) = s2 := ⟨_, rfl⟩
      have z2 : s2.size = L := by rw [← hs2, sz, Gal.coefs_length]
      obtain ⟨az, cz, rfl, hiz⟩ := ints_own HO.out rfl
      have FIN := Lib.hid (show SpP L i w (.returned (.tuple #[.string s2, .slice az zs.length cz])) wr from ⟨s2, zs, az, cz, rfl, z2, hzl, HW.out, hiz, HB.out⟩)
      rw [hs2] at CV
      clear hs2 HO HN HB HZ HW hiz
      go_wp2_with (simp only [CV.out])
      go_ret2
      exact FIN.out
end Go.Proofs.YtlpjhmafplljaaaDoor
/- An argument that is a list of errors: opened, and shut again in a world in which nothing old has changed. -/
namespace Go.Proofs.YtlpjhmafplljaaaDoor
open Go.ChangeShapes Go.WideShapes Go.ChangeAt Go.RowKit Go.Deep
set_option linter.unusedVariables false

theorem cells_err : Tryd.prog.cellsOf 44 = 3 := by kernel_rfl
theorem under_err : ∃ f0 f1 f2 : Field, Tryd.prog.underlying 44 = some (.struct #[f0, f1, f2]) ∧ oneCellFields Tryd.prog #[f0, f1, f2] = true ∧ f0.type = 3 ∧ f1.type = 5 ∧ f2.type = 4 :=
  ⟨_, _, _, Tryd.underlying44, by kernel_rfl, rfl, rfl, rfl⟩
theorem cells_below {w W' : World} (hB : Below w.heap.size w W') {a : Addr} (h : a.block < w.heap.size) (base n : Nat) : W'.cells? base a n = w.cells? base a n := by
  unfold World.cells?
  have : (fun i => W'.cell? (a.add i)) = fun i => w.cell? (a.add i) := funext fun i => hB.cell (by rw [ChangeShapes.block_add]; exact h)
  rw [this]
theorem addr_eta (a : Addr) (h : a.spot = none) : a = ⟨a.block, a.off, none⟩ := by
  cases a
  cases h
  rfl
theorem u8_bits {c : Int} (h : (Lit.int .u8 c).wf = true) : c = ((BitVec.ofInt 8 c).toNat : Int) := by
  have h2 : 0 ≤ c ∧ c ≤ 255 := by simpa [Lit.wf, IntKind.min, IntKind.max, IntKind.signed, IntKind.bits] using h
  rw [BitVec.toNat_ofInt]
  omega
section
variable {H : Type} {enc : TypeId × Value → H}
/-- One error as a datum. -/
def errD (H : Type) (x : Int) (c : BitVec 8) (b : Bool) : DataW H := .agg [.lit (.int .i64 x), .lit (.int .u8 (c.toNat : Nat)), .lit (.bool b)]
theorem err_mk (w : World) (base : Nat) (sp : Nat → Bool) (held : Bool) (n : Nat) {x : Int} {c : BitVec 8} {b : Bool} (hx : (Lit.int .i64 x).wf = true) :
    DataW.trod enc Tryd.prog w base sp held (n + 2) 44 [.int .i64 x, .int .u8 (c.toNat : Nat), .bool b] = some (errD H x c b, []) := by
  obtain ⟨f0, f1, f2, uS, uO, e0, e1, e2⟩ := under_err
  obtain ⟨o0, k0⟩ := hone_of uO 0 f0 rfl
  obtain ⟨o1, k1⟩ := hone_of uO 1 f1 rfl
  obtain ⟨o2, k2⟩ := hone_of uO 2 f2 rfl
  have hc : (Lit.int .u8 (c.toNat : Int)).wf = true := by
    have := c.isLt
    simp [Lit.wf, IntKind.min, IntKind.max, IntKind.signed, IntKind.bits]
    omega
  have := trod_struct3_mk (enc := enc) (w := w) (base := base) (spare := sp) (held := held) (n := n + 1) (cs := [.int .i64 x, .int .u8 (c.toNat : Nat), .bool b]) (y0 := (.lit (.int .i64 x), [])) (y1 := (.lit (.int .u8 (c.toNat : Nat)), [])) (y2 := (.lit (.bool b), [])) uS (by rw [cells_err]; rfl)
    (by rw [o0, k0, e0]; exact trod_int_mk n Tryd.underlying3 hx) (by rw [o1, k1, e1]; exact trod_int_mk n Tryd.underlying5 hc) (by rw [o2, k2, e2]; simp [DataW.trod, Tryd.underlying4])
  exact this
set_option maxRecDepth 100000 in
theorem err_cells {w : World} {base : Nat} {sp : Nat → Bool} {held : Bool} {fuel : Nat} {cs : List Value} {y : DataW H × List MemPlace} (h : DataW.trod enc Tryd.prog w base sp held fuel 44 cs = some y) :
    ∃ (x : Int) (c : BitVec 8) (b : Bool), cs = [.int .i64 x, .int .u8 (c.toNat : Nat), .bool b] ∧ y = (errD H x c b, []) ∧ (Lit.int .i64 x).wf = true := by
  obtain ⟨f0, f1, f2, uS, uO, e0, e1, e2⟩ := under_err
  obtain ⟨o0, k0⟩ := hone_of uO 0 f0 rfl
  obtain ⟨o1, k1⟩ := hone_of uO 1 f1 rfl
  obtain ⟨o2, k2⟩ := hone_of uO 2 f2 rfl
  obtain ⟨y0, y1, y2, n, rfl, hl, h0, h1, h2⟩ := trod_struct3 uS h
  rw [cells_err] at hl
  match cs, hl with
  | [v0, v1, v2], _ =>
    rw [o0, k0, e0] at h0
    rw [o1, k1, e1] at h1
    rw [o2, k2, e2] at h2
    obtain ⟨x, c0, rfl, g0⟩ := DataW.trod_int Tryd.underlying3 h0
    obtain ⟨c, c1, rfl, g1⟩ := DataW.trod_int Tryd.underlying5 h1
    obtain ⟨b, c2, rfl⟩ := DataW.trod_bool Tryd.underlying4 h2
    simp only [List.drop_zero, List.drop_succ_cons, List.take_succ_cons, List.take_zero, List.cons.injEq, and_true] at c0 c1 c2
    subst c0 c1 c2
    have hb := u8_bits g1
    refine ⟨x, BitVec.ofInt 8 c, b, ?_, ?_, g0⟩
    · rw [← hb]
    · unfold errD
      rw [← hb]
      rfl
set_option maxRecDepth 100000 in
theorem err_arg {w : World} {v : Value} {d : DataW H} {p : List MemPlace} (hv : v.cells.toList = [v]) (hd : DataW.Trod enc Tryd.prog w 0 (fun _ => true) true 22 v d p) :
    ∃ (m : Nat) (A : Option Addr) (cap : Nat) (At : Nat → Int) (Ch : Nat → BitVec 8) (Er : Nat → Bool), v = .slice A m cap ∧ m ≤ maxLen ∧ Errs w A m At Ch Er ∧ (∀ j, j < m → (Lit.int .i64 (At j)).wf = true) ∧
      ∀ W', Below w.heap.size w W' → ∀ sp : Nat → Bool, (∀ q ∈ p, sp q.block = true) → DataW.Trod enc Tryd.prog W' 0 sp true 22 v d p := by
  obtain ⟨fuel, hf⟩ := hd
  rw [hv] at hf
  rcases open_slice Tryd.underlying22 hf with ⟨h1, h2⟩ | ⟨a, len, cap, m, n, D, Pl, h1, hb, hl, hm, hmm, hx, hel⟩
  · simp only [List.cons.injEq, and_true] at h1
    subst h1
    simp only [Prod.mk.injEq] at h2
    obtain ⟨rfl, rfl⟩ := h2
    refine ⟨0, none, 0, fun _ => 0, fun _ => 0#8, fun _ => false, rfl, by unfold maxLen; omega, .inl rfl, fun j hj => absurd hj (Nat.not_lt_zero _), fun W' _ sp _ => ⟨1, ?_⟩⟩
    simp [DataW.trod, Value.cells, Tryd.underlying22]
  · simp only [List.cons.injEq, and_true] at h1
    subst h1
    simp only [Prod.mk.injEq] at hx
    obtain ⟨rfl, rfl⟩ := hx
    obtain rfl : m = cap := by simpa using hmm
    rw [cells_err] at hel
    obtain ⟨q, hq⟩ := choose_lt (α := Int × BitVec 8 × Bool) (p := fun i q => w.cells? 0 (a.add (i * 3)) 3 = some [.int .i64 q.1, .int .u8 (q.2.1.toNat : Nat), .bool q.2.2] ∧ D i = errD H q.1 q.2.1 q.2.2 ∧ Pl i = [] ∧ (Lit.int .i64 q.1).wf = true) (fun i hi => by
      obtain ⟨cs', g1, g2⟩ := hel i hi
      obtain ⟨x, c, b, rfl, e, hw⟩ := err_cells g2
      simp only [Prod.mk.injEq] at e
      exact ⟨(x, c, b), g1, e.1, e.2, hw⟩)
    have hpl : ∀ i j, i < m → j < 3 → a.block < w.heap.size ∧ a.spot = none ∧ ∀ u, [Value.int .i64 (q i).1, .int .u8 ((q i).2.1.toNat : Nat), .bool (q i).2.2][j]? = some u → w.cell? ⟨a.block, a.off + i * 3 + j, none⟩ = some u := fun i j hi hj => by
      obtain ⟨_, _, hat⟩ := World.cells?_some (hq i hi).1
      have h0 := hat 0 (by omega)
      rw [Go.Deep.add_add] at h0
      replace h0 : w.cell? (a.add (i * 3 + 0)) = some (.int .i64 (q i).1) := h0
      have h5 := World.block_lt_of_cell? w _ h0
      rw [ChangeShapes.block_add] at h5
      have h7 : a.spot = none := by
        obtain ⟨_, _, hz⟩ := World.cells?_some (hq 0 (by omega)).1
        have hz0 := hz 0 (by omega)
        rw [Go.Deep.add_add] at hz0
        replace hz0 : w.cell? (a.add 0) = some (.int .i64 (q 0).1) := hz0
        exact World.cell?_spot (a := a) hz0
      refine ⟨h5, h7, fun u hu => ?_⟩
      have hj' := hat j hj
      rw [Go.Deep.add_add] at hj'
      rw [hu] at hj'
      rw [← hj']
      have e := addr_eta a h7
      rw [show a.add (i * 3 + j) = (⟨a.block, a.off, none⟩ : Addr).add (i * 3 + j) by rw [← e], add_pl, Nat.add_assoc]
    refine ⟨len, some a, m, fun i => (q i).1, fun i => (q i).2.1, fun i => (q i).2.2, rfl, by omega, ?_, fun j hj => (hq j (by omega)).2.2.2, fun W' hB sp hsp => ?_⟩
    · rcases Nat.eq_zero_or_pos len with h0 | h0
      · exact .inl h0
      · obtain ⟨h5, h7, _⟩ := hpl 0 0 (by omega) (by omega)
        refine .inr ⟨a.block, a.off, congrArg some (addr_eta a h7), h5, fun j hj => ⟨?_, ?_, ?_⟩⟩
        · exact (hpl j 0 (by omega) (by omega)).2.2 _ rfl
        · exact (hpl j 1 (by omega) (by omega)).2.2 _ rfl
        · exact (hpl j 2 (by omega) (by omega)).2.2 _ rfl
    · have each : ∀ i, i < m → ∃ cs n, W'.cells? 0 (a.add (i * Tryd.prog.cellsOf 44)) (Tryd.prog.cellsOf 44) = some cs ∧ DataW.trod enc Tryd.prog W' 0 sp true n 44 cs = some (D i, Pl i) := fun i hi => by
        obtain ⟨g1, g2, g3, g4⟩ := hq i hi
        rw [cells_err, cells_below hB (by rw [ChangeShapes.block_add]; exact (hpl i 0 hi (by omega)).1), g2, g3]
        exact ⟨_, 2, g1, err_mk W' 0 sp true 0 g4⟩
      rcases Nat.eq_zero_or_pos m with h0 | h0
      · by_cases hs : sp a.block = true
        · exact shut_slice_whole Tryd.underlying22 hb hl hm hs D Pl each
        · have := shut_slice (enc := enc) (P := Tryd.prog) (w := W') (held := true) Tryd.underlying22 hb hl hm (by simpa using hs) D Pl (fun i hi => each i (by omega))
          obtain rfl : len = 0 := by omega
          subst h0
          exact this
      · have hin : MemPlace.cell a.block a.off ∈ MemPlace.row a (m * Tryd.prog.cellsOf 44) := by
          unfold MemPlace.row
          exact List.mem_map.2 ⟨0, by rw [cells_err]; simp; omega, by simp⟩
        have hs : sp a.block = true := hsp _ (List.mem_append_left _ hin)
        exact shut_slice_whole Tryd.underlying22 hb hl hm hs D Pl each
end
end Go.Proofs.YtlpjhmafplljaaaDoor
/- BlockCorrects: of all strings of 1 to 223 bytes and all lists of at most 20 errors: if the erased places and twice the other wrong ones are at most 8, Decode gives the data and the number of wrong places. No condition. -/
namespace Go.Proofs.YtlpjhmafplljaaaDoor
open Go.ChangeShapes Go.WideShapes Go.ChangeAt Go.RowKit
set_option linter.unusedVariables false

namespace blockCorrects
theorem enc_size (d : ByteArray) : (⟨(Blk.enc d.data.toList).toArray⟩ : ByteArray).size = d.size + 8 := by rw [sz, Blk.enc_length, ls]
/-- A place is erased. -/
def isE (zs : List Int) (i : Nat) : Bool := decide ((i : Int) ∈ zs)
/-- A place is wrong. -/
def isW (b c : List UInt8) (i : Nat) : Bool := decide (Gal.co b i ≠ Gal.co c i)
def isB (b c : List UInt8) (zs : List Int) (i : Nat) : Bool := isW b c i && !isE zs i
theorem near_of (b c : List UInt8) (zs : List Int) (er : Nat → Bool) (L : Nat) (hb : b.length = L) (hc : c.length = L) (C : Blk.Code c) (her : ∀ j, j < L → (er j = true ↔ (j : Int) ∈ zs))
    (h : Blk.cnt (isE zs) L + 2 * Blk.cnt (isB b c zs) L ≤ 8) : Blk.Near b (Blk.ers er L) c := by
  have e : ∀ i, i < L → er i = isE zs i := fun i hi => by
    unfold isE
    rw [Bool.eq_iff_iff, her i hi, decide_eq_true_iff]
  refine ⟨C, by rw [hb, hc], ?_⟩
  have h1 : (Blk.ers er L).length = Blk.cnt (isE zs) L := cnt_congr e
  have h2 : Blk.besides b c (Blk.ers er L) = Blk.cnt (isB b c zs) L := by
    unfold Blk.besides
    rw [hb]
    refine cnt_congr (fun i hi => ?_)
    rw [Blk.ers_contains er hi, e i hi]
    rfl
  omega
theorem fixed (a : ByteArray) (n L : Nat) (s : ByteArray) (zs : List Int) (er : Nat → Bool) (ha : a.size = n) (h1 : 1 ≤ n) (h2 : n ≤ 223) (hL : n + 8 = L) (hs : s.size = L) (her : ∀ j, j < L → (er j = true ↔ (j : Int) ∈ zs))
    (h : Blk.cnt (isE zs) L + 2 * Blk.cnt (isB s.data.toList (Blk.enc a.data.toList) zs) L ≤ 8) {o : List UInt8} {k x : Int} (D : Blk.Dec s.data.toList (Blk.ers er L) o k x) :
    (⟨o.toArray⟩ : ByteArray) = a ∧ k = (Blk.cnt (isW s.data.toList (Blk.enc a.data.toList)) L : Nat) ∧ x = 0 := by
  have hl : (Blk.enc a.data.toList).length = L := by rw [Blk.enc_length, ls, ha, hL]
  have sl : s.data.toList.length = L := by rw [ls, hs]
  have N := near_of s.data.toList (Blk.enc a.data.toList) zs er L sl hl (Blk.code_enc _ (by rw [ls, ha]; exact h1) (by rw [ls, ha]; exact h2)) her h
  obtain ⟨rfl, rfl, rfl⟩ := Blk.dec_unique D (.inl ⟨_, N, rfl, rfl, rfl⟩)
  refine ⟨?_, ?_, rfl⟩
  · rw [sl, show L - 8 = a.data.toList.length by rw [ls, ha]; omega, Blk.enc_take]
  · rw [show (Blk.dif s.data.toList (Blk.enc a.data.toList)).length = Blk.cnt (isW s.data.toList (Blk.enc a.data.toList)) s.data.toList.length from rfl, sl]
theorem dif_dec (u v : BitVec 8) : (!decide ((u.toNat : Int) = (v.toNat : Int))) = decide (u ≠ v) := by
  by_cases h : u = v
  · subst h; simp
  · have : ¬ (u.toNat : Int) = (v.toNat : Int) := fun e => h (BitVec.eq_of_toNat_eq (by omega))
    simp [h, this]
theorem take_mem (zs : List Int) (k i : Nat) (hk : k < zs.length) : decide ((i : Int) ∈ zs.take (k + 1)) = (decide ((i : Int) ∈ zs.take k) || decide (zs.getD k 0 = (i : Int))) := by
  rw [List.take_add_one, List.getElem?_eq_getElem hk, getD_at zs hk]
  by_cases h : (i : Int) ∈ zs.take k
  · rw [decide_eq_true (List.mem_append.2 (.inl h)), decide_eq_true h, Bool.true_or]
  · simp only [Option.toList_some, List.mem_append, h, List.mem_singleton, false_or, decide_false, Bool.false_or]
    exact decide_eq_decide.2 ⟨fun e => e.symm, fun e => e.symm⟩
structure CorRegion (i : Nat) (x y : ByteArray) (b : Bool) (A : Act) (w0 : World) (s : Nat → Bool) (a : Act) (w : World) : Prop where
  off : Off [75, 76, 77, 78, 79, 80, 81] a A
  before : Below w0.heap.size w0 w
  t0 : s 0 = true → a.eval (.tmp 75) = .string x
  t1 : s 1 = true → a.eval (.tmp 76) = .int .i64 (i : Nat)
  t2 : s 2 = true → a.eval (.tmp 77) = .int .u8 ((Gal.co x.data.toList i).toNat : Nat)
  t3 : s 3 = true → a.eval (.tmp 78) = .string y
  t4 : s 4 = true → a.eval (.tmp 79) = .int .i64 (i : Nat)
  t5 : s 5 = true → a.eval (.tmp 80) = .int .u8 ((Gal.co y.data.toList i).toNat : Nat)
  t6 : s 6 = true → a.eval (.tmp 81) = .bool b
set_option maxHeartbeats 2000000 in
set_option maxRecDepth 100000 in
theorem corRegion {id : Nat} {d : Bool} {l : List Oper} {A : Act} {w : World} {Q : Exit → Act → World → Prop} (i : Nat) (x y : ByteArray) (b : Bool)
    (hx : i < x.size) (hy : i < y.size) (hd : decide (Gal.co x.data.toList i ≠ Gal.co y.data.toList i) = b)
    (hB : tableL d l.toArray (fun i => match i with | 0 => [] | 1 => [] | 2 => [0, 1] | 3 => [] | 4 => [] | 5 => [3, 4] | 6 => [2, 5] | _ => []) (fun i => match i with | 0 => [] | 1 => [] | 2 => [] | 3 => [] | 4 => [] | 5 => [] | 6 => [] | _ => []) = true) (hl : l.length = 7)
    (h0 : pick l 0 = some (.move (.tmp 7), some 75))
    (h1 : pick l 1 = some (.move (.tmp 12), some 76))
    (h2 : pick l 2 = some (.index 9 (.tmp 75) (.tmp 76), some 77))
    (h3 : pick l 3 = some (.move (.tmp 5), some 78))
    (h4 : pick l 4 = some (.move (.tmp 12), some 79))
    (h5 : pick l 5 = some (.index 9 (.tmp 78) (.tmp 79), some 80))
    (h6 : pick l 6 = some (.binOp .neq 5 (.tmp 77) (.tmp 80) 5, some 81))
    (hs : A.tmps.size = 116)
    (x7 : A.eval (.tmp 7) = .string x)
    (x12 : A.eval (.tmp 12) = .int .i64 (i : Nat))
    (x5 : A.eval (.tmp 5) = .string y)
    (h : ∀ w1, Below w.heap.size w w1 → Q .normal (((((((A.put (some 75) (.string x)).put (some 76) (.int .i64 (i : Nat))).put (some 77) (.int .u8 ((Gal.co x.data.toList i).toNat : Nat))).put (some 78) (.string y)).put (some 79) (.int .i64 (i : Nat))).put (some 80) (.int .u8 ((Gal.co y.data.toList i).toNat : Nat))).put (some 81) (.bool b)) w1) :
    (Code.region id l.toArray d).wp Tryd.prog Q A w := by
  refine wp_region_invL (by kernel_rfl) _ _ hB (CorRegion i x y b A w) ⟨Off.refl _ _, Below.refl _ _, by simp, by simp, by simp, by simp, by simp, by simp, by simp⟩ ⟨Off.refl _ _, (Below.refl _ _).drew, by simp, by simp, by simp, by simp, by simp, by simp, by simp⟩ ?_ ?_
  · intro s a w' S i' o ho hsi hT K hK
    have sz : a.tmps.size = 116 := by rw [S.off.2.1]; exact hs
    have il : i' < 7 := by have := (List.getElem?_eq_some_iff.1 ho).1; omega
    have y7 : a.eval (.tmp 7) = .string x := by rw [S.off.eval (by decide)]; exact x7
    have y12 : a.eval (.tmp 12) = .int .i64 (i : Nat) := by rw [S.off.eval (by decide)]; exact x12
    have y5 : a.eval (.tmp 5) = .string y := by rw [S.off.eval (by decide)]; exact x5
    match i', il, ho, hsi, hT with
    | 0, _, ho, hsi, hT =>
      obtain ⟨e1, e2⟩ := pick_of h0 ho
      have BW := S.before
      refine step_val (v := .string x) (by simp only [execOp, e1, y7]; go_simp) (hK _ _ ?_)
      rw [e2]
      exact ⟨S.off.put (by decide) _, S.before, fun _ => (eval_put _ _ _ (by omega)).trans rfl, fun g => by rw [eval_put_ne _ _ _ _ (by decide)]; exact S.t1 (by simpa using g), fun g => by rw [eval_put_ne _ _ _ _ (by decide)]; exact S.t2 (by simpa using g), fun g => by rw [eval_put_ne _ _ _ _ (by decide)]; exact S.t3 (by simpa using g), fun g => by rw [eval_put_ne _ _ _ _ (by decide)]; exact S.t4 (by simpa using g), fun g => by rw [eval_put_ne _ _ _ _ (by decide)]; exact S.t5 (by simpa using g), fun g => by rw [eval_put_ne _ _ _ _ (by decide)]; exact S.t6 (by simpa using g)⟩
    | 1, _, ho, hsi, hT =>
      obtain ⟨e1, e2⟩ := pick_of h1 ho
      have BW := S.before
      refine step_val (v := .int .i64 (i : Nat)) (by simp only [execOp, e1, y12]; go_simp) (hK _ _ ?_)
      rw [e2]
      exact ⟨S.off.put (by decide) _, S.before, fun g => by rw [eval_put_ne _ _ _ _ (by decide)]; exact S.t0 (by simpa using g), fun _ => (eval_put _ _ _ (by omega)).trans rfl, fun g => by rw [eval_put_ne _ _ _ _ (by decide)]; exact S.t2 (by simpa using g), fun g => by rw [eval_put_ne _ _ _ _ (by decide)]; exact S.t3 (by simpa using g), fun g => by rw [eval_put_ne _ _ _ _ (by decide)]; exact S.t4 (by simpa using g), fun g => by rw [eval_put_ne _ _ _ _ (by decide)]; exact S.t5 (by simpa using g), fun g => by rw [eval_put_ne _ _ _ _ (by decide)]; exact S.t6 (by simpa using g)⟩
    | 2, _, ho, hsi, hT =>
      obtain ⟨e1, e2⟩ := pick_of h2 ho
      have D0 : s 0 = true := list_pos hT (d := 0) (by decide)
      have D1 : s 1 = true := list_pos hT (d := 1) (by decide)
      have BW := S.before
      have bc := byte_co x i hx
      refine step_val (v := .int .u8 ((Gal.co x.data.toList i).toNat : Nat)) (by simp only [execOp, e1, S.t0 D0, S.t1 D1]; go_simp) (hK _ _ ?_)
      rw [e2]
      exact ⟨S.off.put (by decide) _, S.before, fun g => by rw [eval_put_ne _ _ _ _ (by decide)]; exact S.t0 (by simpa using g), fun g => by rw [eval_put_ne _ _ _ _ (by decide)]; exact S.t1 (by simpa using g), fun _ => (eval_put _ _ _ (by omega)).trans rfl, fun g => by rw [eval_put_ne _ _ _ _ (by decide)]; exact S.t3 (by simpa using g), fun g => by rw [eval_put_ne _ _ _ _ (by decide)]; exact S.t4 (by simpa using g), fun g => by rw [eval_put_ne _ _ _ _ (by decide)]; exact S.t5 (by simpa using g), fun g => by rw [eval_put_ne _ _ _ _ (by decide)]; exact S.t6 (by simpa using g)⟩
    | 3, _, ho, hsi, hT =>
      obtain ⟨e1, e2⟩ := pick_of h3 ho
      have BW := S.before
      refine step_val (v := .string y) (by simp only [execOp, e1, y5]; go_simp) (hK _ _ ?_)
      rw [e2]
      exact ⟨S.off.put (by decide) _, S.before, fun g => by rw [eval_put_ne _ _ _ _ (by decide)]; exact S.t0 (by simpa using g), fun g => by rw [eval_put_ne _ _ _ _ (by decide)]; exact S.t1 (by simpa using g), fun g => by rw [eval_put_ne _ _ _ _ (by decide)]; exact S.t2 (by simpa using g), fun _ => (eval_put _ _ _ (by omega)).trans rfl, fun g => by rw [eval_put_ne _ _ _ _ (by decide)]; exact S.t4 (by simpa using g), fun g => by rw [eval_put_ne _ _ _ _ (by decide)]; exact S.t5 (by simpa using g), fun g => by rw [eval_put_ne _ _ _ _ (by decide)]; exact S.t6 (by simpa using g)⟩
    | 4, _, ho, hsi, hT =>
      obtain ⟨e1, e2⟩ := pick_of h4 ho
      have BW := S.before
      refine step_val (v := .int .i64 (i : Nat)) (by simp only [execOp, e1, y12]; go_simp) (hK _ _ ?_)
      rw [e2]
      exact ⟨S.off.put (by decide) _, S.before, fun g => by rw [eval_put_ne _ _ _ _ (by decide)]; exact S.t0 (by simpa using g), fun g => by rw [eval_put_ne _ _ _ _ (by decide)]; exact S.t1 (by simpa using g), fun g => by rw [eval_put_ne _ _ _ _ (by decide)]; exact S.t2 (by simpa using g), fun g => by rw [eval_put_ne _ _ _ _ (by decide)]; exact S.t3 (by simpa using g), fun _ => (eval_put _ _ _ (by omega)).trans rfl, fun g => by rw [eval_put_ne _ _ _ _ (by decide)]; exact S.t5 (by simpa using g), fun g => by rw [eval_put_ne _ _ _ _ (by decide)]; exact S.t6 (by simpa using g)⟩
    | 5, _, ho, hsi, hT =>
      obtain ⟨e1, e2⟩ := pick_of h5 ho
      have D3 : s 3 = true := list_pos hT (d := 3) (by decide)
      have D4 : s 4 = true := list_pos hT (d := 4) (by decide)
      have BW := S.before
      have bc := byte_co y i hy
      refine step_val (v := .int .u8 ((Gal.co y.data.toList i).toNat : Nat)) (by simp only [execOp, e1, S.t3 D3, S.t4 D4]; go_simp) (hK _ _ ?_)
      rw [e2]
      exact ⟨S.off.put (by decide) _, S.before, fun g => by rw [eval_put_ne _ _ _ _ (by decide)]; exact S.t0 (by simpa using g), fun g => by rw [eval_put_ne _ _ _ _ (by decide)]; exact S.t1 (by simpa using g), fun g => by rw [eval_put_ne _ _ _ _ (by decide)]; exact S.t2 (by simpa using g), fun g => by rw [eval_put_ne _ _ _ _ (by decide)]; exact S.t3 (by simpa using g), fun g => by rw [eval_put_ne _ _ _ _ (by decide)]; exact S.t4 (by simpa using g), fun _ => (eval_put _ _ _ (by omega)).trans rfl, fun g => by rw [eval_put_ne _ _ _ _ (by decide)]; exact S.t6 (by simpa using g)⟩
    | 6, _, ho, hsi, hT =>
      obtain ⟨e1, e2⟩ := pick_of h6 ho
      have D2 : s 2 = true := list_pos hT (d := 2) (by decide)
      have D5 : s 5 = true := list_pos hT (d := 5) (by decide)
      have BW := S.before
      refine step_val (v := .bool b) (by simp only [execOp, e1, S.t2 D2, S.t5 D5]; go_simp; rw [← hd]; exact dif_dec _ _) (hK _ _ ?_)
      rw [e2]
      exact ⟨S.off.put (by decide) _, S.before, fun g => by rw [eval_put_ne _ _ _ _ (by decide)]; exact S.t0 (by simpa using g), fun g => by rw [eval_put_ne _ _ _ _ (by decide)]; exact S.t1 (by simpa using g), fun g => by rw [eval_put_ne _ _ _ _ (by decide)]; exact S.t2 (by simpa using g), fun g => by rw [eval_put_ne _ _ _ _ (by decide)]; exact S.t3 (by simpa using g), fun g => by rw [eval_put_ne _ _ _ _ (by decide)]; exact S.t4 (by simpa using g), fun g => by rw [eval_put_ne _ _ _ _ (by decide)]; exact S.t5 (by simpa using g), fun _ => (eval_put _ _ _ (by omega)).trans rfl⟩
  · intro s a w' S hall
    have a0 := hall 0 (by omega)
    have a1 := hall 1 (by omega)
    have a2 := hall 2 (by omega)
    have a3 := hall 3 (by omega)
    have a4 := hall 4 (by omega)
    have a5 := hall 5 (by omega)
    have a6 := hall 6 (by omega)
    have e := off_norm _ (by intro d hd; simp at hd; omega) S.off
    simp only [List.foldl, S.t0 a0, S.t1 a1, S.t2 a2, S.t3 a3, S.t4 a4, S.t5 a5, S.t6 a6] at e
    rw [e]
    exact h _ S.before
set_option maxRecDepth 100000 in
set_option maxHeartbeats 2000000 in
theorem good (a : ByteArray) (n : Nat) (ha : a.size = n) (h1 : 1 ≤ n) (h2 : n ≤ 223) (A : Option Addr) (cap m : Nat) (hm : m ≤ 20) (At : Nat → Int) (Ch : Nat → BitVec 8) (Er : Nat → Bool) (hA : ∀ j, j < m → (Lit.int .i64 (At j)).wf = true) (w : World) (R : Errs w A m At Ch Er) :
    Calls Tryd.prog 3 #[.string a, .slice A m cap] w fun e w' => e = .returned (.bool true) ∧ Below w.heap.size w w' := by
  have AW := Lib.hid (fun w => bawake_any w)
  have EX := Lib.hid (fun w => encode_any a (by omega) (by omega) w)
  have xs := enc_size a
  have xl : (⟨(Blk.enc a.data.toList).toArray⟩ : ByteArray).data.toList = Blk.enc a.data.toList := rfl
  obtain ⟨x, hx⟩ : ∃ s : ByteArray, (⟨(Blk.enc a.data.toList).toArray⟩ : ByteArray) = s := ⟨_, rfl⟩
  rw [hx] at EX xs xl
  obtain ⟨L, hL⟩ : ∃ L, n + 8 = L := ⟨_, rfl⟩
  rw [ha, hL] at xs
  have SP := Lib.hid (fun w R => spoil_any x L m xs (by omega) (by omega) A cap (by omega) At Ch Er hA w R)
  have FX := Lib.hid (fun (s : ByteArray) (zs : List Int) (er : Nat → Bool) (hs : s.size = L) her h o k y D => fixed a n L s zs er ha h1 h2 hL hs her h (o := o) (k := k) (x := y) D)
  rw [← xl] at FX
  have DC := Lib.hid (fun (s : ByteArray) az capz zs w hs hm hz R => decode_any s az capz zs.length L zs hs (by omega) (by omega) rfl hm hz w R)
  have sa := ha
  have eL : (n : Int) + 8 = (L : Int) := by omega
  have L4 : L ≤ 231 := by omega
  have XS := Lib.hid xs
  have HR := Lib.hid R
  have aa := beq_same a
  clear hx ha hL xl R hA
  go_enter Tryd.func3, Tryd.ntmps3
  go_wp2_with fail
  (with_reducible refine (EX.out _).mono ?_)
  rintro e w1 ⟨rfl, k1⟩
  have B1 := Lib.hid k1
  have R1 := Lib.hid (HR.out.below k1)
  clear k1 EX HR
  go_wp2_with fail
  (with_reducible refine (SP.out _ R1.out).mono ?_)
  rintro e w2 ⟨s, zs, az, cz, rfl, hs, hzl, hzw, hiz, k2⟩
  have B2 := Lib.hid (bt B1.out k2)
  have HS := Lib.hid hs
  have HW := Lib.hid hzw
  have HI := Lib.hid hiz
  obtain ⟨q, hq⟩ : ∃ q, zs.length = q := ⟨_, rfl⟩
  have q2 : q ≤ 20 := by omega
  have HQ := Lib.hid hq
  rw [hq]
  have FX2 := Lib.hid (fun er her h o k y D => FX.out s zs er HS.out her h o k y D)
  have DC2 := Lib.hid (fun w R => DC.out s az cz zs w HS.out (by rw [HQ.out]; omega) HW.out R)
  rw [hq] at DC2
  clear hs hzl hzw hiz hq k2 R1 B1 SP FX DC
  obtain ⟨xx, hxx⟩ : ∃ l, x.data.toList = l := ⟨_, rfl⟩
  obtain ⟨ss, hss⟩ : ∃ l, s.data.toList = l := ⟨_, rfl⟩
  rw [hxx, hss] at FX2
  have C0 := Lib.hid (show ∀ P, (0 : Nat) = Blk.cnt P 0 from fun _ => rfl)
  have CS := Lib.hid (fun P k => Blk.cnt_succ P k)
  have CL := Lib.hid (fun P k => Blk.cnt_le P k)
  have XX := Lib.hid hxx
  have SS := Lib.hid hss
  clear hxx hss
  obtain ⟨W, hW⟩ : ∃ W, isW ss xx = W := ⟨_, rfl⟩
  obtain ⟨E, hE⟩ : ∃ E, isE zs = E := ⟨_, rfl⟩
  obtain ⟨G, hG⟩ : ∃ G, isB ss xx zs = G := ⟨_, rfl⟩
  have HG := Lib.hid (show ∀ i, G i = (W i && !E i) by subst hW hE hG; exact fun _ => rfl)
  have HE := Lib.hid (show ∀ i : Nat, E i = decide ((i : Int) ∈ zs) by subst hE; exact fun _ => rfl)
  have HWW := Lib.hid (show ∀ i : Nat, decide (Gal.co s.data.toList i ≠ Gal.co x.data.toList i) = W i by subst hW; rw [SS.out, XX.out]; exact fun _ => rfl)
  rw [hW, hE, hG] at FX2
  clear hW hE hG
  go_wp2_with fail
  go_loopw [9, 10, 11, 12] (fun u9 u10 u11 u12 wr => ∃ i c9 c10 c11 : Nat, i ≤ L ∧ c9 ≤ i ∧ c10 ≤ i ∧ c11 ≤ i ∧ c9 = Blk.cnt W i ∧ c10 = Blk.cnt G i ∧ c11 = Blk.cnt E i ∧ u9 = .int .i64 (c9 : Nat) ∧ u10 = .int .i64 (c10 : Nat) ∧ u11 = .int .i64 (c11 : Nat) ∧ u12 = .int .i64 (i : Nat) ∧ Below w2.heap.size w2 wr) (fun _ _ _ u12 _ => L - (intOf u12).toNat)
  case atStart => exact ⟨0, 0, 0, 0, Nat.zero_le _, Nat.le_refl _, Nat.le_refl _, Nat.le_refl _, C0.out _, C0.out _, C0.out _, rfl, rfl, rfl, rfl, Below.refl _ _⟩
  case round =>
    obtain ⟨i, c9, c10, c11, hi, l9, l10, l11, g9, g10, g11, rfl, rfl, rfl, rfl, hB⟩ := hrel
    have HB := Lib.hid hB
    have G9 := Lib.hid g9
    have G10 := Lib.hid g10
    have G11 := Lib.hid g11
    clear hB g9 g10 g11 C0
    by_cases hlt : i < L
    · have CS9 := CS.out W i
      have CS10 := CS.out G i
      have CS11 := CS.out E i
      rw [← G9.out] at CS9
      rw [← G10.out, HG.out i] at CS10
      rw [← G11.out] at CS11
      have SX := Lib.hid (show i < s.size by rw [HS.out]; exact hlt)
      have SY := Lib.hid (show i < x.size by rw [XS.out]; exact hlt)
      have DW := Lib.hid (HWW.out i)
      have DE := Lib.hid (HE.out i)
      have TK := Lib.hid (fun k (hk : k < zs.length) => take_mem zs k i hk)
      rw [HQ.out] at TK
      have IR := Lib.hid (HI.out.below HB.out)
      have TF := Lib.hid (show zs.take q = zs by rw [← HQ.out]; exact List.take_length)
      obtain ⟨ww, hww⟩ : ∃ v, W i = v := ⟨_, rfl⟩
      obtain ⟨ee, hee⟩ : ∃ v, E i = v := ⟨_, rfl⟩
      rw [hww] at CS9 CS10 DW
      rw [hee] at CS10 CS11 DE
      have S9 := Lib.hid CS9
      have S10 := Lib.hid CS10
      have S11 := Lib.hid CS11
      clear CS9 CS10 CS11 hww hee G9 G10 G11 HG HE HWW CL
      go_wp2_with fail
      go_loopw [13, 14] (fun u13 u14 wi => ∃ k : Nat, k ≤ q ∧ u14 = .int .i64 (k : Nat) ∧ u13 = .bool (decide ((i : Int) ∈ zs.take k)) ∧ wi = wr) (fun _ u14 _ => q - (intOf u14).toNat)
      case atStart => exact ⟨0, Nat.zero_le _, rfl, by simp, rfl⟩
      case round =>
        obtain ⟨k, hk, rfl, rfl, rfl⟩ := hrel
        by_cases hkq : k < q
        · have tk := TK.out k hkq
          obtain ⟨zb, zo, rfl, hzb, hzc⟩ := IR.out.cell (by rw [HQ.out]; omega)
          have ck := hzc k (by rw [HQ.out]; exact hkq)
          obtain ⟨z, hz⟩ : ∃ z, zs.getD k 0 = z := ⟨_, rfl⟩
          obtain ⟨v, hv⟩ : ∃ v, decide ((i : Int) ∈ zs.take k) = v := ⟨_, rfl⟩
          rw [hz, hv] at tk
          rw [hz] at ck
          rw [hv]
          clear hzb hzc hz hv
          cases v with
          | true =>
            have TT := Lib.hid (show Value.bool true = .bool (decide ((i : Int) ∈ zs.take (k + 1))) by rw [tk]; rfl)
            clear tk
            go_wp2_with fail
            go_roundw
            case rel => exact ⟨k + 1, by omega, by go_num, TT.out, by first | rfl | trivial⟩
            case measure => simp [intOf]; omega
          | false =>
            have TT := Lib.hid (show Value.bool (decide (z = (i : Int))) = .bool (decide ((i : Int) ∈ zs.take (k + 1))) by rw [tk, Bool.false_or])
            clear tk
            go_wp2_with fail
            go_roundw
            case rel => exact ⟨k + 1, by omega, by go_num, TT.out, by first | rfl | trivial⟩
            case measure => simp [intOf]; omega
        · obtain rfl : k = q := by omega
          rw [TF.out, ← DE.out]
          clear TK IR
          cases ee with
          | true =>
            cases ww with
            | true =>
              have P9 : c9 + 1 = Blk.cnt W (i + 1) := by have := S9.out; simp at this; omega
              have P10 : c10 = Blk.cnt G (i + 1) := by have := S10.out; simp at this; omega
              have P11 : c11 + 1 = Blk.cnt E (i + 1) := by have := S11.out; simp at this; omega
              have Q9 := Lib.hid P9
              have Q10 := Lib.hid P10
              have Q11 := Lib.hid P11
              clear P9 P10 P11 S9 S10 S11 TF DE
              go_upto_region 7 with fail
              refine corRegion i s x true SX.out SY.out DW.out (by kernel_rfl) rfl rfl rfl rfl rfl rfl rfl rfl rfl rfl rfl rfl ?_
              intro w5 k5
              simp only [Act.put, List.setIfInBounds_toArray, List.set_cons_succ, List.set_cons_zero]
              have B5 := Lib.hid (bt HB.out k5)
              clear k5
              go_wp2_with fail
              go_roundw
              case rel => exact ⟨i + 1, c9 + 1, c10, c11 + 1, by omega, by omega, by omega, by omega, Q9.out, Q10.out, Q11.out, by go_num, by go_num, by go_num, by go_num, B5.out⟩
              case measure => simp [intOf]; omega
            | false =>
              have P9 : c9 = Blk.cnt W (i + 1) := by have := S9.out; simp at this; omega
              have P10 : c10 = Blk.cnt G (i + 1) := by have := S10.out; simp at this; omega
              have P11 : c11 + 1 = Blk.cnt E (i + 1) := by have := S11.out; simp at this; omega
              have Q9 := Lib.hid P9
              have Q10 := Lib.hid P10
              have Q11 := Lib.hid P11
              clear P9 P10 P11 S9 S10 S11 TF DE
              go_upto_region 7 with fail
              refine corRegion i s x false SX.out SY.out DW.out (by kernel_rfl) rfl rfl rfl rfl rfl rfl rfl rfl rfl rfl rfl rfl ?_
              intro w5 k5
              simp only [Act.put, List.setIfInBounds_toArray, List.set_cons_succ, List.set_cons_zero]
              have B5 := Lib.hid (bt HB.out k5)
              clear k5
              go_wp2_with fail
              go_roundw
              case rel => exact ⟨i + 1, c9, c10, c11 + 1, by omega, by omega, by omega, by omega, Q9.out, Q10.out, Q11.out, by go_num, by go_num, by go_num, by go_num, B5.out⟩
              case measure => simp [intOf]; omega
          | false =>
            cases ww with
            | true =>
              have P9 : c9 + 1 = Blk.cnt W (i + 1) := by have := S9.out; simp at this; omega
              have P10 : c10 + 1 = Blk.cnt G (i + 1) := by have := S10.out; simp at this; omega
              have P11 : c11 = Blk.cnt E (i + 1) := by have := S11.out; simp at this; omega
              have Q9 := Lib.hid P9
              have Q10 := Lib.hid P10
              have Q11 := Lib.hid P11
              clear P9 P10 P11 S9 S10 S11 TF DE
              go_upto_region 7 with fail
              refine corRegion i s x true SX.out SY.out DW.out (by kernel_rfl) rfl rfl rfl rfl rfl rfl rfl rfl rfl rfl rfl rfl ?_
              intro w5 k5
              simp only [Act.put, List.setIfInBounds_toArray, List.set_cons_succ, List.set_cons_zero]
              have B5 := Lib.hid (bt HB.out k5)
              clear k5
              go_wp2_with fail
              go_roundw
              case rel => exact ⟨i + 1, c9 + 1, c10 + 1, c11, by omega, by omega, by omega, by omega, Q9.out, Q10.out, Q11.out, by go_num, by go_num, by go_num, by go_num, B5.out⟩
              case measure => simp [intOf]; omega
            | false =>
              have P9 : c9 = Blk.cnt W (i + 1) := by have := S9.out; simp at this; omega
              have P10 : c10 = Blk.cnt G (i + 1) := by have := S10.out; simp at this; omega
              have P11 : c11 = Blk.cnt E (i + 1) := by have := S11.out; simp at this; omega
              have Q9 := Lib.hid P9
              have Q10 := Lib.hid P10
              have Q11 := Lib.hid P11
              clear P9 P10 P11 S9 S10 S11 TF DE
              go_upto_region 7 with fail
              refine corRegion i s x false SX.out SY.out DW.out (by kernel_rfl) rfl rfl rfl rfl rfl rfl rfl rfl rfl rfl rfl rfl ?_
              intro w5 k5
              simp only [Act.put, List.setIfInBounds_toArray, List.set_cons_succ, List.set_cons_zero]
              have B5 := Lib.hid (bt HB.out k5)
              clear k5
              go_wp2_with fail
              go_roundw
              case rel => exact ⟨i + 1, c9, c10, c11, by omega, by omega, by omega, by omega, Q9.out, Q10.out, Q11.out, by go_num, by go_num, by go_num, by go_num, B5.out⟩
              case measure => simp [intOf]; omega
    · obtain rfl : i = L := by omega
      clear hlt HG HE HWW CS CL
      have HB4 := Lib.hid (B2.out.trans (HB.out.mono B2.out.size))
      have FX3 := Lib.hid FX2.out
      by_cases g : c11 + 2 * c10 ≤ 8
      · have DC3 := Lib.hid (DC2.out wr (HI.out.below HB.out))
        have FX4 := Lib.hid (fun er her o k y D => FX3.out er her (by rw [← G11.out, ← G10.out]; exact g) (o := o) (k := k) (y := y) D)
        rw [← G9.out] at FX4
        clear FX2 FX3 DC2 G9 G10 G11 HI
        go_wp2_with fail
        (with_reducible refine DC3.out.mono ?_)
        rintro e w4 ⟨er, her, o, k, y, rfl, D, h4⟩
        rw [SS.out] at D
        obtain ⟨e1, e2, e3⟩ := FX4.out er her o k y D
        subst e3 e2
        rw [e1]
        have B4 := Lib.hid (bt HB4.out h4)
        clear FX4 DC3 her D e1 h4
        go_wp2_with fail
        (with_reducible refine (AW.out _).mono ?_)
        rintro e w5 ⟨rfl, h5⟩
        have B5 := Lib.hid (bt B4.out h5)
        clear h5
        go_wp2_with fail
        go_ret
        exact ⟨rfl, B5.out⟩
      · clear FX2 FX3 DC2 G9 G10 G11 HI
        go_wp2_with fail
        (with_reducible refine (AW.out _).mono ?_)
        rintro e w5 ⟨rfl, h5⟩
        have B5 := Lib.hid (bt HB4.out h5)
        clear h5
        go_wp2_with fail
        go_ret
        exact ⟨rfl, B5.out⟩




set_option maxRecDepth 100000 in
theorem walk (a : ByteArray) (ha : a.size ≤ maxLen) (A : Option Addr) (cap m : Nat) (hm : m ≤ maxLen) (At : Nat → Int) (Ch : Nat → BitVec 8) (Er : Nat → Bool) (hA : ∀ j, j < m → (Lit.int .i64 (At j)).wf = true) (w : World) (R : Errs w A m At Ch Er) :
    Calls Tryd.prog 3 #[.string a, .slice A m cap] w fun e w' => e = .returned (.bool true) ∧ Below w.heap.size w w' := by
  have AW := Lib.hid (fun w => bawake_any w)
  unfold maxLen at ha hm
  obtain ⟨n, hn⟩ : ∃ n, a.size = n := ⟨_, rfl⟩
  rw [hn] at ha
  by_cases h1 : 223 < n
  · clear R hA
    go_enter Tryd.func3, Tryd.ntmps3
    go_wp2_with fail
    (with_reducible refine (AW.out _).mono ?_)
    rintro e w1 ⟨rfl, h1⟩
    have B1 := Lib.hid h1
    clear h1
    go_wp2_with fail
    go_ret
    exact ⟨rfl, B1.out⟩
  by_cases h2 : 20 < m
  · have h1' : decide ((223 : Int) < (n : Int)) = false := by simp; omega
    clear R hA
    go_enter Tryd.func3, Tryd.ntmps3
    go_wp2_with fail
    (with_reducible refine (AW.out _).mono ?_)
    rintro e w1 ⟨rfl, h1⟩
    have B1 := Lib.hid h1
    clear h1
    go_wp2_with fail
    go_ret
    exact ⟨rfl, B1.out⟩
  by_cases h3 : 1 ≤ n
  · exact good a n hn h3 (by omega) A cap m (by omega) At Ch Er hA w R
  · have EB := Lib.hid (encode_bad a (by omega) (by unfold maxLen; omega) w)
    obtain rfl : n = 0 := by omega
    clear R hA
    go_enter Tryd.func3, Tryd.ntmps3
    go_wp2_with fail
    (with_reducible refine EB.out.mono ?_)
    rintro e w' ⟨rfl, rfl⟩
    go_wp2_with fail
    (with_reducible refine (AW.out _).mono ?_)
    rintro e w1 ⟨rfl, h1⟩
    have B1 := Lib.hid h1
    clear h1
    go_wp2_with fail
    go_ret
    exact ⟨rfl, B1.out⟩


set_option maxRecDepth 100000 in
theorem lifted (os : Os) (started : os.Started) (H : Type) (enc : TypeId × Value → H) :
    ReturnsInHanded {} Tryd.checked os 3 .any (fun w args => (Rows.blockCorrectsSpec.pre enc Tryd.prog Tryd.f3 [] false w args ∧ laidMetH Tryd.prog laidL w) ∧ sizedMet enc Tryd.prog Tryd.f3 (OpenSpec.ofChange Rows.blockCorrectsSpec) false w args)
      (Rows.blockCorrectsSpec.post enc Tryd.prog Tryd.f3 false true false false) := by
  refine returnsInHanded_of_change_and (C := Tryd.checked) (X := fun w _ => laidMetH Tryd.prog laidL w) (fun _ _ _ hh h => h.of_heap hh) own started (by kernel_rfl) Tryd.func3
    (ChangeSpec.witness_shaped (enc := enc) (C := Tryd.checked) (os := os) (X := fun w _ => laidMetH Tryd.prog laidL w) false (World.laidAll Tryd.prog os laidL) #[.string { data := #[] }, .slice none 0 0] 8 (World.laidAll_os _ _ _)
      (World.shaped_of_ZipB (by kernel_rfl) (by kernel_rfl)) (by kernel_rfl) (by kernel_rfl) (by kernel_rfl) (laid_met os _)) ?_
  intro W base args ds gs before hval0 hW _ _ _ _
  have hval : ∀ (j : Nat) t v, Tryd.f3.params[j]? = some t → args[j]? = some v → Value.okWide Tryd.prog W .any base t v := hval0
  have hW' := hW
  obtain ⟨p, q, hA0, hV, rfl, hfz, hnd⟩ := hW
  have hA : DataW.TrodAll enc Tryd.prog W 0 (fun _ => true) true Tryd.f3.params.toList args.toList ds p := hA0
  rw [Tryd.params3] at hA hval
  obtain ⟨v0, vs0, d0, ds0, p0, q0, hargs, rfl, rfl, h0, r0⟩ := trodAll_cons hA
  obtain ⟨v1, vs1, d1, ds1, p1, q1, rfl, rfl, rfl, h1, r1⟩ := trodAll_cons r0
  obtain ⟨rfl, rfl, rfl⟩ := trodAll_nil r1
  obtain rfl : args = #[v0, v1] := by cases args; simp_all
  obtain ⟨rfl, rfl⟩ := trodVars_none hV
  obtain ⟨a0, rfl, rfl, rfl, w0⟩ := ChangeMaps.open_string Tryd.underlying9 (hval 0 9 v0 rfl rfl) h0
  obtain ⟨x1, y1, z1, e1⟩ := okWide_slice Tryd.underlying22 (hval 1 22 v1 rfl rfl)
  obtain ⟨m1, A1, cap1, At1, Ch1, Er1, rfl, l1, R1, k1, shut1⟩ := err_arg (by rw [e1]; rfl) h1
  clear e1
  clear hA0 hval0
  simp only [List.append_nil] at hW'
  refine (walk a0 w0 A1 cap1 m1 l1 At1 Ch1 Er1 k1 W R1).mono fun e W' ⟨he, hg⟩ => ?_
  subst he
  exact ⟨_, rfl, post_of_below (pa := [] ++ (p1 ++ ([]))) (pv := []) hW' (fun _ _ _ => trodAll_cons_mk (shut_bool Tryd.underlying4 _) trodAll_mk0) (fun sp hsp => (trodAll_cons_mk (ChangeMaps.shut_string Tryd.underlying9 w0) (trodAll_cons_mk (shut1 W' hg sp (fun q hq => hsp q (by simp [hq]))) trodAll_mk0))) (fun _ _ => rfl) (by simp)
    hg (ok_one (by kernel_rfl) rfl (okWide_bool_mk Tryd.underlying4 _))⟩

theorem over : Rows.BlockCorrectsSaid :=
  OpenClaim.holds_of_wide 3 Tryd.f3 rfl rfl rfl rfl rfl rfl rfl ⟨rfl, rfl, rfl, rfl, rfl⟩ rfl rfl rfl rfl rfl (by kernel_rfl) Tryd.func3 (by kernel_rfl)
    (of_decide_eq_true (by kernel_rfl)) (by unfold Func.isWrapper; first | (rw [if_pos (by decide +kernel)]; kernel_rfl) | (rw [if_neg (by decide +kernel)]; exact ⟨rfl, rfl⟩))
    (fun os started H enc _ => lifted os started H enc)

theorem proved : Rows.BlockCorrectsCardSaid :=
  Claim7.holds_tied_plain_at .later [] [.data, .pinned] true Rows.blockCorrectsCard.stood.harness false
    over (fun _ h => by cases h) (by kernel_rfl) (fun _ h => by cases h) blockCorrects_row_tie rfl ⟨rfl, rfl⟩ (by kernel_rfl) rfl
    (fun f fn hf hfn => by
      obtain rfl : f = 3 := Option.some.inj ((show Tryd.prog.funcNamed "perigee/perigeelaw05.BlockCorrects" = some 3 by kernel_rfl).symm.trans hf) |>.symm
      obtain rfl : fn = Tryd.f3 := (Option.some.inj (Tryd.func3.symm.trans hfn)).symm
      exact ⟨by kernel_rfl, fun j t ht => by
        have hall : (Tryd.f3.params.toList.all fun u => !Tryd.prog.wantsStandIn u) = true := by kernel_rfl
        have hm : t ∈ Tryd.f3.params.toList := by simpa using Array.mem_of_getElem? ht
        exact (show Tryd.prog.wantsStandIn t = false by simpa using List.all_eq_true.1 hall t hm)⟩)
    (by kernel_rfl)
#print axioms proved
end blockCorrects
