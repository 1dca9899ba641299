/- TmFlipK -/
import Derived.Test.YtgcjfiablcjfgaaTmFlip
import Derived.Test.YtgcjfiablcjfgaaCrcBits
import Derived.Test.YtgcjfiablcjfgaaTyKit
import Derived.Test.YtgcjfiablcjfgaaF2e
import Derived.StillTailTactics
/- Layer 10: the contract of the check kit's Flip over this program, free of layer 3's laws: a string that is not empty, with one bit inverted. -/
namespace Go.Proofs.Ytgcjfiablcjfgaa
open Go.RowKit
set_option linter.unusedVariables false
theorem holds_inv {w : World} {b : Nat} {l : List UInt8} (h : Holds w b l) (i d v : Nat) (hi : i < l.length) (hd : d < 8) (hv : (l.getD i 0).toNat ^^^ 2 ^ d = v) : Holds (w.setCell ⟨b, i, none⟩ (.int .u8 (v : Nat))) b (Crc.inv l i d) := by
  intro j hj
  rw [Crc.inv_length] at hj
  obtain ⟨h1, h2⟩ := h j hj
  refine ⟨?_, by rw [World.frozen?_setCell]; exact h2⟩
  by_cases e : j = i
  · subst e
    rw [World.cell?_setCell_same' _ _ _ (by rw [h1]; rfl), Crc.inv_at l j d hi hd, hv]
  · rw [World.cell?_setCell_other (h := addr_off (fun x => e x.symm)), Crc.inv_off l j i d e]
    exact h1
theorem xinv8 (c d : Nat) (hc : c < 256) (hd : d < 8) : bits .xor .u8 (c : Int) ((2 : Int) ^ d % 256) = ((c ^^^ 2 ^ d : Nat) : Int) := by
  have h2 : 2 ^ d < 256 := by
    have := Nat.pow_le_pow_right (n := 2) (by omega) (show d ≤ 7 by omega)
    omega
  have e : (2 : Int) ^ d % 256 = ((2 ^ d : Nat) : Int) := by
    have : (2 : Int) ^ d = ((2 ^ d : Nat) : Int) := by simp
    rw [this]
    generalize 2 ^ d = q at *
    omega
  rw [e]
  exact u8_xor_nat c (2 ^ d) hc h2
def flipped (l : List UInt8) (k : Nat) : List UInt8 := Crc.inv l (k / 8) (7 - k % 8)

set_option maxRecDepth 100000 in
set_option maxHeartbeats 1000000 in
/-- Flip at a bit within the string. -/
theorem kflip_any (s : ByteArray) (n : Nat) (hn : s.size = n) (h0 : 0 < n) (h1 : n ≤ 70000) (k : Nat) (hk : k < 8 * n) (w : World) :
    Calls Try.prog 26 #[.string s, .int .i64 (k : Nat)] w fun e w' => e = .returned (.string ⟨(flipped s.data.toList k).toArray⟩) ∧ Below w.heap.size w w' := by
  have PK := Lib.hid (fun w => pick_any (k : Int) (by simp [Lit.wf, IntKind.min, IntKind.max, IntKind.signed, IntKind.bits]; omega) (8 * n) (by omega) (by omega) w)
  have ek : ((k : Int) % ((8 * n : Nat) : Int)).toNat = k := by
    rw [Int.emod_eq_of_lt (by omega) (by omega)]; rfl
  rw [ek] at PK
  rw [show ((8 * n : Nat) : Int) = 8 * (n : Int) by omega] at PK
  have ne : s ≠ ⟨#[]⟩ := by
    rintro rfl
    have : (⟨#[]⟩ : ByteArray).size = 0 := rfl
    omega
  have e1 := beq_no ne
  have e2 : (s.toList == (⟨#[]⟩ : ByteArray).toList) = false := by rw [← beq_toListBytes, e1]
  have e3 : s.toList.isEmpty = false := by
    rw [show (⟨#[]⟩ : ByteArray).toList = [] from by decide +kernel] at e2
    cases h : s.toList with
    | nil => rw [h] at e2; simp at e2
    | cons a b => rfl
  have ls : s.data.toList.length = n := by rw [← hn]; simp
  have c1 := run_bytes_of_string (P := Try.prog) w 9 40 5 s Try.underlying9 Try.underlying40 Try.underlying5
  obtain ⟨cap, hcap⟩ : ∃ cap, grownCap w s.size 0 5 = cap := ⟨_, rfl⟩
  rw [hcap, hn] at c1
  have H1 := Lib.hid (holds_new s cap 5 w.drew)
  obtain ⟨C, hC⟩ : ∃ C, bytesRow s cap = C := ⟨_, rfl⟩
  rw [hC] at c1 H1
  have B1 := Lib.hid (((Below.refl w.heap.size w).drew).alloc (Nat.le_refl _) (.cells C 5 (C.size, C.size + 1)))
  obtain ⟨v, hv⟩ : ∃ v, w.drew.alloc (.cells C 5 (C.size, C.size + 1)) = v := ⟨_, rfl⟩
  rw [hv] at c1 H1 B1
  have C1 := Lib.hid c1
  have H1' : Holds v w.heap.size s.data.toList := H1.out
  obtain ⟨d, hd⟩ : ∃ d : Nat, 7 - k % 8 = d := ⟨_, rfl⟩
  obtain ⟨j, hj'⟩ : ∃ j : Nat, k / 8 = j := ⟨_, rfl⟩
  have hd7 : d < 8 := by omega
  have w1 : IntKind.i64.wrap (j : Int) = (j : Int) := by rw [IntKind.wrap_i64]; omega
  obtain ⟨r, hr⟩ : ∃ r : Nat, k % 8 = r := ⟨_, rfl⟩
  have w2 : (k : Int).tmod 8 = (r : Int) := by rw [Int.tmod_eq_emod_of_nonneg (by omega)]; omega
  have w4 : IntKind.i64.wrap (7 - (r : Int)) = (d : Int) := by rw [IntKind.wrap_i64]; omega
  have w3 : (k : Int) / 8 = (j : Int) := by omega
  have hj : j < n := by omega
  have jl' : (j : Int) < (n : Int) := by omega
  obtain ⟨cS, fS⟩ := H1' j (by rw [ls]; exact hj)
  obtain ⟨c, hc⟩ : ∃ c, (s.data.toList.getD j 0).toNat = c := ⟨_, rfl⟩
  have c8 : c < 256 := by rw [← hc]; exact UInt8.toNat_lt _
  rw [hc] at cS
  have x1 := Lib.hid (xinv8 c d c8 hd7)
  have HF : Holds ((v.setCell ⟨w.heap.size, j, none⟩ (.int .u8 (bits .xor .u8 (c : Int) (2 ^ d % 256)))).drew) w.heap.size (flipped s.data.toList k) := by
    rw [x1.out]
    have := holds_inv H1' j d _ (by rw [ls]; exact hj) hd7 (by rw [hc])
    unfold flipped
    rw [hj', hd]
    exact this
  have cv := back_bytes _ _ cap _ HF
  rw [show (flipped s.data.toList k).length = n by unfold flipped; rw [Crc.inv_length, ls]] at cv
  have CV := Lib.hid cv
  have BB := Lib.hid (show Below w.heap.size w ((v.setCell ⟨w.heap.size, j, none⟩ (.int .u8 (bits .xor .u8 (c : Int) (2 ^ d % 256)))).drew) from (B1.out.setCell (p := ⟨w.heap.size, j, none⟩) (Nat.le_refl _) _).drew)
  clear HF cv
  clear hcap hC hv ek c1 H1' H1 ne hc hd hj' hr
  go_enter Try.func26, Try.ntmps26
  go_wp2_with (simp only [C1.out])
  (with_reducible refine (PK.out _).mono ?_)
  rintro e w' ⟨rfl, rfl⟩
  go_wp2_with fail
  go_still_tail 13, (by kernel_rfl)
  go_wp2_with (simp only [CV.out])
  go_ret
  exact ⟨rfl, BB.out⟩
namespace Crc
/-- Within the window: which bits are inverted. -/
theorem short_in (l : List UInt8) (k c : Nat) (i : Nat) (hi : i < 16) : ∀ m, i < m → m ≤ 16 → k + m ≤ 8 * l.length → hb (short l k c m) (k + i) = (hb l (k + i) != decide (c / 2 ^ i % 2 = 1))
  | 0, h, _, _ => absurd h (Nat.not_lt_zero _)
  | m + 1, h, hm, hk => by
    have off : ∀ q, m ≤ q → hb (short l k c m) (k + q) = hb l (k + q) := fun q hq => by
      have : ∀ m', m' ≤ m → hb (short l k c m') (k + q) = hb l (k + q) := by
        intro m'
        induction m' with
        | zero => intro _; rfl
        | succ m' ih =>
          intro hm'
          unfold short
          split
          · rw [hb_inv _ _ _ (by rw [short_length]; omega), decide_eq_false (by omega), Bool.bne_false, ih (by omega)]
          · exact ih (by omega)
      exact this m (Nat.le_refl _)
    unfold short
    by_cases e : i = m
    · subst e
      by_cases g : c / 2 ^ i % 2 = 1
      · rw [if_pos ⟨hi, g⟩, hb_inv _ _ _ (by rw [short_length]; omega), off i (Nat.le_refl _), decide_eq_true g, decide_eq_true rfl]
      · rw [if_neg (fun h => g h.2), off i (Nat.le_refl _), decide_eq_false g, Bool.bne_false]
    · have ih := short_in l k c i hi m (by omega) (by omega) (by omega)
      split
      · rw [hb_inv _ _ _ (by rw [short_length]; omega), decide_eq_false (by omega), Bool.bne_false, ih]
      · exact ih
theorem low_zero {X : Nat} (g : ∀ i, i < 16 → X / 2 ^ i % 2 = 0) : ∀ m, m ≤ 16 → X % 2 ^ m = 0
  | 0, _ => by rw [Nat.pow_zero, Nat.mod_one]
  | m + 1, h => by rw [Nat.mod_pow_succ, low_zero g m (by omega), g m (by omega)]; rfl
theorem some_bit {X : Nat} (hX : X < 65536) (h0 : X ≠ 0) : ∃ i, i < 16 ∧ X / 2 ^ i % 2 = 1 := by
  by_cases h : ∃ i, i < 16 ∧ X / 2 ^ i % 2 = 1
  · exact h
  · exfalso
    have g : ∀ i, i < 16 → X / 2 ^ i % 2 = 0 := fun i hi => by
      have : ¬ X / 2 ^ i % 2 = 1 := fun e => h ⟨i, hi, e⟩
      omega
    have := low_zero g 16 (Nat.le_refl _)
    rw [show (2 : Nat) ^ 16 = 65536 from rfl, Nat.mod_eq_of_lt hX] at this
    exact h0 this
/-- A pattern that is not zero changes the string. -/
theorem short_ne (l : List UInt8) (k X : Nat) (hX : X < 65536) (h0 : X ≠ 0) (hk : k + 16 ≤ 8 * l.length) : l ≠ short l k X 16 := by
  intro e
  obtain ⟨i, hi, g⟩ := some_bit hX h0
  have := short_in l k X i hi 16 hi (Nat.le_refl _) hk
  rw [← e, decide_eq_true g] at this
  cases hb l (k + i) <;> simp at this
end Crc
end Go.Proofs.Ytgcjfiablcjfgaa
