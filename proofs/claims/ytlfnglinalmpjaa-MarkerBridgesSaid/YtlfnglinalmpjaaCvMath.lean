/- The convolutional code: steps, symbols, linearity, distance: plain mathematics. -/
import Derived.Test.YtlfnglinalmpjaaProg
namespace Go.Proofs.Ytlfnglinalmpjaa
set_option linter.unusedVariables false
namespace Cv
/-- The parity of a number below 256. -/
def par (n : Nat) : Nat := (n + n / 2 + n / 4 + n / 8 + n / 16 + n / 32 + n / 64 + n / 128) % 2
/-- The next state, the two symbols. -/
def nx (s b : Nat) : Nat := (64 * b + s) / 2
def s1 (s b : Nat) : Nat := par ((64 * b + s) &&& 0x79)
def s2 (s b : Nat) : Nat := 1 - par ((64 * b + s) &&& 0x5b)
theorem nx_lt {s b : Nat} (hs : s < 64) (hb : b < 2) : nx s b < 64 := by unfold nx; omega
theorem par_lt (n : Nat) : par n < 2 := Nat.mod_lt _ (by omega)
theorem s1_lt (s b : Nat) : s1 s b < 2 := par_lt _
theorem s2_lt (s b : Nat) : s2 s b < 2 := by unfold s2; omega
/-- Both at once: what is exclusive-or-ed. -/
theorem lin2 : ∀ s, s < 64 → ∀ t, t < 64 → ∀ b, b < 2 → ∀ c, c < 2 → nx (s ^^^ t) (b ^^^ c) = nx s b ^^^ nx t c ∧ s1 (s ^^^ t) (b ^^^ c) = s1 s b ^^^ s1 t c ∧ s2 (s ^^^ t) (b ^^^ c) = 1 - (s2 s b ^^^ s2 t c) := by decide +kernel
theorem xor2_lt {a b n : Nat} (ha : a < 2 ^ n) (hb : b < 2 ^ n) : a ^^^ b < 2 ^ n := Nat.xor_lt_two_pow ha hb
theorem flip2 : ∀ a, a < 2 → ∀ b, b < 2 → ∀ c, c < 2 → 1 - ((1 - (a ^^^ b)) ^^^ c) = a ^^^ b ^^^ c := by decide
/-- Three at once. -/
theorem lin3 {s t u b c d : Nat} (hs : s < 64) (ht : t < 64) (hu : u < 64) (hb : b < 2) (hc : c < 2) (hd : d < 2) :
    nx (s ^^^ t ^^^ u) (b ^^^ c ^^^ d) = nx s b ^^^ nx t c ^^^ nx u d ∧ s1 (s ^^^ t ^^^ u) (b ^^^ c ^^^ d) = s1 s b ^^^ s1 t c ^^^ s1 u d ∧ s2 (s ^^^ t ^^^ u) (b ^^^ c ^^^ d) = s2 s b ^^^ s2 t c ^^^ s2 u d := by
  have h1 : s ^^^ t < 64 := xor2_lt (n := 6) hs ht
  have h2 : b ^^^ c < 2 := xor2_lt (n := 1) hb hc
  obtain ⟨a1, a2, a3⟩ := lin2 _ h1 u hu _ h2 d hd
  obtain ⟨e1, e2, e3⟩ := lin2 s hs t ht b hb c hc
  rw [a1, a2, a3, e1, e2, e3]
  exact ⟨rfl, rfl, flip2 _ (s2_lt _ _) _ (s2_lt _ _) _ (s2_lt _ _)⟩
/-- The bits of a message with its tail. -/
def bit (x : BitVec 8) (k : Nat) : Nat := x.toNat / 2 ^ (7 - k) % 2
theorem bit_lt (x : BitVec 8) (k : Nat) : bit x k < 2 := Nat.mod_lt _ (by omega)
/-- The i-th bit of a message of n bytes f. -/
def mb (f : Nat → BitVec 8) (n i : Nat) : Nat := if i < 8 * n then bit (f (i / 8)) (i % 8) else 0
theorem mb_lt (f : Nat → BitVec 8) (n i : Nat) : mb f n i < 2 := by
  unfold mb
  split
  · exact bit_lt _ _
  · omega
/-- The state ahead of the step i over bits g. -/
def stt (g : Nat → Nat) : Nat → Nat
  | 0 => 0
  | i + 1 => nx (stt g i) (g i)
theorem stt_lt {g : Nat → Nat} (hg : ∀ i, g i < 2) : ∀ i, stt g i < 64
  | 0 => by show 0 < 64; omega
  | i + 1 => nx_lt (stt_lt hg i) (hg i)
/-- The symbol i. -/
def sym (g : Nat → Nat) (i : Nat) : Nat := if i % 2 = 0 then s1 (stt g (i / 2)) (g (i / 2)) else s2 (stt g (i / 2)) (g (i / 2))
theorem sym_lt (g : Nat → Nat) (i : Nat) : sym g i < 2 := by
  unfold sym
  split
  · exact s1_lt _ _
  · exact s2_lt _ _
theorem sym_even (g : Nat → Nat) (k : Nat) : sym g (2 * k) = s1 (stt g k) (g k) := by
  unfold sym
  rw [if_pos (by omega), show 2 * k / 2 = k by omega]
theorem sym_odd (g : Nat → Nat) (k : Nat) : sym g (2 * k + 1) = s2 (stt g k) (g k) := by
  unfold sym
  rw [if_neg (by omega), show (2 * k + 1) / 2 = k by omega]
section
variable {f g h : Nat → Nat} (hf : ∀ i, f i < 2) (hg : ∀ i, g i < 2) (hh : ∀ i, h i < 2)
include hf hg hh
theorem stt_lin : ∀ i, stt (fun i => f i ^^^ g i ^^^ h i) i = stt f i ^^^ stt g i ^^^ stt h i
  | 0 => by show (0 : Nat) = 0 ^^^ 0 ^^^ 0; decide
  | i + 1 => by
    show nx (stt _ i) _ = _
    rw [stt_lin i]
    exact (lin3 (stt_lt hf i) (stt_lt hg i) (stt_lt hh i) (hf i) (hg i) (hh i)).1
/-- P6.3: linearity. -/
theorem sym_lin (i : Nat) : sym (fun i => f i ^^^ g i ^^^ h i) i = sym f i ^^^ sym g i ^^^ sym h i := by
  have L := lin3 (stt_lt hf (i / 2)) (stt_lt hg (i / 2)) (stt_lt hh (i / 2)) (hf (i / 2)) (hg (i / 2)) (hh (i / 2))
  unfold sym
  split
  · rw [stt_lin hf hg hh, L.2.1]
  · rw [stt_lin hf hg hh, L.2.2]
end
theorem bit_lin : ∀ (x y z : BitVec 8) (k : Nat), bit (x ^^^ y ^^^ z) k = bit x k ^^^ bit y k ^^^ bit z k := fun x y z k => by
  unfold bit
  have e : ∀ w : BitVec 8, w.toNat / 2 ^ (7 - k) % 2 = (w.getLsbD (7 - k)).toNat := fun w => by
    rw [BitVec.getLsbD, Nat.testBit, Nat.shiftRight_eq_div_pow, Nat.and_comm, Nat.and_one_is_mod]
    rcases Nat.mod_two_eq_zero_or_one (w.toNat / 2 ^ (7 - k)) with q | q <;> simp [q]
  rw [e, e, e, e, BitVec.getLsbD_xor, BitVec.getLsbD_xor]
  cases x.getLsbD (7 - k) <;> cases y.getLsbD (7 - k) <;> cases z.getLsbD (7 - k) <;> rfl
theorem mb_lin (f g h : Nat → BitVec 8) (n i : Nat) : mb (fun p => f p ^^^ g p ^^^ h p) n i = mb f n i ^^^ mb g n i ^^^ mb h n i := by
  unfold mb
  split
  · exact bit_lin _ _ _ _
  · rfl
/-- What a step of the difference costs. -/
def cost (s b : Nat) : Nat := s1 s b + (1 - s2 s b)
/-- The least cost of a way back to the state 0: a lower bound. -/
def back : List Nat := [0, 2, 3, 3, 3, 5, 4, 4, 5, 3, 6, 6, 6, 4, 5, 5, 7, 5, 4, 4, 6, 6, 7, 7, 6, 6, 5, 5, 5, 7, 6, 6, 8, 8, 7, 5, 5, 5, 6, 4, 7, 7, 6, 6, 6, 6, 7, 7, 7, 7, 6, 6, 6, 6, 5, 7, 6, 6, 7, 7, 7, 7, 6, 6]
def bk (s : Nat) : Nat := back.getD s 0
theorem bk_zero : bk 0 = 0 := by decide
theorem bk_step : ∀ s, s < 64 → ∀ b, b < 2 → s ≠ 0 → bk s ≤ cost s b + bk (nx s b) := by decide +kernel
theorem bk_first : 10 ≤ cost 0 1 + bk (nx 0 1) := by decide
/-- The cost of the first k steps. -/
def total (g : Nat → Nat) : Nat → Nat
  | 0 => 0
  | k + 1 => total g k + cost (stt g k) (g k)
/-- From a state on, the way back to 0 costs at least bk. -/
theorem way {g : Nat → Nat} (hg : ∀ i, g i < 2) (a : Nat) : ∀ m, (∃ k, a ≤ k ∧ k ≤ a + m ∧ stt g k = 0 ∧ total g a + bk (stt g a) ≤ total g k) ∨ total g a + bk (stt g a) ≤ total g (a + m) + bk (stt g (a + m))
  | 0 => .inr (Nat.le_refl _)
  | m + 1 => by
    rcases way hg a m with ⟨k, h1, h2, h3⟩ | h
    · exact .inl ⟨k, h1, by omega, h3⟩
    · by_cases q : stt g (a + m) = 0
      · refine .inl ⟨a + m, by omega, by omega, q, ?_⟩
        rw [q, bk_zero] at h
        exact h
      · right
        have := bk_step _ (stt_lt hg (a + m)) _ (hg (a + m)) q
        show _ ≤ total g (a + m) + cost (stt g (a + m)) (g (a + m)) + bk (nx (stt g (a + m)) (g (a + m)))
        omega
theorem total_mono (g : Nat → Nat) : ∀ {a b : Nat}, a ≤ b → total g a ≤ total g b := by
  intro a b h
  induction h with
  | refl => exact Nat.le_refl _
  | step _ ih => exact Nat.le_trans ih (Nat.le_add_right _ _)
theorem stt_zero {g : Nat → Nat} : ∀ a, (∀ i, i < a → g i = 0) → stt g a = 0
  | 0, _ => rfl
  | a + 1, h => by
    show nx (stt g a) (g a) = 0
    rw [stt_zero a (fun i hi => h i (by omega)), h a (by omega)]
    rfl
/-- P6.4: a message with a bit 1 whose state is 0 at the end costs at least 10. -/
theorem far {g : Nat → Nat} (hg : ∀ i, g i < 2) {n : Nat} (hn : stt g n = 0) {a : Nat} (ha : a < n) (h1 : g a = 1) : 10 ≤ total g n := by
  -- the first bit 1
  have key : ∀ m a, a ≤ m → a < n → g a = 1 → (∃ a', a' < n ∧ g a' = 1 ∧ ∀ i, i < a' → g i = 0) := by
    intro m
    induction m with
    | zero => intro a h h2 h3; exact ⟨a, h2, h3, fun i hi => by omega⟩
    | succ m ih =>
      intro a h h2 h3
      by_cases q : ∃ i, i < a ∧ g i = 1
      · obtain ⟨i, hi, hi1⟩ := q
        exact ih i (by omega) (by omega) hi1
      · exact ⟨a, h2, h3, fun i hi => by
          have := hg i
          have : g i ≠ 1 := fun e => q ⟨i, hi, e⟩
          omega⟩
  obtain ⟨a, ha, h1, h0⟩ := key a a (Nat.le_refl _) ha h1
  have z := stt_zero a h0
  have e1 : stt g (a + 1) = nx 0 1 := by show nx (stt g a) (g a) = _; rw [z, h1]
  have e2 : total g (a + 1) = total g a + cost 0 1 := by show total g a + cost (stt g a) (g a) = _; rw [z, h1]
  have f := bk_first
  rcases way hg (a + 1) (n - (a + 1)) with ⟨k, k1, k2, _, k4⟩ | h
  · rw [e1, e2] at k4
    have := total_mono g (show k ≤ n by omega)
    omega
  · rw [show a + 1 + (n - (a + 1)) = n by omega, hn, bk_zero, e1, e2] at h
    omega
/-- Six bits 0 lead to the state 0. -/
theorem six : ∀ s, s < 64 → nx (nx (nx (nx (nx (nx s 0) 0) 0) 0) 0) 0 = 0 := by decide +kernel
theorem stt_end {g : Nat → Nat} (hg : ∀ i, g i < 2) (n : Nat) (h : ∀ i, n ≤ i → g i = 0) : stt g (n + 6) = 0 := by
  have e : ∀ i, n ≤ i → stt g (i + 1) = nx (stt g i) 0 := fun i hi => by show nx _ (g i) = _; rw [h i hi]
  rw [e (n + 5) (by omega), e (n + 4) (by omega), e (n + 3) (by omega), e (n + 2) (by omega), e (n + 1) (by omega), e n (by omega)]
  exact six _ (stt_lt hg n)
/-- The number of different symbols among the first 2 k. -/
def dff (f g : Nat → Nat) (k : Nat) : Nat := ((List.range k).filter (fun i => decide (sym f i ≠ sym g i))).length
theorem dff_succ (f g : Nat → Nat) (k : Nat) : dff f g (k + 1) = dff f g k + (if sym f k ≠ sym g k then 1 else 0) := by
  unfold dff
  rw [List.range_succ, List.filter_append, List.length_append]
  congr 1
  by_cases h : sym f k = sym g k <;> simp [h]
theorem cost_two : ∀ s, s < 64 → ∀ t, t < 64 → ∀ b, b < 2 → ∀ c, c < 2 → cost (s ^^^ t) (b ^^^ c) = (if s1 s b ≠ s1 t c then 1 else 0) + (if s2 s b ≠ s2 t c then 1 else 0) := by decide +kernel
theorem stt_two {f g : Nat → Nat} (hf : ∀ i, f i < 2) (hg : ∀ i, g i < 2) : ∀ i, stt (fun i => f i ^^^ g i) i = stt f i ^^^ stt g i
  | 0 => by show (0 : Nat) = 0 ^^^ 0; decide
  | i + 1 => by
    show nx (stt _ i) _ = _
    rw [stt_two hf hg i]
    exact (lin2 _ (stt_lt hf i) _ (stt_lt hg i) _ (hf i) _ (hg i)).1
/-- The different symbols are the cost of the difference. -/
theorem dff_total {f g : Nat → Nat} (hf : ∀ i, f i < 2) (hg : ∀ i, g i < 2) : ∀ k, dff f g (2 * k) = total (fun i => f i ^^^ g i) k
  | 0 => rfl
  | k + 1 => by
    show dff f g (2 * k + 1 + 1) = total _ k + cost (stt _ k) (f k ^^^ g k)
    rw [dff_succ, dff_succ, dff_total hf hg k, stt_two hf hg, cost_two _ (stt_lt hf k) _ (stt_lt hg k) _ (hf k) _ (hg k), sym_even, sym_even, sym_odd, sym_odd]
    omega
theorem xor_one : ∀ a, a < 2 → ∀ b, b < 2 → a ≠ b → a ^^^ b = 1 := by decide
/-- P6.4 of two messages. -/
theorem dist {f g : Nat → BitVec 8} {n : Nat} (h : ∃ p, p < n ∧ f p ≠ g p) : 10 ≤ dff (mb f n) (mb g n) (2 * (8 * n + 6)) := by
  rw [dff_total (fun i => mb_lt f n i) (fun i => mb_lt g n i)]
  obtain ⟨p, hp, hne⟩ := h
  have lt2 : ∀ i, (fun i => mb f n i ^^^ mb g n i) i < 2 := fun i => xor2_lt (n := 1) (mb_lt f n i) (mb_lt g n i)
  obtain ⟨k, hk, hb⟩ : ∃ k, k < 8 ∧ bit (f p) k ≠ bit (g p) k := by
    apply Classical.byContradiction
    intro q
    apply hne
    refine BitVec.eq_of_getLsbD_eq (fun i hi => ?_)
    have e : bit (f p) (7 - i) = bit (g p) (7 - i) := Classical.byContradiction fun w => q ⟨7 - i, by omega, w⟩
    unfold bit at e
    rw [show 7 - (7 - i) = i by omega] at e
    rw [BitVec.getLsbD, BitVec.getLsbD, Nat.testBit, Nat.testBit, Nat.shiftRight_eq_div_pow, Nat.shiftRight_eq_div_pow, Nat.and_comm, Nat.and_one_is_mod, Nat.and_comm 1, Nat.and_one_is_mod, e]
  refine far lt2 (a := 8 * p + k) ?_ (by omega) ?_
  · exact stt_end lt2 (8 * n) (fun i hi => by
      show mb f n i ^^^ mb g n i = 0
      unfold mb
      rw [if_neg (by omega), if_neg (by omega)]
      rfl)
  · show mb f n (8 * p + k) ^^^ mb g n (8 * p + k) = 1
    unfold mb
    rw [if_pos (by omega), if_pos (by omega), show (8 * p + k) / 8 = p by omega, show (8 * p + k) % 8 = k by omega]
    exact xor_one _ (bit_lt _ _) _ (bit_lt _ _) hb
end Cv
end Go.Proofs.Ytlfnglinalmpjaa
