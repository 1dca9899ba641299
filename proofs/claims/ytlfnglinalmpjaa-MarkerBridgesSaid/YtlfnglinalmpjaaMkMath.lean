/- Mathematics of layer 8: the pseudo-random sequence. -/
namespace Go.Proofs.Ytlfnglinalmpjaa.Mk
/-- The next eight bits: one place on. -/
def nxt (s : Nat) : Nat := 2 * s % 256 + (s % 2 + s / 4 % 2 + s / 16 % 2 + s / 128 % 2) % 2
/-- The eight bits from the place i on, the first the highest. -/
def sst : Nat → Nat
  | 0 => 255
  | i + 1 => nxt (sst i)
/-- The bit at the place i. -/
def prb (i : Nat) : Nat := sst i / 128
theorem nxt_lt (s : Nat) : nxt s < 256 := by unfold nxt; omega
theorem sst_lt : ∀ i, sst i < 256
  | 0 => by decide
  | i + 1 => nxt_lt _
theorem prb_lt (i : Nat) : prb i < 2 := by
  have := sst_lt i
  unfold prb
  omega
theorem nxt_parts : ∀ s, s < 256 → nxt s / 128 = s / 64 % 2 ∧ nxt s / 64 % 2 = s / 32 % 2 ∧ nxt s / 32 % 2 = s / 16 % 2 ∧ nxt s / 16 % 2 = s / 8 % 2 ∧ nxt s / 8 % 2 = s / 4 % 2 ∧ nxt s / 4 % 2 = s / 2 % 2 ∧ nxt s / 2 % 2 = s % 2 ∧ nxt s % 2 = (s % 2 + s / 4 % 2 + s / 16 % 2 + s / 128 % 2) % 2 := by decide +kernel
theorem sst_bits (i : Nat) : sst i / 128 = prb i ∧ sst i / 64 % 2 = prb (i + 1) ∧ sst i / 32 % 2 = prb (i + 2) ∧ sst i / 16 % 2 = prb (i + 3) ∧ sst i / 8 % 2 = prb (i + 4) ∧ sst i / 4 % 2 = prb (i + 5) ∧ sst i / 2 % 2 = prb (i + 6) ∧ sst i % 2 = prb (i + 7) := by
  have p0 := nxt_parts _ (sst_lt i)
  have p1 := nxt_parts _ (sst_lt (i + 1))
  have p2 := nxt_parts _ (sst_lt (i + 2))
  have p3 := nxt_parts _ (sst_lt (i + 3))
  have p4 := nxt_parts _ (sst_lt (i + 4))
  have p5 := nxt_parts _ (sst_lt (i + 5))
  have p6 := nxt_parts _ (sst_lt (i + 6))
  have e0 : nxt (sst i) = sst (i + 1) := rfl
  have e1 : nxt (sst (i + 1)) = sst (i + 2) := rfl
  have e2 : nxt (sst (i + 2)) = sst (i + 3) := rfl
  have e3 : nxt (sst (i + 3)) = sst (i + 4) := rfl
  have e4 : nxt (sst (i + 4)) = sst (i + 5) := rfl
  have e5 : nxt (sst (i + 5)) = sst (i + 6) := rfl
  have e6 : nxt (sst (i + 6)) = sst (i + 7) := rfl
  rw [e0] at p0
  rw [e1] at p1
  rw [e2] at p2
  rw [e3] at p3
  rw [e4] at p4
  rw [e5] at p5
  rw [e6] at p6
  unfold prb
  omega
/-- Each further bit: the exclusive or of the bits 1, 3, 5 and 8 places before it. -/
theorem prb_step (i : Nat) : prb (i + 8) = (prb (i + 7) + prb (i + 5) + prb (i + 3) + prb i) % 2 := by
  have a := sst_bits i
  have b := sst_bits (i + 1)
  have c := nxt_parts _ (sst_lt i)
  have e0 : nxt (sst i) = sst (i + 1) := rfl
  rw [e0] at c
  have d : prb (i + 1 + 7) = prb (i + 8) := by rw [Nat.add_assoc]
  rw [d] at b
  omega
theorem xor4 : ∀ a, a < 2 → ∀ b, b < 2 → ∀ c, c < 2 → ∀ d, d < 2 → ((a ^^^ b) ^^^ c) ^^^ d = (a + b + c + d) % 2 := by decide
theorem prb_xor (i : Nat) : prb (i + 8) = ((prb (i + 7) ^^^ prb (i + 5)) ^^^ prb (i + 3)) ^^^ prb i := by
  rw [prb_step, xor4 _ (prb_lt _) _ (prb_lt _) _ (prb_lt _) _ (prb_lt _)]
theorem prb_first : ∀ i, i < 8 → prb i = 1 := by decide
/-- The byte k of the sequence. -/
def sqb (k : Nat) : Nat := sst (8 * k)
theorem sqb_lt (k : Nat) : sqb k < 256 := sst_lt _
/-- A byte is made of its bits, the first the highest. -/
def acc (g : Nat → Nat) (p : Nat) : Nat → Nat
  | 0 => 0
  | k + 1 => 2 * acc g p k + g (p + k)
theorem acc_lt {g : Nat → Nat} (hg : ∀ i, g i < 2) (p : Nat) : ∀ k, acc g p k < 2 ^ k
  | 0 => by show 0 < 1; omega
  | k + 1 => by
    have := acc_lt hg p k
    have := hg (p + k)
    rw [Nat.pow_succ]
    show 2 * acc g p k + g (p + k) < _
    omega
theorem acc_byte (k : Nat) : acc prb (8 * k) 8 = sqb k := by
  have a := sst_bits (8 * k)
  show 2 * (2 * (2 * (2 * (2 * (2 * (2 * (2 * 0 + prb (8 * k + 0)) + prb (8 * k + 1)) + prb (8 * k + 2)) + prb (8 * k + 3)) + prb (8 * k + 4)) + prb (8 * k + 5)) + prb (8 * k + 6)) + prb (8 * k + 7) = sqb k
  unfold sqb
  rw [Nat.add_zero]
  omega
/-- The period is 255 bits. -/
theorem sst_255 : sst 255 = 255 := by decide +kernel
theorem sst_period : ∀ i, sst (i + 255) = sst i
  | 0 => sst_255
  | i + 1 => by
    show nxt (sst (i + 255)) = nxt (sst i)
    rw [sst_period i]
theorem prb_period (i : Nat) : prb (i + 255) = prb i := by
  unfold prb
  rw [sst_period]
/-- Do the first eight bits come again p places on? -/
def again (p : Nat) : Bool := (List.range 8).all fun i => decide (prb i = prb (i + p))
theorem again_no : ∀ p, p < 255 → p ≠ 0 → again p = false := by decide +kernel
theorem differs (p : Nat) (h0 : p ≠ 0) (h : p < 255) : ∃ i, i < 8 ∧ prb i ≠ prb (i + p) := by
  have a := again_no p h h0
  unfold again at a
  rw [List.all_eq_false] at a
  obtain ⟨i, hi, hq⟩ := a
  exact ⟨i, by simpa using hi, by simpa using hq⟩
end Go.Proofs.Ytlfnglinalmpjaa.Mk
