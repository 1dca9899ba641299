/- Bits of strings of bytes: plain mathematics. -/
namespace Go.Proofs.Ytgfjmolihobaeaa
namespace Fld
/-- Bit i of a string: bit 0 is the highest one of the first byte. -/
def bit (l : List UInt8) (i : Nat) : Nat := (l.getD (i / 8) 0).toNat / 2 ^ (7 - i % 8) % 2
theorem bit_lt (l : List UInt8) (i : Nat) : bit l i < 2 := by unfold bit; omega
/-- The number of a field. -/
def num (l : List UInt8) (p : Nat) : Nat → Nat
  | 0 => 0
  | k + 1 => 2 * num l p k + bit l (p + k)
theorem num_lt (l : List UInt8) (p : Nat) : ∀ k, num l p k < 2 ^ k
  | 0 => by simp [num]
  | k + 1 => by
    have a := num_lt l p k
    have b := bit_lt l (p + k)
    have e : 2 ^ (k + 1) = 2 * 2 ^ k := by rw [Nat.pow_succ]; omega
    unfold num
    omega
/-- Bits as they come. -/
abbrev Bit := { x : Nat // x < 2 }
def val (xs : List Bit) : Nat := xs.foldl (fun n x => 2 * n + x.1) 0
theorem val_nil : val [] = 0 := rfl
theorem val_snoc (xs : List Bit) (x : Bit) : val (xs ++ [x]) = 2 * val xs + x.1 := by unfold val; simp
theorem val_lt (xs : List Bit) : val xs < 2 ^ xs.length := by
  suffices h : ∀ (xs : List Bit) (n k : Nat), n < 2 ^ k → xs.foldl (fun n x => 2 * n + x.1) n < 2 ^ (k + xs.length) by
    have := h xs 0 0 (by simp)
    simpa [val] using this
  intro xs
  induction xs with
  | nil => intro n k h; simpa using h
  | cons x xs ih =>
    intro n k h
    have e : 2 ^ (k + 1) = 2 * 2 ^ k := by rw [Nat.pow_succ]; omega
    have hx := x.2
    have := ih (2 * n + x.1) (k + 1) (by omega)
    rw [List.foldl_cons, List.length_cons, show k + (xs.length + 1) = k + 1 + xs.length by omega]
    exact this
theorem pow_le_64 {k : Nat} (h : k ≤ 64) : 2 ^ k ≤ 18446744073709551616 := by
  have := Nat.pow_le_pow_right (n := 2) (by omega) h
  simpa using this
/-- The first k of f. -/
def upto {α : Type} (f : Nat → α) (k : Nat) : List α := (List.range k).map f
theorem upto_succ {α : Type} (f : Nat → α) (k : Nat) : upto f (k + 1) = upto f k ++ [f k] := by simp [upto, List.range_succ]
theorem upto_length {α : Type} (f : Nat → α) (k : Nat) : (upto f k).length = k := by simp [upto]
def fbit (l : List UInt8) (p k : Nat) : Bit := ⟨bit l (p + k), bit_lt _ _⟩
theorem val_fbit (l : List UInt8) (p : Nat) : ∀ k, val (upto (fbit l p) k) = num l p k
  | 0 => rfl
  | k + 1 => by rw [upto_succ, val_snoc, val_fbit l p k]; rfl
/-- Bit k from above of a number of width w. -/
def nbit (v w k : Nat) : Bit := ⟨v / 2 ^ (w - 1 - k) % 2, by omega⟩
/-- A byte with bit d (0 is the lowest one) set to x. -/
def setB (c d x : Nat) : Nat := c - c / 2 ^ d % 2 * 2 ^ d + x * 2 ^ d
/-- A string with bit i set to x. -/
def set (l : List UInt8) (i x : Nat) : List UInt8 := l.set (i / 8) (UInt8.ofNat (setB (l.getD (i / 8) 0).toNat (7 - i % 8) x))
theorem set_length (l : List UInt8) (i x : Nat) : (set l i x).length = l.length := by unfold set; simp
theorem set_at (l : List UInt8) (i x : Nat) (h : i / 8 < l.length) : (set l i x).getD (i / 8) 0 = UInt8.ofNat (setB (l.getD (i / 8) 0).toNat (7 - i % 8) x) := by
  unfold set
  rw [List.getD_eq_getElem?_getD, List.getElem?_set_self h]
  rfl
theorem set_off (l : List UInt8) (i x j : Nat) (h : j ≠ i / 8) : (set l i x).getD j 0 = l.getD j 0 := by
  unfold set
  rw [List.getD_eq_getElem?_getD, List.getElem?_set_ne (by omega), ← List.getD_eq_getElem?_getD]
/-- A string with the first k bits of a field of width w set to those of v. -/
def put (l : List UInt8) (p w v : Nat) : Nat → List UInt8
  | 0 => l
  | k + 1 => set (put l p w v k) (p + k) (v / 2 ^ (w - 1 - k) % 2)
theorem put_length (l : List UInt8) (p w v : Nat) : ∀ k, (put l p w v k).length = l.length
  | 0 => rfl
  | k + 1 => by unfold put; rw [set_length, put_length l p w v k]
/-- A string with bits put one after the other. -/
def puts (l : List UInt8) (p : Nat) : List Bit → List UInt8
  | [] => l
  | x :: xs => puts (set l p x.1) (p + 1) xs
theorem puts_snoc (x : Bit) : ∀ (xs : List Bit) (l : List UInt8) (p : Nat), puts l p (xs ++ [x]) = set (puts l p xs) (p + xs.length) x.1
  | [], _, _ => rfl
  | y :: ys, l, p => by
    rw [List.cons_append, puts, puts, puts_snoc x ys, List.length_cons, show p + 1 + ys.length = p + (ys.length + 1) by omega]
theorem puts_length : ∀ (xs : List Bit) (l : List UInt8) (p : Nat), (puts l p xs).length = l.length
  | [], _, _ => rfl
  | y :: ys, l, p => by rw [puts, puts_length ys, set_length]
theorem puts_nbit (l : List UInt8) (p w v : Nat) : ∀ k, puts l p (upto (nbit v w) k) = put l p w v k
  | 0 => rfl
  | k + 1 => by rw [upto_succ, puts_snoc, upto_length, puts_nbit l p w v k]; rfl
end Fld
end Go.Proofs.Ytgfjmolihobaeaa
