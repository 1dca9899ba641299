/- The contract of the check kit's Flip over this program: a string that is not empty, with one bit inverted. -/
import Derived.Test.YtkgnhdggfeiheaaCrcBytes
namespace Go.Proofs.Ytkgnhdggfeiheaa
open Go.RowKit
set_option linter.unusedVariables false

theorem xinv8 (c d : Nat) (hc : c < 256) (hd : d < 8) : bits .xor .u8 (c : Int) ((2 : Int) ^ d % 256) = ((c ^^^ 2 ^ d : Nat) : Int) := by
  have h2 : 2 ^ d < 256 := by
    have := Nat.pow_le_pow_right (n := 2) (by omega) (show d ≤ 7 by omega)
    omega
  have e : (2 : Int) ^ d % 256 = ((2 ^ d : Nat) : Int) := by
    have : (2 : Int) ^ d = ((2 ^ d : Nat) : Int) := by simp
    rw [this]
    generalize 2 ^ d = q at *
    omega
  rw [e]
  exact u8_xor_nat c (2 ^ d) hc h2
/-- Which bit. -/
def bitOf (n : Nat) (p : Int) : Nat := (p % ((8 * n : Nat) : Int)).toNat
theorem bitOf_lt (n : Nat) (p : Int) (h : 0 < n) : bitOf n p < 8 * n := by
  have q1 := Int.emod_lt_of_pos p (show 0 < ((8 * n : Nat) : Int) by omega)
  have q2 := Int.emod_nonneg p (show ((8 * n : Nat) : Int) ≠ 0 by omega)
  unfold bitOf
  omega
def flipped (l : List UInt8) (k : Nat) : List UInt8 := Crc.inv l (k / 8) (7 - k % 8)

set_option maxHeartbeats 1000000 in
theorem kflip_any (s : ByteArray) (n : Nat) (hn : s.size = n) (h0 : 0 < n) (h1 : n ≤ 70000) (p : Int) (hp : (Lit.int .i64 p).wf = true) (w : World) :
    Calls Try.prog 27 #[.string s, .int .i64 p] w fun e w' => e = .returned (.string ⟨(flipped s.data.toList (bitOf n p)).toArray⟩) ∧ Below w.heap.size w w' := by
  have PK := Lib.hid (fun w => pick_any p hp (8 * n) (by omega) (by omega) w)
  have hk := bitOf_lt n p h0
  have ek : (p % ((8 * n : Nat) : Int)).toNat = bitOf n p := rfl
  rw [ek] at PK
  obtain ⟨k, hkk⟩ : ∃ k, bitOf n p = k := ⟨_, rfl⟩
  rw [hkk] at PK hk ⊢
  rw [show ((8 * n : Nat) : Int) = 8 * (n : Int) by omega] at PK
  have ne : s ≠ ⟨#[]⟩ := by
    rintro rfl
    have : (⟨#[]⟩ : ByteArray).size = 0 := rfl
    omega
  have e1 := beq_no ne
  have e2 : (s.toList == (⟨#[]⟩ : ByteArray).toList) = false := by rw [← beq_toListBytes, e1]
  have e3 : s.toList.isEmpty = false := by
    rw [show (⟨#[]⟩ : ByteArray).toList = [] from by decide +kernel] at e2
    cases h : s.toList with
    | nil => rw [h] at e2; simp at e2
    | cons a b => rfl
  have ls : s.data.toList.length = n := by rw [← hn]; simp
  have c1 := run_bytes_of_string (P := Try.prog) w 9 38 5 s Try.underlying9 Try.underlying38 Try.underlying5
  obtain ⟨cap, hcap⟩ : ∃ cap, grownCap w s.size 0 5 = cap := ⟨_, rfl⟩
  rw [hcap, hn] at c1
  have H1 := Lib.hid (holds_new s cap 5 w.drew)
  obtain ⟨C, hC⟩ : ∃ C, bytesRow s cap = C := ⟨_, rfl⟩
  rw [hC] at c1 H1
  have B1 := Lib.hid (((Below.refl w.heap.size w).drew).alloc (Nat.le_refl _) (.cells C 5 (C.size, C.size + 1)))
  obtain ⟨v, hv⟩ : ∃ v, w.drew.alloc (.cells C 5 (C.size, C.size + 1)) = v := ⟨_, rfl⟩
  rw [hv] at c1 H1 B1
  have C1 := Lib.hid c1
  have H1' : Holds v w.heap.size s.data.toList := H1.out
  obtain ⟨d, hd⟩ : ∃ d : Nat, 7 - k % 8 = d := ⟨_, rfl⟩
  obtain ⟨j, hj'⟩ : ∃ j : Nat, k / 8 = j := ⟨_, rfl⟩
  have hd7 : d < 8 := by omega
  have w1 : IntKind.i64.wrap (j : Int) = (j : Int) := by rw [IntKind.wrap_i64]; omega
  obtain ⟨r, hr⟩ : ∃ r : Nat, k % 8 = r := ⟨_, rfl⟩
  have w2 : (k : Int).tmod 8 = (r : Int) := by rw [Int.tmod_eq_emod_of_nonneg (by omega)]; omega
  have w4 : IntKind.i64.wrap (7 - (r : Int)) = (d : Int) := by rw [IntKind.wrap_i64]; omega
  have w3 : (k : Int) / 8 = (j : Int) := by omega
  have hj : j < n := by omega
  have jl' : (j : Int) < (n : Int) := by omega
  obtain ⟨cS, fS⟩ := H1' j (by rw [ls]; exact hj)
  obtain ⟨c, hc⟩ : ∃ c, (s.data.toList.getD j 0).toNat = c := ⟨_, rfl⟩
  have c8 : c < 256 := by rw [← hc]; exact UInt8.toNat_lt _
  rw [hc] at cS
  have x1 := Lib.hid (xinv8 c d c8 hd7)
  have HF : Holds ((v.setCell ⟨w.heap.size, j, none⟩ (.int .u8 (bits .xor .u8 (c : Int) (2 ^ d % 256)))).drew) w.heap.size (flipped s.data.toList k) := by
    rw [x1.out]
    have := H1'.inv j d _ (by rw [ls]; exact hj) hd7 (by rw [hc])
    unfold flipped
    rw [hj', hd]
    exact this
  have cv := HF.back (cap := cap)
  rw [show (flipped s.data.toList k).length = n by unfold flipped; rw [Crc.inv_length, ls]] at cv
  have CV := Lib.hid cv
  have BB := Lib.hid (show Below w.heap.size w ((v.setCell ⟨w.heap.size, j, none⟩ (.int .u8 (bits .xor .u8 (c : Int) (2 ^ d % 256)))).drew) from (B1.out.setCell (p := ⟨w.heap.size, j, none⟩) (Nat.le_refl _) _).drew)
  clear HF cv
  clear hcap hC hv hkk ek c1 H1' H1 ne hc hd hj' hr
  go_enter Try.func27, Try.ntmps27
  go_wp2_with (simp only [C1.out])
  (with_reducible refine (PK.out _).mono ?_)
  rintro e w' ⟨rfl, rfl⟩
  go_wp2_with fail
  go_still_tail 13, (by kernel_rfl)
  go_wp2_with (simp only [CV.out])
  go_ret
  exact ⟨rfl, BB.out⟩
end Go.Proofs.Ytkgnhdggfeiheaa
