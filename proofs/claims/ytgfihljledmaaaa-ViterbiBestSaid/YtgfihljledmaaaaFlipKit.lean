/- The check kit's Flip over this program: a string that is not empty becomes one of the same length. -/
import Derived.Test.YtgfihljledmaaaaPickKit
import Derived.Test.YtgfihljledmaaaaGalRow
namespace Go.Proofs.Ytgfihljledmaaaa
open Go.RowKit
set_option linter.unusedVariables false

theorem xinv8 (c d : Nat) (hc : c < 256) (hd : d < 8) : bits .xor .u8 (c : Int) ((2 : Int) ^ d % 256) = ((c ^^^ 2 ^ d : Nat) : Int) ∧ c ^^^ 2 ^ d < 256 := by
  have h2 : 2 ^ d < 256 := by
    have := Nat.pow_le_pow_right (n := 2) (by omega) (show d ≤ 7 by omega)
    omega
  have e : (2 : Int) ^ d % 256 = ((2 ^ d : Nat) : Int) := by
    have : (2 : Int) ^ d = ((2 ^ d : Nat) : Int) := by simp
    rw [this]
    generalize 2 ^ d = q at *
    omega
  rw [e]
  exact ⟨u8_xor_nat c (2 ^ d) hc h2, Nat.xor_lt_two_pow (n := 8) hc h2⟩
/-- A string that is not empty, compared with the empty one. -/
theorem some_str {s : ByteArray} (ne : s ≠ ⟨#[]⟩) : (s == (⟨#[]⟩ : ByteArray)) = false ∧ (s.toList == (⟨#[]⟩ : ByteArray).toList) = false ∧ s.toList.isEmpty = false := by
  have e1 := beq_no ne
  have e2 : (s.toList == (⟨#[]⟩ : ByteArray).toList) = false := by rw [← beq_toListBytes, e1]
  refine ⟨e1, e2, ?_⟩
  rw [show (⟨#[]⟩ : ByteArray).toList = [] from by decide +kernel] at e2
  cases h : s.toList with
  | nil => rw [h] at e2; simp at e2
  | cons a b => rfl
set_option maxHeartbeats 1000000 in
theorem kflip_size (s : ByteArray) (n : Nat) (hn : s.size = n) (h0 : 0 < n) (h1 : n ≤ 70000) (p : Int) (hp : (Lit.int .i64 p).wf = true) (w : World) :
    Calls Try.prog 20 #[.string s, .int .i64 p] w fun e w' => (∃ t : ByteArray, e = .returned (.string t) ∧ t.size = n) ∧ Below w.heap.size w w' := by
  have PK := Lib.hid (fun w => pick_any p hp (8 * n) (by omega) (by omega) w)
  have hk : (p % ((8 * n : Nat) : Int)).toNat < 8 * n := by
    have := Int.emod_nonneg p (show ((8 * n : Nat) : Int) ≠ 0 by omega)
    have := Int.emod_lt_of_pos p (show 0 < ((8 * n : Nat) : Int) by omega)
    omega
  obtain ⟨k, hkk⟩ : ∃ k, (p % ((8 * n : Nat) : Int)).toNat = k := ⟨_, rfl⟩
  rw [hkk] at PK hk
  rw [show ((8 * n : Nat) : Int) = 8 * (n : Int) by omega] at PK
  have ne : s ≠ ⟨#[]⟩ := by
    rintro rfl
    have : (⟨#[]⟩ : ByteArray).size = 0 := rfl
    omega
  obtain ⟨e1, e2, e3⟩ := some_str ne
  have c1 := run_bytes_of_string (P := Try.prog) w 9 37 5 s Try.underlying9 Try.underlying37 Try.underlying5
  obtain ⟨cap, hcap⟩ : ∃ cap, grownCap w s.size 0 5 = cap := ⟨_, rfl⟩
  rw [hcap, hn] at c1
  have H1 := nums_new s cap 5 w.drew
  rw [hn] at H1
  have B1 := Lib.hid (((Below.refl w.heap.size w).drew).alloc (Nat.le_refl _) (.cells (bytesRow s cap) 5 ((bytesRow s cap).size, (bytesRow s cap).size + 1)))
  obtain ⟨v, hv⟩ : ∃ v, w.drew.alloc (.cells (bytesRow s cap) 5 ((bytesRow s cap).size, (bytesRow s cap).size + 1)) = v := ⟨_, rfl⟩
  rw [hv] at c1 H1 B1
  have H1 : NumsK .u8 v w.heap.size n (fun j => (Gal.co s.data.toList j).toNat) := H1
  have C1 := Lib.hid c1
  obtain ⟨d, hd⟩ : ∃ d : Nat, 7 - k % 8 = d := ⟨_, rfl⟩
  obtain ⟨j, hj'⟩ : ∃ j : Nat, k / 8 = j := ⟨_, rfl⟩
  have hd7 : d < 8 := by omega
  have w1 : IntKind.i64.wrap (j : Int) = (j : Int) := by rw [IntKind.wrap_i64]; omega
  obtain ⟨r, hr⟩ : ∃ r : Nat, k % 8 = r := ⟨_, rfl⟩
  have w2 : (k : Int).tmod 8 = (r : Int) := by rw [Int.tmod_eq_emod_of_nonneg (by omega)]; omega
  have w4 : IntKind.i64.wrap (7 - (r : Int)) = (d : Int) := by rw [IntKind.wrap_i64]; omega
  have w3 : (k : Int) / 8 = (j : Int) := by omega
  have hj : j < n := by omega
  have jl' : (j : Int) < (n : Int) := by omega
  have cS := H1.cell hj
  have fS := H1.frozen hj
  have c8 : (Gal.co s.data.toList j).toNat < 256 := (Gal.co s.data.toList j).isLt
  obtain ⟨c, hc⟩ : ∃ c, (Gal.co s.data.toList j).toNat = c := ⟨_, rfl⟩
  rw [hc] at cS c8
  obtain ⟨x1, x2⟩ := xinv8 c d c8 hd7
  have X1 := Lib.hid x1
  have H2 : NumsK .u8 ((v.setCell ⟨w.heap.size, j, none⟩ (.int .u8 (bits .xor .u8 (c : Int) (2 ^ d % 256)))).drew) w.heap.size n (fun i => ((fun i => if i = j then BitVec.ofNat 8 (c ^^^ 2 ^ d) else Gal.co s.data.toList i) i).toNat) := by
    rw [x1]
    exact H1.set (g := fun i => ((fun i => if i = j then BitVec.ofNat 8 (c ^^^ 2 ^ d) else Gal.co s.data.toList i) i).toNat) j (c ^^^ 2 ^ d) hj (by show (if j = j then _ else _ : BitVec 8).toNat = _; rw [if_pos rfl, BitVec.toNat_ofNat]; omega) (fun i _ hi => by show (if i = j then _ else _ : BitVec 8).toNat = _; rw [if_neg hi])
  have cv := nums_back cap H2
  have sT := coefs_size (fun i => if i = j then BitVec.ofNat 8 (c ^^^ 2 ^ d) else Gal.co s.data.toList i) n
  obtain ⟨T, hT⟩ : ∃ T, ByteArray.mk (Gal.coefs (fun i => if i = j then BitVec.ofNat 8 (c ^^^ 2 ^ d) else Gal.co s.data.toList i) n).toArray = T := ⟨_, rfl⟩
  rw [hT] at cv sT
  have CV := Lib.hid cv
  have ST := Lib.hid sT
  have BB := Lib.hid (show Below w.heap.size w ((v.setCell ⟨w.heap.size, j, none⟩ (.int .u8 (bits .xor .u8 (c : Int) (2 ^ d % 256)))).drew) from (B1.out.setCell (p := ⟨w.heap.size, j, none⟩) (Nat.le_refl _) _).drew)
  clear cv sT hT hcap hv hkk c1 H1 H2 ne hc hd hj' hr x1 x2 X1
  go_enter Try.func20, Try.ntmps20
  go_wp2_with (simp only [C1.out])
  (with_reducible refine (PK.out _).mono ?_)
  rintro e w' ⟨rfl, rfl⟩
  go_wp2_with fail
  go_still_tail 13, (by kernel_rfl)
  go_wp2_with (simp only [CV.out])
  go_ret
  exact ⟨⟨_, rfl, ST.out⟩, BB.out⟩
end Go.Proofs.Ytgfihljledmaaaa
