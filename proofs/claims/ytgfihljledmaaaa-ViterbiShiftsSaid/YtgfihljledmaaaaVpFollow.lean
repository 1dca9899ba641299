/- The contract of viterbi's follow over this program. -/
import Derived.Test.YtgfihljledmaaaaVpSearch
namespace Go.Proofs.Ytgfihljledmaaaa
open Go.RowKit
set_option linter.unusedVariables false

/-- The byte p behind i bits. -/
def dK (g : Nat → Nat) (i p : Nat) : Nat := Vit.ac g p (min 8 (i - 8 * p))
theorem or_bit : ∀ x, x < 128 → ∀ b, b < 2 → 2 * x ||| b = 2 * x + b := by decide +kernel
theorem u8_or (a b : Nat) (ha : a < 256) (hb : b < 256) : bits .or .u8 (a : Int) (b : Int) = ((a ||| b : Nat) : Int) := by
  have l : a ||| b < 256 := Nat.or_lt_two_pow (n := 8) ha hb
  show IntKind.u8.wrap ((BitVec.ofInt 8 (a : Int) ||| BitVec.ofInt 8 (b : Int)).toNat : Int) = _
  rw [BitVec.toNat_or, BitVec.toNat_ofInt, BitVec.toNat_ofInt, IntKind.wrap_u8]
  rw [show ((a : Int) % ((2 ^ 8 : Nat) : Int)).toNat = a by omega, show ((b : Int) % ((2 ^ 8 : Nat) : Int)).toNat = b by omega]
  omega
theorem dK_zero (g : Nat → Nat) (p : Nat) : dK g 0 p = 0 := by
  unfold dK
  rw [show min 8 (0 - 8 * p) = 0 by omega]
  rfl
theorem dK_next (g : Nat → Nat) (i p : Nat) (hp : p = i / 8) : dK g (i + 1) p = 2 * dK g i p + g i := by
  unfold dK
  rw [show min 8 (i + 1 - 8 * p) = (i - 8 * p) + 1 by omega, show min 8 (i - 8 * p) = i - 8 * p by omega]
  show 2 * _ + g (8 * p + (i - 8 * p)) = _
  rw [show 8 * p + (i - 8 * p) = i by omega]
theorem dK_same (g : Nat → Nat) (i q : Nat) (hq : q ≠ i / 8) : dK g (i + 1) q = dK g i q := by
  unfold dK
  congr 1
  omega
theorem dK_lt {g : Nat → Nat} (hg : ∀ i, g i < 2) (i p : Nat) (hp : p = i / 8) : dK g i p < 128 := by
  unfold dK
  have := Vit.ac_lt hg p (min 8 (i - 8 * p))
  have := Nat.pow_le_pow_right (n := 2) (by omega) (show min 8 (i - 8 * p) ≤ 7 by omega)
  omega
set_option maxRecDepth 100000 in
set_option maxHeartbeats 1000000 in
theorem follow_any (E n : Nat) (g st : Nat → Nat) (hn : n ≤ 1100) (hg : ∀ i, g i < 2) (hst : ∀ i, st i < 64) (h0 : st 0 = 0) (hs : ∀ i, st (i + 1) = Cv.nx (st i) (g i)) (w : World) (lE : E < w.heap.size)
    (hE : ∀ i, i < 8 * n → w.cell? ⟨E, i * 64 + st i, none⟩ = some (.int .u8 (g i : Nat))) :
    Calls Try.prog 25 #[.slice (some ⟨E, 0, none⟩) (8 * n) (8 * n), .int .i64 (n : Nat)] w fun e w' => e = .returned (.string ⟨(Gal.coefs (Vit.byt g) n).toArray⟩) ∧ Below w.heap.size w w' := by
  obtain ⟨i0, hi, hz0, hz1, hz2⟩ := info_parts info_u8
  have HG := Lib.hid hg
  have HST := Lib.hid hst
  have HS := Lib.hid hs
  have HE := Lib.hid hE
  have LE := Lib.hid lE
  have H0 := Lib.hid h0
  obtain ⟨M, hM⟩ : ∃ M, 8 * n = M := ⟨_, rfl⟩
  rw [hM] at HE ⊢
  have HM := Lib.hid hM
  have HR := Lib.hid (show (⟨(Gal.coefs (Vit.byt g) n).toArray⟩ : ByteArray) = ⟨(Gal.coefs (Vit.byt g) n).toArray⟩ from rfl)
  obtain ⟨R, hR⟩ : ∃ R, (⟨(Gal.coefs (Vit.byt g) n).toArray⟩ : ByteArray) = R := ⟨_, rfl⟩
  rw [hR] at HR ⊢
  have HRe := Lib.hid hR
  clear hg hst hs hE lE h0 hM hR HR
  go_enter Try.func25, Try.ntmps25
  go_wp2_with (at_make; refine wpList_make_full _ rfl _ _ 37 rfl w.heap.size 5 i0 (.int .u8 0) 1 Try.underlying37 hi hz0 hz1 .i64 .i64 _ _ n rfl rfl (by first | rfl | omega) (by first | rfl | omega) (by rw [hz2]; omega) (by unfold maxLen; omega) (Nat.le_refl _) ?_; intro w2 hown hgrow)
  have N0 := Lib.hid (NumsK.congr (g := dK g 0) (madeNums hown) (fun j _ => (dK_zero g j).symm))
  have B0 := Lib.hid ((Below.refl w.heap.size w).grown hgrow (Nat.le_refl _) (fun k e => by cases e))
  clear hown hgrow hi hz0 hz1 hz2
  go_loopw [6, 13] (fun s x wr => ∃ i : Nat, i ≤ M ∧ x = .int .i64 (i : Nat) ∧ s = .int .i64 (st i : Nat) ∧ NumsK .u8 wr w.heap.size n (dK g i) ∧ Below w.heap.size w wr) (fun _ x _ => M - (intOf x).toNat)
  case atStart => exact ⟨0, Nat.zero_le _, rfl, by rw [H0.out]; rfl, N0.out, B0.out⟩
  case round =>
    obtain ⟨i, hi, rfl, rfl, hN, hB⟩ := hrel
    have HN := Lib.hid hN
    have HB := Lib.hid hB
    clear N0 B0
    by_cases hlt : i < M
    · have t1 : decide ((i : Int) < (M : Int)) = true := by simp; omega
      have cE := (hB.cell (p := ⟨E, i * 64 + st i, none⟩) LE.out).trans (HE.out i hlt)
      obtain ⟨p, hp⟩ : ∃ p, p = i / 8 := ⟨_, rfl⟩
      have pn : p < n := by have := HM.out; omega
      have dp : (i : Int) / 8 = (p : Int) := by omega
      have cN := hN.cell pn
      have fN := hN.frozen pn
      have c128 := dK_lt HG.out i p hp
      have g2 := HG.out i
      have s64 := HST.out i
      have SN := Lib.hid (HS.out i)
      have DN := Lib.hid (dK_next g i p hp)
      have DS := Lib.hid (fun q (hq : q ≠ p) => dK_same g i q (by omega))
      obtain ⟨c, hc⟩ : ∃ c, dK g i p = c := ⟨_, rfl⟩
      obtain ⟨b, hb⟩ : ∃ b, g i = b := ⟨_, rfl⟩
      obtain ⟨s, hs⟩ : ∃ s, st i = s := ⟨_, rfl⟩
      rw [hc] at cN c128 DN
      rw [hb] at cE g2 SN DN
      rw [hs] at cE s64 SN ⊢
      have ST := Lib.hid (fun w => step_in s b s64 g2 w)
      unfold tupV stepV at ST
      obtain ⟨y, hy⟩ : ∃ y, Cv.nx s b = y := ⟨_, rfl⟩
      rw [hy] at ST SN
      have wc : IntKind.u8.wrap ((c : Int) * 2) = ((2 * c : Nat) : Int) := by rw [IntKind.wrap_u8]; omega
      have oc := u8_or (2 * c) b (by omega) (by omega)
      rw [or_bit c c128 b g2] at oc
      obtain ⟨c2, hc2⟩ : ∃ c2, 2 * c = c2 := ⟨_, rfl⟩
      rw [hc2] at wc oc DN
      obtain ⟨r, hr⟩ : ∃ r, c2 + b = r := ⟨_, rfl⟩
      rw [hr] at oc DN
      have k1 : (i : Int) < (M : Int) := by omega
      have k2 : (s : Int) < 64 := by omega
      have k3 : (p : Int) < (n : Int) := by omega
      have k4 : (0 : Int) ≤ (p : Int) := by omega
      have NX := Lib.hid (hN.set p r pn (g := dK g (i + 1)) DN.out (fun q _ hq => DS.out q hq))
      have BX := Lib.hid (hB.setCell (p := ⟨w.heap.size, p, none⟩) (Nat.le_refl _) (.int .u8 (r : Nat)))
      clear hc hb hs hy hc2 hr hN hB HN HB hp
      go_wp2_with fail
      (with_reducible refine (ST.out _).mono ?_)
      rintro e w4 ⟨rfl, B4⟩
      have NY := Lib.hid (NX.out.below B4)
      have BY := Lib.hid (bt BX.out B4)
      clear B4 NX BX
      go_wp2_with fail
      go_roundw
      case rel => exact ⟨i + 1, by omega, by go_num, by rw [SN.out], NY.out, BY.out⟩
      case measure => simp [intOf]; omega
    · obtain rfl : i = M := by omega
      have t1 : decide ((i : Int) < (i : Int)) = false := by simp
      have CV := Lib.hid (nums_back (f := Vit.byt g) n (hN.congr (g := fun j => (Vit.byt g j).toNat) (fun p hp => by
        rw [Vit.byt_nat HG.out]
        unfold dK
        rw [show min 8 (i - 8 * p) = 8 by have := HM.out; omega])))
      rw [HRe.out] at CV
      clear hN hB
      go_wp2_with (simp only [CV.out])
      go_ret
      exact ⟨rfl, HB.out⟩
end Go.Proofs.Ytgfihljledmaaaa
