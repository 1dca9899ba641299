/- The contracts of perigeeref06's Bits and Encode over this program. -/
import Derived.Test.YtgfihljledmaaaaCvStep
import Derived.Test.YtgfihljledmaaaaAppKit
namespace Go.Proofs.Ytgfihljledmaaaa
open Go.RowKit
set_option linter.unusedVariables false

theorem mb_at (f : Nat → BitVec 8) (n i j : Nat) (hi : i < n) (hj : j < 8) : Cv.mb f n (8 * i + j) = Cv.bit (f i) j := by
  unfold Cv.mb
  rw [if_pos (by omega), show (8 * i + j) / 8 = i by omega, show (8 * i + j) % 8 = j by omega]
theorem mb_tail (f : Nat → BitVec 8) (n i : Nat) (h : 8 * n ≤ i) : Cv.mb f n i = 0 := by
  unfold Cv.mb
  rw [if_neg (by omega)]
/-- What the walk sees of one bit of a byte. -/
theorem bit_parts (x : BitVec 8) (j : Nat) : ∃ q : Nat, x.toNat / 2 ^ (7 - j) = q ∧ q < 256 ∧ q % 2 = Cv.bit x j :=
  ⟨_, rfl, Nat.lt_of_le_of_lt (Nat.div_le_self _ _) x.isLt, rfl⟩
theorem div_cast (c d q : Nat) (h : c / 2 ^ d = q) : (c : Int) / 2 ^ d = (q : Int) := by
  rw [← h, Int.natCast_ediv]
  simp
set_option maxRecDepth 100000 in
set_option maxHeartbeats 1000000 in
theorem bits_any (s : ByteArray) (n : Nat) (hn : s.size = n) (h1 : n ≤ 1100) (w : World) :
    Calls Try.prog 32 #[.string s] w fun e w' => (∃ a cap, e = .returned (.slice a (8 * n + 6) cap) ∧ ReadsK .i64 w' a (8 * n + 6) (Cv.mb (Gal.co s.data.toList) n)) ∧ Below w.heap.size w w' := by
  have HN := Lib.hid hn
  have BY := Lib.hid (fun i h => byte_co s i h)
  have MA := Lib.hid (fun i j hi hj => mb_at (Gal.co s.data.toList) n i j hi hj)
  have MT := Lib.hid (fun i hi => mb_tail (Gal.co s.data.toList) n i hi)
  have BP := Lib.hid (fun i j => bit_parts (Gal.co s.data.toList i) j)
  obtain ⟨g, hg⟩ : ∃ g, Cv.mb (Gal.co s.data.toList) n = g := ⟨_, rfl⟩
  rw [hg] at MA MT ⊢
  clear hg
  go_enter Try.func32, Try.ntmps32
  go_wp2_with fail
  clear hn
  go_loopw [3, 4] (fun o x wr => ∃ i : Nat, i ≤ n ∧ x = .int .i64 (i : Nat) ∧ wr.ownsRow w.heap.size 3 1 o (8 * i) (nlist .i64 g (8 * i)) ∧ Below w.heap.size w wr) (fun _ x _ => n - (intOf x).toNat)
  case atStart => exact ⟨0, Nat.zero_le _, rfl, World.ownsRow_nil _ _ _ _, Below.refl _ _⟩
  case round =>
    obtain ⟨i, hi, rfl, hown, hB⟩ := hrel
    have HO := Lib.hid hown
    have HB := Lib.hid hB
    clear hown hB
    by_cases hlt : i < n
    · have is : i < s.size := by rw [HN.out]; exact hlt
      have bi := BY.out i is
      obtain ⟨c, hc⟩ : ∃ c, (Gal.co s.data.toList i).toNat = c := ⟨_, rfl⟩
      have HC := Lib.hid hc
      rw [hc] at bi
      have c256 : c < 256 := by rw [← hc]; exact (Gal.co s.data.toList i).isLt
      have l1 : decide ((i : Int) < (n : Int)) = true := by simp; omega
      clear hc
      go_wp2_with fail
      go_loopw [3, 5] (fun o x wr => ∃ j : Nat, j ≤ 8 ∧ x = .int .i64 ((7 : Int) - (j : Int)) ∧ wr.ownsRow w.heap.size 3 1 o (8 * i + j) (nlist .i64 g (8 * i + j)) ∧ Below w.heap.size w wr) (fun o _ _ => 8 * i + 8 - slen o)
      case atStart => exact ⟨0, Nat.zero_le _, rfl, HO.out, HB.out⟩
      case round =>
        obtain ⟨j, hj, rfl, hown, hB⟩ := hrel
        have GO := Lib.hid hown
        have SL := Lib.hid (own_slen hown)
        by_cases hlj : j < 8
        · obtain ⟨d, hd⟩ : ∃ d, 7 - j = d := ⟨_, rfl⟩
          rw [show (7 : Int) - (j : Int) = (d : Int) by omega]
          obtain ⟨q, hq, q256, hqu⟩ := BP.out i j
          rw [hd, HC.out] at hq
          have sh := div_cast c d q hq
          have ma := MA.out i j hlt hlj
          rw [← hqu] at ma
          obtain ⟨u, hu⟩ : ∃ u, q % 2 = u := ⟨_, rfl⟩
          rw [hu] at ma
          have r1 : (q : Int) % 2 = (u : Int) := by omega
          have u2 : u < 2 := by omega
          have d8 : d < 8 := by omega
          have ns := nlist_succ .i64 g (8 * i + j)
          rw [ma] at ns
          have NS := Lib.hid ns
          have HK := Lib.hid (show (d : Int) - 1 = 7 - ((j + 1 : Nat) : Int) by omega)
          have d0 : decide ((0 : Int) ≤ (d : Int)) = true := by simp
          obtain ⟨i0, hi0, hz0, hz1, hz2⟩ := info_parts info_i64
          have B1 := Lib.hid (hB.alloc hB.size (.cells #[.int .i64 (u : Nat)] 3))
          clear hown hB HO HB hd hq hqu hu ma ns BP MA MT BY
          go_wp2_with (at_builtin; refine wpList_append_own _ rfl _ _ 22 rfl w.heap.size 3 i0 (.int .i64 0) 1 8 Try.underlying22 hi0 hz0 hz1 hz2 rfl (by decide) _ _ _ rfl (GO.out.alloc _) ⟨wr.heap.size, 0, none⟩ 1 1 [.int .i64 (u : Nat)] rfl rfl cell_one (by simp [Value.oneCell']) (by unfold maxLen; omega) (by omega) (by have := B1.out.size; simp at this ⊢; omega) ?_; intro v' w2 hown2 hgrow _; obtain ⟨g', cap', rfl⟩ := ownsRow_succ hown2; have HO2 := Lib.hid hown2; have BW2 := Lib.hid (B1.out.grown hgrow B1.out.size (fun k e => own_block_ge GO.out e)); clear hown2 hgrow)
          go_roundw
          case rel => exact ⟨j + 1, by omega, by rw [HK.out], by rw [show 8 * i + (j + 1) = 8 * i + j + 1 by omega, NS.out]; exact HO2.out, BW2.out⟩
          case measure => rw [SL.out]; simp [slen]; omega
        · have j8 : j = 8 := by omega
          have d0 : decide ((0 : Int) ≤ (7 : Int) - (j : Int)) = false := by simp; omega
          have GO2 := Lib.hid (show wr.ownsRow w.heap.size 3 1 _ (8 * (i + 1)) (nlist .i64 g (8 * (i + 1))) by rw [show 8 * (i + 1) = 8 * i + j by omega]; exact GO.out)
          have GB := Lib.hid hB
          clear hown hB HO HB GO j8 BP MA MT BY
          go_wp2_with fail
          go_roundw
          case rel => exact ⟨i + 1, by omega, by go_num, GO2.out, GB.out⟩
          case measure => simp [intOf]; omega
    · have l1 : decide ((i : Int) < (n : Int)) = false := by simp; omega
      have HI := Lib.hid (show i = n by omega)
      have sn := HN.out
      have NS := Lib.hid (show nlist .i64 g (8 * i + 6) = nlist .i64 g (8 * i) ++ [.int .i64 0, .int .i64 0, .int .i64 0, .int .i64 0, .int .i64 0, .int .i64 0] by
        rw [nlist_succ, nlist_succ, nlist_succ, nlist_succ, nlist_succ, nlist_succ, MT.out _ (by have := HI.out; omega), MT.out _ (by have := HI.out; omega), MT.out _ (by have := HI.out; omega), MT.out _ (by have := HI.out; omega), MT.out _ (by have := HI.out; omega), MT.out _ (by have := HI.out; omega)]
        simp)
      obtain ⟨i0, hi0, hz0, hz1, hz2⟩ := info_parts info_i64
      have B1 := Lib.hid (HB.out.alloc HB.out.size (.cells #[.int .i64 0, .int .i64 0, .int .i64 0, .int .i64 0, .int .i64 0, .int .i64 0] 3))
      clear BP MA MT BY
      go_wp2_with (at_builtin; refine wpList_append_own _ rfl _ _ 22 rfl w.heap.size 3 i0 (.int .i64 0) 1 8 Try.underlying22 hi0 hz0 hz1 hz2 rfl (by decide) _ _ _ rfl (HO.out.alloc _) ⟨wr.heap.size, 0, none⟩ 6 6 [.int .i64 0, .int .i64 0, .int .i64 0, .int .i64 0, .int .i64 0, .int .i64 0] rfl rfl cells_new (by simp [Value.oneCell']) (by unfold maxLen; omega) (by omega) (by have := B1.out.size; simp at this ⊢; omega) ?_; intro v' w2 hown2 hgrow _; have HO2 := Lib.hid hown2; have BW2 := Lib.hid (B1.out.grown hgrow B1.out.size (fun k e => own_block_ge HO.out e)); clear hown2 hgrow)
      go_ret
      have H6 : w2.ownsRow w.heap.size 3 1 v' (8 * i + 6) (nlist .i64 g (8 * i + 6)) := by rw [NS.out]; exact HO2.out
      obtain ⟨a, cap, rfl, hr⟩ := readsK_own (by omega) H6
      rw [HI.out] at hr
      exact ⟨⟨a, cap, by rw [HI.out]; rfl, hr⟩, BW2.out⟩
/-- The symbols as bytes. -/
def symB (g : Nat → Nat) (i : Nat) : BitVec 8 := BitVec.ofNat 8 (Cv.sym g i)
theorem symB_nat (g : Nat → Nat) (i : Nat) : (symB g i).toNat = Cv.sym g i := by
  have := Cv.sym_lt g i
  unfold symB
  rw [BitVec.toNat_ofNat]
  omega
theorem vals_two (g : Nat → Nat) (k : Nat) : vals (symB g) (2 * (k + 1)) = vals (symB g) (2 * k) ++ [.int .u8 (Cv.s1 (Cv.stt g k) (g k) : Nat), .int .u8 (Cv.s2 (Cv.stt g k) (g k) : Nat)] := by
  rw [show 2 * (k + 1) = 2 * k + 1 + 1 by omega, vals_succ, vals_succ, symB_nat, symB_nat, Cv.sym_even, Cv.sym_odd]
  simp
/-- What Encode returns of n bytes. -/
def encS (s : ByteArray) (n : Nat) : ByteArray := ⟨(Gal.coefs (symB (Cv.mb (Gal.co s.data.toList) n)) (16 * n + 12)).toArray⟩
theorem rencode_long (s : ByteArray) (n : Nat) (hn : s.size = n) (h1 : 1100 < n) (w : World) :
    Calls Try.prog 21 #[.string s] w fun e w' => e = .returned (.tuple #[.string ⟨#[]⟩, .int .i64 3]) ∧ w = w' := by
  have l1 : decide ((1100 : Int) < (n : Int)) = true := by simp; omega
  go_enter Try.func21, Try.ntmps21
  go_wp2_with fail
  go_ret2
  exact ⟨rfl, rfl⟩
set_option maxRecDepth 100000 in
set_option maxHeartbeats 1000000 in
theorem rencode_any (s : ByteArray) (n : Nat) (hn : s.size = n) (h1 : n ≤ 1100) (w : World) :
    Calls Try.prog 21 #[.string s] w fun e w' => e = .returned (.tuple #[.string (encS s n), .int .i64 0]) ∧ Below w.heap.size w w' := by
  have BI := Lib.hid (fun w => bits_any s n hn h1 w)
  have HV := Lib.hid (show encS s n = ⟨(Gal.coefs (symB (Cv.mb (Gal.co s.data.toList) n)) (16 * n + 12)).toArray⟩ from rfl)
  have GL := Lib.hid (fun i => Cv.mb_lt (Gal.co s.data.toList) n i)
  obtain ⟨g, hg⟩ : ∃ g, Cv.mb (Gal.co s.data.toList) n = g := ⟨_, rfl⟩
  rw [hg] at BI HV GL
  have ST := Lib.hid (fun k w => rstep_in (Cv.stt g k) (g k) (Cv.stt_lt GL.out k) (GL.out k) w)
  have l1 : decide ((1100 : Int) < (n : Int)) = false := by simp; omega
  obtain ⟨N, hN⟩ : ∃ N, 8 * n + 6 = N := ⟨_, rfl⟩
  rw [hN] at BI
  have HN := Lib.hid hN
  have N2 : N ≤ 8806 := by omega
  clear hg hN
  go_enter Try.func21, Try.ntmps21
  go_wp2_with fail
  (with_reducible refine (BI.out _).mono ?_)
  rintro e w1 ⟨⟨a, cap, rfl, b, rfl, hb, hr⟩, h1'⟩
  have HR := Lib.hid hr
  have B1 := Lib.hid h1'
  clear hr h1' BI hn
  go_wp2_with fail
  go_loopw [4, 5, 7] (fun o x y wr => ∃ k : Nat, k ≤ N ∧ y = .int .i64 (k : Nat) ∧ x = .int .i64 (Cv.stt g k : Nat) ∧ wr.ownsRow w1.heap.size 5 1 o (2 * k) (vals (symB g) (2 * k)) ∧ Below w1.heap.size w1 wr) (fun _ _ y _ => N - (intOf y).toNat)
  case atStart => exact ⟨0, Nat.zero_le _, rfl, rfl, World.ownsRow_nil _ _ _ _, Below.refl _ _⟩
  case round =>
    obtain ⟨k, hk, rfl, rfl, hown, hB⟩ := hrel
    have HO := Lib.hid hown
    have HB := Lib.hid hB
    clear hown hB
    by_cases hlt : k < N
    · have l2 : decide ((k : Int) < (N : Int)) = true := by simp; omega
      have cl := (HB.out.cell (p := ⟨b, k, none⟩) hb).trans (HR.out k hlt)
      have S1 := Lib.hid (ST.out k)
      unfold tupV stepV at S1
      have ns := vals_two g k
      have hx2 := Cv.s1_lt (Cv.stt g k) (g k)
      have hy2 := Cv.s2_lt (Cv.stt g k) (g k)
      have HZ : Cv.nx (Cv.stt g k) (g k) = Cv.stt g (k + 1) := rfl
      obtain ⟨x, hx⟩ : ∃ x, Cv.s1 (Cv.stt g k) (g k) = x := ⟨_, rfl⟩
      obtain ⟨y, hy⟩ : ∃ x, Cv.s2 (Cv.stt g k) (g k) = x := ⟨_, rfl⟩
      obtain ⟨z, hz⟩ : ∃ x, Cv.nx (Cv.stt g k) (g k) = x := ⟨_, rfl⟩
      rw [hx, hy, hz] at S1
      rw [hx, hy] at ns
      rw [hx] at hx2
      rw [hy] at hy2
      rw [hz] at HZ
      have HZ2 := Lib.hid HZ
      obtain ⟨u, hu⟩ : ∃ x, g k = x := ⟨_, rfl⟩
      obtain ⟨v, hv⟩ : ∃ x, Cv.stt g k = x := ⟨_, rfl⟩
      rw [hu] at cl S1
      rw [hv] at S1 ⊢
      have NS := Lib.hid ns
      obtain ⟨i0, hi0, hz0, hz1, hz2⟩ := info_parts info_u8
      clear ns hx hy hz hu hv HZ ST
      go_wp2_with fail
      (with_reducible refine (S1.out _).mono ?_)
      rintro e w2 ⟨rfl, h2⟩
      have HO2 := Lib.hid (own_below HO.out h2)
      have HB2 := Lib.hid (bt HB.out h2)
      have B3 := Lib.hid (HB2.out.alloc HB2.out.size (.cells #[.int .u8 (x : Nat), .int .u8 (y : Nat)] 5))
      clear h2 HO HB
      go_wp2_with (at_builtin; refine wpList_append_own _ rfl _ _ 37 rfl w1.heap.size 5 i0 (.int .u8 0) 1 1 Try.underlying37 hi0 hz0 hz1 hz2 rfl (by decide) _ _ _ rfl (HO2.out.alloc _) ⟨w2.heap.size, 0, none⟩ 2 2 [.int .u8 (x : Nat), .int .u8 (y : Nat)] rfl rfl cells_new (by simp [Value.oneCell']) (by unfold maxLen; omega) (by omega) (by have := B3.out.size; simp at this ⊢; omega) ?_; intro v' w3 hown3 hgrow _; obtain ⟨g', cap', rfl⟩ := ownsRow_succ hown3; have HO3 := Lib.hid hown3; have BW3 := Lib.hid (B3.out.grown hgrow B3.out.size (fun k e => own_block_ge HO2.out e)); clear hown3 hgrow)
      go_roundw
      case rel => exact ⟨k + 1, by omega, by go_num, by rw [HZ2.out], by rw [NS.out]; exact HO3.out, BW3.out⟩
      case measure => simp [intOf]; omega
    · have l2 : decide ((k : Int) < (N : Int)) = false := by simp; omega
      have HI := Lib.hid (show k = N by omega)
      have cv := own_back HO.out
      have CV := Lib.hid cv
      have BF := Lib.hid (bt B1.out HB.out)
      have HE := Lib.hid (show (⟨(Gal.coefs (symB g) (2 * k)).toArray⟩ : ByteArray) = encS s n by rw [HV.out, HI.out, ← HN.out, show 2 * (8 * n + 6) = 16 * n + 12 by omega])
      rw [HE.out] at CV
      clear cv HO HB B1 ST
      go_wp2_with (simp only [CV.out])
      go_ret2
      exact ⟨rfl, BF.out⟩
end Go.Proofs.Ytgfihljledmaaaa
