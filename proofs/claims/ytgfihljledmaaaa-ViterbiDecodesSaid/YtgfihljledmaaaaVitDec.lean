/- Ways as strings of bytes 0 and 1; the contract of perigeeref07's bytes over this program. -/
import Derived.Test.YtgfihljledmaaaaVitRef
namespace Go.Proofs.Ytgfihljledmaaaa
open Go.RowKit
set_option linter.unusedVariables false

namespace Vit
/-- A way as a string. -/
def strB (b : List Cv.Bit) : ByteArray := ⟨(b.map (fun x => UInt8.ofNat x.1)).toArray⟩
theorem strB_list (b : List Cv.Bit) : (strB b).data.toList = b.map (fun x => UInt8.ofNat x.1) := rfl
theorem strB_size (b : List Cv.Bit) : (strB b).size = b.length := by
  show (b.map _).toArray.size = _
  simp
theorem strB_snoc (b : List Cv.Bit) (x : Cv.Bit) : strB b ++ (⟨#[UInt8.ofNat x.1]⟩ : ByteArray) = strB (b ++ [x]) := by
  apply ByteArray.ext
  apply Array.toList_inj.1
  rw [ByteArray.data_append, Array.toList_append]
  show b.map _ ++ [UInt8.ofNat x.1] = (b ++ [x]).map _
  simp
theorem ofNat_bit (x : Cv.Bit) : (UInt8.ofNat x.1).toNat = x.1 := by
  have := x.2
  rw [UInt8.toNat_ofNat_of_lt' (by show x.1 < 256; omega)]
theorem strB_co (b : List Cv.Bit) (i : Nat) (h : i < b.length) : (Gal.co (strB b).data.toList i).toNat = Cv.gl b i := by
  rw [Gal.co_nat, strB_list]
  unfold Cv.gl
  rw [List.getD_eq_getElem?_getD, List.getD_eq_getElem?_getD, List.getElem?_map, List.getElem?_eq_getElem h]
  exact ofNat_bit _
/-- Bytes as a number of base B. -/
def nb (B : Nat) (l : List UInt8) : Nat := l.foldl (fun a x => B * a + x.toNat) 0
theorem fold_add (B : Nat) : ∀ (l : List UInt8) (a : Nat), l.foldl (fun a x => B * a + x.toNat) a = a * B ^ l.length + nb B l
  | [], a => by simp [nb]
  | x :: l, a => by
    unfold nb
    rw [List.foldl_cons, List.foldl_cons, fold_add B l, fold_add B l, List.length_cons, Nat.pow_succ]
    have e1 : (B * a + x.toNat) * B ^ l.length = a * (B ^ l.length * B) + x.toNat * B ^ l.length := by
      rw [Nat.add_mul, Nat.mul_comm B a, Nat.mul_assoc, Nat.mul_comm B]
    rw [e1, Nat.mul_zero, Nat.zero_add]
    omega
theorem nb_cons (B : Nat) (x : UInt8) (l : List UInt8) : nb B (x :: l) = x.toNat * B ^ l.length + nb B l := by
  have := fold_add B l (B * 0 + x.toNat)
  unfold nb at this ⊢
  rw [List.foldl_cons, this]
  simp
theorem nb_lt (B : Nat) (hB : 0 < B) : ∀ l : List UInt8, (∀ x ∈ l, x.toNat < B) → nb B l < B ^ l.length
  | [], _ => by simp [nb]
  | x :: l, h => by
    rw [nb_cons, List.length_cons, Nat.pow_succ]
    have ih := nb_lt B hB l (fun y hy => h y (by simp [hy]))
    have hx : x.toNat < B := h x (by simp)
    have : (x.toNat + 1) * B ^ l.length ≤ B * B ^ l.length := Nat.mul_le_mul_right _ hx
    rw [Nat.add_mul, Nat.one_mul] at this
    rw [Nat.mul_comm (B ^ l.length) B]
    omega
/-- Strings of one length compare as numbers. -/
theorem less_nb (B : Nat) (hB : 0 < B) : ∀ (l m : List UInt8), l.length = m.length → (∀ x ∈ l, x.toNat < B) → (∀ x ∈ m, x.toNat < B) → Op.bytesLess l m = decide (nb B l < nb B m)
  | [], [], _, _, _ => by simp [Op.bytesLess]
  | [], _ :: _, h, _, _ => by simp at h
  | _ :: _, [], h, _, _ => by simp at h
  | a :: x, b :: y, h, h1, h2 => by
    have hl : x.length = y.length := by simpa using h
    have ih := less_nb B hB x y hl (fun z hz => h1 z (by simp [hz])) (fun z hz => h2 z (by simp [hz]))
    have bx := nb_lt B hB x (fun z hz => h1 z (by simp [hz]))
    have by' := nb_lt B hB y (fun z hz => h2 z (by simp [hz]))
    rw [nb_cons, nb_cons, hl]
    rw [hl] at bx
    show (decide (a < b) || (a == b && Op.bytesLess x y)) = _
    rw [ih]
    generalize B ^ y.length = p at *
    by_cases e1 : a < b
    · have q : a.toNat + 1 ≤ b.toNat := e1
      have : (a.toNat + 1) * p ≤ b.toNat * p := Nat.mul_le_mul_right _ q
      rw [Nat.add_mul, Nat.one_mul] at this
      rw [decide_eq_true e1, Bool.true_or, decide_eq_true (by omega)]
    · by_cases e2 : a = b
      · subst e2
        simp [e1]
      · have q : b.toNat + 1 ≤ a.toNat := by
          have n1 : ¬ a.toNat < b.toNat := e1
          have n2 : a.toNat ≠ b.toNat := fun h => e2 (UInt8.toNat_inj.1 h)
          omega
        have : (b.toNat + 1) * p ≤ a.toNat * p := Nat.mul_le_mul_right _ q
        rw [Nat.add_mul, Nat.one_mul] at this
        have hb : (a == b) = false := by simpa using e2
        rw [decide_eq_false e1, Bool.false_or, hb, Bool.false_and]
        exact (decide_eq_false (by omega)).symm
theorem nb_snoc (B : Nat) (l : List UInt8) (x : UInt8) : nb B (l ++ [x]) = B * nb B l + x.toNat := by
  unfold nb
  rw [List.foldl_append]
  rfl
theorem nb_val (b : List Cv.Bit) : nb 2 (strB b).data.toList = val b := by
  obtain ⟨k, hk⟩ : ∃ k, b.length = k := ⟨_, rfl⟩
  induction k generalizing b with
  | zero =>
    have : b = [] := List.length_eq_zero_iff.1 hk
    subst this
    rfl
  | succ k ih =>
    obtain ⟨b0, x, rfl, h0⟩ := snoc_last b hk
    rw [val_snoc, strB_list, List.map_append]
    show nb 2 (b0.map _ ++ [UInt8.ofNat x.1]) = _
    rw [nb_snoc, ← strB_list, ih b0 h0, ofNat_bit]
theorem strB_small (b : List Cv.Bit) : ∀ x ∈ (strB b).data.toList, x.toNat < 2 := by
  intro x hx
  rw [strB_list] at hx
  obtain ⟨y, _, rfl⟩ := List.mem_map.1 hx
  rw [ofNat_bit]
  exact y.2
theorem less_ways (b c : List Cv.Bit) (h : b.length = c.length) : Op.bytesLess (strB b).toList (strB c).toList = decide (val b < val c) := by
  rw [ByteArray.toList_eq, ByteArray.toList_eq, less_nb 2 (by omega) _ _ (by rw [strB_list, strB_list]; simpa using h) (strB_small b) (strB_small c), nb_val, nb_val]
/-- The first k of eight bits from the place 8 p on. -/
def ac (g : Nat → Nat) (p : Nat) : Nat → Nat
  | 0 => 0
  | k + 1 => 2 * ac g p k + g (8 * p + k)
theorem ac_lt {g : Nat → Nat} (hg : ∀ i, g i < 2) (p : Nat) : ∀ k, ac g p k < 2 ^ k
  | 0 => by simp [ac]
  | k + 1 => by
    have := ac_lt hg p k
    have := hg (8 * p + k)
    show 2 * ac g p k + g (8 * p + k) < _
    rw [Nat.pow_succ]
    omega
/-- The bytes of bits. -/
def byt (g : Nat → Nat) (p : Nat) : BitVec 8 := BitVec.ofNat 8 (ac g p 8)
theorem byt_nat {g : Nat → Nat} (hg : ∀ i, g i < 2) (p : Nat) : (byt g p).toNat = ac g p 8 := by
  have := ac_lt hg p 8
  unfold byt
  rw [BitVec.toNat_ofNat]
  omega
theorem byt_bit {g : Nat → Nat} (hg : ∀ i, g i < 2) (p k : Nat) (hk : k < 8) : Cv.bit (byt g p) k = g (8 * p + k) := by
  unfold Cv.bit
  rw [byt_nat hg]
  show (2 * (2 * (2 * (2 * (2 * (2 * (2 * (2 * 0 + g (8 * p + 0)) + g (8 * p + 1)) + g (8 * p + 2)) + g (8 * p + 3)) + g (8 * p + 4)) + g (8 * p + 5)) + g (8 * p + 6)) + g (8 * p + 7)) / _ % 2 = _
  have h0 := hg (8 * p + 0)
  have h1 := hg (8 * p + 1)
  have h2 := hg (8 * p + 2)
  have h3 := hg (8 * p + 3)
  have h4 := hg (8 * p + 4)
  have h5 := hg (8 * p + 5)
  have h6 := hg (8 * p + 6)
  have h7 := hg (8 * p + 7)
  match k, hk with
  | 0, _ =>
    rw [show 2 ^ (7 - 0) = 128 from rfl]
    omega
  | 1, _ =>
    rw [show 2 ^ (7 - 1) = 64 from rfl]
    omega
  | 2, _ =>
    rw [show 2 ^ (7 - 2) = 32 from rfl]
    omega
  | 3, _ =>
    rw [show 2 ^ (7 - 3) = 16 from rfl]
    omega
  | 4, _ =>
    rw [show 2 ^ (7 - 4) = 8 from rfl]
    omega
  | 5, _ =>
    rw [show 2 ^ (7 - 5) = 4 from rfl]
    omega
  | 6, _ =>
    rw [show 2 ^ (7 - 6) = 2 from rfl]
    omega
  | 7, _ =>
    rw [show 2 ^ (7 - 7) = 1 from rfl]
    omega
theorem byt_mb {g : Nat → Nat} (hg : ∀ i, g i < 2) (n i : Nat) (h : i < 8 * n) : Cv.mb (byt g) n i = g i := by
  rw [show i = 8 * (i / 8) + i % 8 by omega, mb_bit _ _ _ _ (by omega) (by omega), byt_bit hg _ _ (by omega)]
end Vit
set_option maxRecDepth 100000 in
set_option maxHeartbeats 1000000 in
theorem rbytes_any (s : ByteArray) (N n : Nat) (g : Nat → Nat) (hN : s.size = N) (h1 : 8 * n ≤ N) (h2 : n ≤ 1100) (hg : ∀ i, g i < 2) (hs : ∀ i, i < 8 * n → (Gal.co s.data.toList i).toNat = g i) (w : World) :
    Calls Try.prog 29 #[.string s, .int .i64 (n : Nat)] w fun e w' => e = .returned (.string ⟨(Gal.coefs (Vit.byt g) n).toArray⟩) ∧ Below w.heap.size w w' := by
  have HN := Lib.hid hN
  have BY := Lib.hid (fun i h => byte_co s i h)
  have HS := Lib.hid hs
  have HG := Lib.hid hg
  have AL := Lib.hid (fun p k => Vit.ac_lt hg p k)
  have BN := Lib.hid (fun p => Vit.byt_nat hg p)
  clear hs hg hN
  go_enter Try.func29, Try.ntmps29
  go_wp2_with fail
  go_loopw [5, 6] (fun o x wr => ∃ p : Nat, p ≤ n ∧ x = .int .i64 (p : Nat) ∧ wr.ownsRow w.heap.size 5 1 o p (vals (Vit.byt g) p) ∧ Below w.heap.size w wr) (fun _ x _ => n - (intOf x).toNat)
  case atStart => exact ⟨0, Nat.zero_le _, rfl, World.ownsRow_nil _ _ _ _, Below.refl _ _⟩
  case round =>
    obtain ⟨p, hp, rfl, hown, hB⟩ := hrel
    have HO := Lib.hid hown
    have HB := Lib.hid hB
    clear hown hB
    by_cases hlt : p < n
    · have t1 : decide ((p : Int) < (n : Int)) = true := by simp; omega
      go_wp2_with fail
      go_loop [7, 8] (fun c x => ∃ k : Nat, k ≤ 8 ∧ x = .int .i64 (k : Nat) ∧ c = .int .u8 (Vit.ac g p k : Nat)) (fun _ x => 8 - (intOf x).toNat)
      case atStart => exact ⟨0, Nat.zero_le _, rfl, rfl⟩
      case round =>
        obtain ⟨k, hk, rfl, rfl⟩ := hrel
        by_cases hlk : k < 8
        · have t2 : decide ((k : Int) < 8) = true := by simp; omega
          have al := AL.out p (k + 1)
          have p256 : 2 ^ (k + 1) ≤ 256 := by
            have := Nat.pow_le_pow_right (n := 2) (by omega) (show k + 1 ≤ 8 by omega)
            simpa using this
          have SE := Lib.hid (show Vit.ac g p (k + 1) = 2 * Vit.ac g p k + g (8 * p + k) from rfl)
          rw [SE.out] at al
          obtain ⟨q, hq⟩ : ∃ q, 8 * p + k = q := ⟨_, rfl⟩
          have hqi : 8 * (p : Int) + (k : Int) = (q : Int) := by omega
          have is : q < s.size := by rw [HN.out]; omega
          have bi := BY.out q is
          rw [HS.out q (by omega)] at bi
          have g2 := HG.out q
          rw [hq] at SE al
          obtain ⟨x, hx⟩ : ∃ x, g q = x := ⟨_, rfl⟩
          obtain ⟨c, hc⟩ : ∃ c, Vit.ac g p k = c := ⟨_, rfl⟩
          rw [hx] at SE al bi g2
          rw [hc] at SE al ⊢
          have c128 : c < 128 := by omega
          have HC2 := Lib.hid (show ((Vit.ac g p (k + 1) : Nat) : Int) = (c : Int) * 2 + (x : Int) by rw [SE.out]; omega)
          have q1 : q ≤ 8800 := by omega
          clear hx hc hq al p256 AL BN HS HG BY SE
          go_wp2_with fail
          go_round
          case rel => exact ⟨k + 1, by omega, by go_num, by rw [HC2.out]⟩
          case measure => simp [intOf]; omega
        · have t2 : decide ((k : Int) < 8) = false := by simp; omega
          have k8 : Vit.ac g p k = (Vit.byt g p).toNat := by rw [BN.out, show k = 8 by omega]
          have al := (Vit.byt g p).isLt
          have ns := vals_succ (Vit.byt g) p
          obtain ⟨u, hu⟩ : ∃ u, (Vit.byt g p).toNat = u := ⟨_, rfl⟩
          rw [hu] at ns k8 al
          rw [k8]
          have NS := Lib.hid ns
          obtain ⟨i0, hi0, hz0, hz1, hz2⟩ := info_parts info_u8
          have B1 := Lib.hid (HB.out.alloc HB.out.size (.cells #[.int .u8 (u : Nat)] 5))
          clear hu k8 ns AL BN HS HG BY
          go_wp2_with (at_builtin; refine wpList_append_own _ rfl _ _ 37 rfl w.heap.size 5 i0 (.int .u8 0) 1 1 Try.underlying37 hi0 hz0 hz1 hz2 rfl (by decide) _ _ _ rfl (HO.out.alloc _) ⟨wr.heap.size, 0, none⟩ 1 1 [.int .u8 (u : Nat)] rfl rfl cell_one (by simp [Value.oneCell']) (by unfold maxLen; omega) (by omega) (by have := B1.out.size; simp at this ⊢; omega) ?_; intro v' w2 hown2 hgrow _; obtain ⟨g', cap', rfl⟩ := ownsRow_succ hown2; have HO2 := Lib.hid hown2; have BW2 := Lib.hid (B1.out.grown hgrow B1.out.size (fun k e => own_block_ge HO.out e)); clear hown2 hgrow)
          go_roundw
          case rel => exact ⟨p + 1, by omega, by go_num, by rw [NS.out]; exact HO2.out, BW2.out⟩
          case measure => simp [intOf]; omega
    · have t1 : decide ((p : Int) < (n : Int)) = false := by simp; omega
      have HI := Lib.hid (show p = n by omega)
      have cv := own_back HO.out
      have CV := Lib.hid cv
      clear cv AL BN HS HG BY
      go_wp2_with (simp only [CV.out])
      go_ret
      exact ⟨by rw [HI.out]; rfl, HB.out⟩
end Go.Proofs.Ytgfihljledmaaaa
