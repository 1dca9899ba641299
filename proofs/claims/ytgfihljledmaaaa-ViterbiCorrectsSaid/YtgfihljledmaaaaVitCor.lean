/- Mathematics of the laws of layer 7: messages that are corrected, values that count. -/
import Derived.Test.YtgfihljledmaaaaVitProg
namespace Go.Proofs.Ytgfihljledmaaaa
open Go.RowKit
set_option linter.unusedVariables false

theorem msum_values {f g : Nat → Int} {n : Nat} (h : ∀ i, i < 16 * n + 12 → f i = g i) (d : Nat → BitVec 8) : Vit.msum f n d = Vit.msum g n d :=
  Vit.tot_values _ _ (fun i hi => h i (by omega))
theorem top_values {f g : Nat → Int} {n : Nat} (h : ∀ i, i < 16 * n + 12 → f i = g i) {d : Nat → BitVec 8} (k : Vit.Top f n d) : Vit.Top g n d := fun c => by
  rw [← msum_values h c, ← msum_values h d]
  exact k c
theorem fz_zof {f : Nat → Int} {n i : Nat} (h : i < n) : fz (zof f n) i = f i := zof_get _ _ _ h
theorem cnt_congr {p q : Nat → Bool} : ∀ k, (∀ i, i < k → p i = q i) → Vit.cnt p k = Vit.cnt q k
  | 0, _ => rfl
  | k + 1, h => by
    show Vit.cnt p k + (if p k then 1 else 0) = Vit.cnt q k + (if q k then 1 else 0)
    rw [cnt_congr k (fun i hi => h i (by omega)), h k (by omega)]
/-- How many of the first k symbols differ. -/
def wrong (f : Nat → BitVec 8) (g : Nat → Nat) (k : Nat) : Nat := Vit.cnt (fun i => decide ((f i).toNat ≠ g i)) k
theorem wrong_succ (f : Nat → BitVec 8) (g : Nat → Nat) (k : Nat) : wrong f g (k + 1) = wrong f g k + (if (f k).toNat ≠ g k then 1 else 0) := by
  unfold wrong
  show Vit.cnt _ k + _ = _
  by_cases h : (f k).toNat = g k <;> simp [h]
theorem wrong_zero {f : Nat → BitVec 8} {g : Nat → Nat} : ∀ k, (∀ i, i < k → (f i).toNat = g i) → wrong f g k = 0
  | 0, _ => rfl
  | k + 1, h => by
    rw [wrong_succ, wrong_zero k (fun i hi => h i (by omega)), if_neg (fun q => q (h k (by omega)))]
theorem wrong_set {f e : Nat → BitVec 8} {g : Nat → Nat} (j : Nat) (he : ∀ i, i ≠ j → e i = f i) : ∀ k, wrong e g k ≤ wrong f g k + (if j < k then 1 else 0)
  | 0 => Nat.zero_le _
  | k + 1 => by
    have := wrong_set (f := f) (e := e) (g := g) j he k
    rw [wrong_succ, wrong_succ]
    by_cases h : k = j
    · subst h
      rw [if_neg (Nat.lt_irrefl _)] at this
      rw [if_pos (Nat.lt_succ_self _)]
      split <;> split <;> omega
    · rw [he k h]
      by_cases q : j < k
      · rw [if_pos q] at this
        rw [if_pos (show j < k + 1 by omega)]
        omega
      · rw [if_neg q] at this
        rw [if_neg (show ¬ j < k + 1 by omega)]
        omega
/-- A message of which at most four symbols are inverted is decoded. -/
theorem mended {f : Nat → BitVec 8} {d D : ByteArray} {n : Nat} (hd : d.size = n) (hD : D.size = n) (h2 : ∀ i, i < 16 * n + 12 → (f i).toNat < 2) (h4 : wrong f (Cv.sym (Cv.mb (Gal.co d.data.toList) n)) (16 * n + 12) ≤ 4)
    (ht : Vit.Top (fz (zof (sft (ByteArray.mk (Gal.coefs f (16 * n + 12)).toArray).data.toList) (16 * n + 12))) n (Gal.co D.data.toList)) : D = d := by
  have fe : ∀ i, i < 16 * n + 12 → fz (zof (sft (ByteArray.mk (Gal.coefs f (16 * n + 12)).toArray).data.toList) (16 * n + 12)) i = (fun i => 14 * (((if i < 16 * n + 12 then (f i).toNat else 0 : Nat)) : Int) - 7) i := fun i hi => by
    rw [fz_zof hi]
    unfold sft
    show 14 * ((Gal.co (Gal.coefs f (16 * n + 12)) i).toNat : Int) - 7 = _
    rw [Gal.co_coefs, if_pos hi]
    show _ = 14 * (((if i < 16 * n + 12 then (f i).toNat else 0 : Nat)) : Int) - 7
    rw [if_pos hi]
  have t1 := top_values fe ht
  have ce := cnt_congr (p := fun i => decide ((if i < 16 * n + 12 then (f i).toNat else 0) ≠ Cv.sym (Cv.mb (Gal.co d.data.toList) n) i)) (q := fun i => decide ((f i).toNat ≠ Cv.sym (Cv.mb (Gal.co d.data.toList) n) i)) (16 * n + 12) (fun i hi => by
    show decide _ = decide _
    rw [if_pos hi])
  have t2 := Vit.corrects (f := fun i => 14 * (((if i < 16 * n + 12 then (f i).toNat else 0 : Nat)) : Int) - 7) (n := n) (d := Gal.co d.data.toList) (v := fun i => if i < 16 * n + 12 then (f i).toNat else 0) (fun i => rfl) (fun i => by
    show (if i < 16 * n + 12 then (f i).toNat else 0) < 2
    by_cases h : i < 16 * n + 12
    · rw [if_pos h]; exact h2 i h
    · rw [if_neg h]; omega) (by
      rw [show 2 * (8 * n + 6) = 16 * n + 12 by omega, ce]
      exact h4)
  obtain ⟨q, _⟩ := Vit.top_unique t1 t2
  apply ByteArray.ext
  apply Array.toList_inj.1
  refine Gal.ext (by rw [ls, ls, hd, hD]) (fun i hi => ?_)
  rw [ls, hD] at hi
  exact q i hi
/-- Softened symbols are soft values. -/
theorem soft_symbols {f : Nat → BitVec 8} {N : Nat} (h2 : ∀ i, i < N → (f i).toNat < 2) : listOk (ByteArray.mk (Gal.coefs f N).toArray).data.toList = true ∧ softOk (zof (sft (ByteArray.mk (Gal.coefs f N).toArray).data.toList) N) = true := by
  have q : ∀ i, i < N → (Gal.co (Gal.coefs f N) i).toNat < 2 := fun i hi => by
    rw [Gal.co_coefs, if_pos hi]
    exact h2 i hi
  constructor
  · rw [listOk_iff]
    intro i hi
    exact q i (by simpa [Gal.coefs] using hi)
  · rw [softOk_iff]
    intro i hi
    rw [zof_len] at hi
    rw [zof_get _ _ _ hi]
    have := q i hi
    unfold sft sOk
    show -8 ≤ 14 * ((Gal.co (Gal.coefs f N) i).toNat : Int) - 7 ∧ 14 * ((Gal.co (Gal.coefs f N) i).toNat : Int) - 7 ≤ 7
    omega
/-- The message of softened symbols is of this form. -/
theorem dcOk_of {zs : List Int} {n : Nat} (h1 : n ≤ 1100) (hl : zs.length = 16 * n + 12) (hs : softOk zs = true) : dcOk zs (n : Int) := ⟨by omega, by omega, by simp [hl], hs⟩
theorem encS_at (s : ByteArray) (n i : Nat) (h : i < 16 * n + 12) : (Gal.co (encS s n).data.toList i).toNat = Cv.sym (Cv.mb (Gal.co s.data.toList) n) i := by
  unfold encS
  show (Gal.co (Gal.coefs _ _) i).toNat = _
  rw [Gal.co_coefs, if_pos h, symB_nat]
theorem msum_bound {f : Nat → Int} {n : Nat} (h : ∀ i, i < 16 * n + 12 → sOk (f i)) (d : Nat → BitVec 8) : -8 * ((16 * n + 12 : Nat) : Int) ≤ Vit.msum f n d ∧ Vit.msum f n d ≤ 8 * ((16 * n + 12 : Nat) : Int) := by
  have := sg_bound (f := f) (g := Cv.sym (Cv.mb d n)) (fun i => Cv.sym_lt _ _) (2 * (8 * n + 6)) (fun i hi => h i (by omega))
  unfold Vit.msum
  rw [Vit.tot_sg, show 16 * n + 12 = 2 * (8 * n + 6) by omega]
  exact this
theorem softOk_zof {f : Nat → Int} {N : Nat} (h : ∀ i, i < N → sOk (f i)) : softOk (zof f N) = true := by
  rw [softOk_iff]
  intro i hi
  rw [zof_len] at hi
  rw [zof_get _ _ _ hi]
  exact h i hi
theorem fz_two (h : Nat → Int) (N i : Nat) : fz (zof (fun j => 2 * h j) N) i = 2 * fz (zof h N) i := by
  by_cases q : i < N
  · rw [fz_zof q, fz_zof q]
  · unfold fz
    rw [List.getD_eq_getElem?_getD, List.getElem?_eq_none (by rw [zof_len]; omega), List.getD_eq_getElem?_getD, List.getElem?_eq_none (by rw [zof_len]; omega)]
    rfl
/-- Values doubled: the same message, twice the sum. -/
theorem doubled {h : Nat → Int} {N n : Nat} {D E : ByteArray} (hD : D.size = n) (hE : E.size = n) (td : Vit.Top (fz (zof h N)) n (Gal.co D.data.toList)) (te : Vit.Top (fz (zof (fun j => 2 * h j) N)) n (Gal.co E.data.toList)) :
    E = D ∧ Vit.msum (fz (zof (fun j => 2 * h j) N)) n (Gal.co E.data.toList) = 2 * Vit.msum (fz (zof h N)) n (Gal.co D.data.toList) := by
  obtain ⟨q1, q2⟩ := Vit.top_double (fun i => fz_two h N i) td
  obtain ⟨q, hs⟩ := Vit.top_unique te q1
  have e : E = D := by
    apply ByteArray.ext
    apply Array.toList_inj.1
    refine Gal.ext (by rw [ls, ls, hD, hE]) (fun i hi => ?_)
    rw [ls, hE] at hi
    exact q i hi
  subst e
  exact ⟨rfl, q2⟩
/-- A string of one byte. -/
def b1 (u : Nat) : ByteArray := ⟨#[UInt8.ofNat u]⟩
theorem b1_size (u : Nat) : (b1 u).size = 1 := rfl
theorem b1_ne (u : Nat) : b1 u ≠ ⟨#[]⟩ := fun h => by
  have := congrArg ByteArray.size h
  rw [b1_size] at this
  cases this
theorem byte_str (B u : Nat) {w : World} (hu : u < 256) (h : w.cell? ⟨B, 0, none⟩ = some (.int .u8 (u : Nat))) : (convert 37 9 (.slice (some ⟨B, 0, none⟩) 1 1)).run Try.prog w = .ok (.string (b1 u)) w := by
  exact run_convert_bytes_back (P := Try.prog) w 37 9 5 ⟨B, 0, none⟩ 1 [UInt8.ofNat u] Try.underlying37 Try.underlying5 Try.underlying9 (fun j hj => by
    rw [add_off]
    match j, hj with
    | 0, _ =>
      rw [h]
      show some (Value.int .u8 (u : Int)) = some (Value.int .u8 ((UInt8.ofNat u).toNat : Int))
      rw [UInt8.toNat_ofNat_of_lt' (by show u < 256; omega)])
theorem byte_new (u : Nat) (hu : u < 256) (w : World) : (convert 37 9 (.slice (some ⟨w.heap.size, 0, none⟩) 1 1)).run Try.prog (w.alloc (.cells #[.int .u8 (u : Nat)] 5)) = .ok (.string (b1 u)) (w.alloc (.cells #[.int .u8 (u : Nat)] 5)) :=
  byte_str _ u hu (cell_new_l w _ _).1
theorem msum_same {f : Nat → Int} {n : Nat} {c d : Nat → BitVec 8} (h : ∀ p, p < n → c p = d p) : Vit.msum f n c = Vit.msum f n d :=
  Vit.tot_congr _ (fun i _ => by
    unfold Cv.mb
    by_cases q : i < 8 * n
    · rw [if_pos q, if_pos q, h (i / 8) (by omega)]
    · rw [if_neg q, if_neg q])
/-- The sum of the message of one byte. -/
def s1 (f : Nat → Int) (u : Nat) : Int := Vit.msum f 1 (Gal.co (b1 u).data.toList)
theorem top_one {f : Nat → Int} {b : Nat} (hb : b < 256) (h : ∀ j, j < 256 → s1 f j < s1 f b ∨ (s1 f j = s1 f b ∧ b ≤ j)) : Vit.Top f 1 (Gal.co (b1 b).data.toList) := fun c => by
  have e : Vit.msum f 1 c = s1 f (c 0).toNat := msum_same (fun p hp => by
    obtain rfl : p = 0 := by omega
    show c 0 = BitVec.ofNat 8 (c 0).toNat
    simp)
  have n1 : Vit.num (Gal.co (b1 b).data.toList) 1 = b := by
    show 256 * 0 + (BitVec.ofNat 8 b).toNat = b
    rw [BitVec.toNat_ofNat]
    omega
  have n2 : Vit.num c 1 = (c 0).toNat := by
    show 256 * 0 + (c 0).toNat = _
    omega
  rw [e, n1, n2]
  exact h _ (c 0).isLt
/-- The least message of one byte of those with the greatest sum is what Decode returns. -/
theorem only_one {f : Nat → Int} {b : Nat} {D : ByteArray} (hb : b < 256) (h : ∀ j, j < 256 → s1 f j < s1 f b ∨ (s1 f j = s1 f b ∧ b ≤ j)) (hD : D.size = 1) (t : Vit.Top f 1 (Gal.co D.data.toList)) : D = b1 b ∧ Vit.msum f 1 (Gal.co D.data.toList) = s1 f b := by
  obtain ⟨q, hs⟩ := Vit.top_unique t (top_one hb h)
  refine ⟨?_, hs⟩
  apply ByteArray.ext
  apply Array.toList_inj.1
  refine Gal.ext (by rw [ls, ls, hD, b1_size]) (fun i hi => ?_)
  rw [ls, hD] at hi
  exact q i hi
theorem scV_yes {f : Nat → Int} {n N : Nat} {d : ByteArray} (hN : 16 * n + 12 = N) (h1 : n ≤ 1100) (hd : d.size = n) (h : ∀ i, i < N → sOk (f i)) : scV (zof f N) d = .tuple #[.int .i64 (Vit.msum (fz (zof f N)) n (Gal.co d.data.toList)), .int .i64 0] := by
  unfold scV
  rw [if_pos ⟨by omega, by rw [zof_len, hd, hN], softOk_zof h⟩, hd]
/-- A string that is not empty, compared with the empty one. -/
theorem not_empty {s : ByteArray} (ne : s ≠ ⟨#[]⟩) : (s == (⟨#[]⟩ : ByteArray)) = false ∧ (s.toList == (⟨#[]⟩ : ByteArray).toList) = false ∧ s.toList.isEmpty = false := by
  have e1 := beq_no ne
  have e2 : (s.toList == (⟨#[]⟩ : ByteArray).toList) = false := by rw [← beq_toListBytes, e1]
  refine ⟨e1, e2, ?_⟩
  rw [show (⟨#[]⟩ : ByteArray).toList = [] from by decide +kernel] at e2
  cases h : s.toList with
  | nil => rw [h] at e2; simp at e2
  | cons a b => rfl
end Go.Proofs.Ytgfihljledmaaaa
