/- Layer 8, the landed program: what take does, in the words of the machine. -/
import Derived.Test.YtlfnglinalmpjaaMkPTk
namespace Go.Proofs.Ytlfnglinalmpjaa
open Go.RowKit
set_option linter.unusedVariables false

theorem apart_len {len : Nat} : ∀ {l : List (Nat × Nat)} {p q : Nat}, Mk.Apart len p l q → l.length + p ≤ q
  | [], p, q, h => by
    have h' : p ≤ q := h
    simp only [List.length_nil]
    omega
  | b :: l, p, q, h => by
    have := apart_len h.2
    have := h.1
    simp only [List.length_cons]
    omega
theorem wrongAt_shift {v v' : Nat → Int} {p p' : Nat} : ∀ k, (∀ i, i < k → v (p + i) = v' (p' + i)) → Mk.wrongAt v p k = Mk.wrongAt v' p' k
  | 0, _ => rfl
  | k + 1, h => by
    show Mk.wrongAt v p k + _ = Mk.wrongAt v' p' k + _
    rw [wrongAt_shift k (fun i hi => h i (by omega)), h k (by omega)]
theorem seg_fz (vs : List Int) (p n i : Nat) (hi : i < n) : fz (seg vs p n) i = fz vs (p + i) := by
  unfold fz
  rw [List.getD_eq_getElem?_getD, List.getD_eq_getElem?_getD, seg_get _ _ _ _ hi]
theorem seg_wrong (vs : List Int) (p n : Nat) (h : 32 ≤ n) : Mk.wrongAt (fz (seg vs p n)) 0 32 = Mk.wrongAt (fz vs) p 32 := wrongAt_shift 32 (fun i hi => by rw [Nat.zero_add]; exact seg_fz vs p n i (by omega))
theorem seg_snoc (vs : List Int) (p n : Nat) (h : p + n < vs.length) : seg vs p n ++ [fz vs (p + n)] = seg vs p (n + 1) := by
  unfold seg fz
  rw [List.take_add_one, List.getElem?_drop, List.getD_eq_getElem?_getD, List.getElem?_eq_getElem h]
  rfl
theorem seg_drop (vs : List Int) (p n d : Nat) : (seg vs p n).drop d = seg vs (p + d) (n - d) := by
  unfold seg
  rw [List.drop_take, List.drop_drop]
theorem seg_zero (vs : List Int) (p : Nat) : seg vs p 0 = [] := rfl
/-- What holds of a state when all steps are made. -/
structure Lk (vs : List Int) (len N : Nat) (t : Mk.Fs) : Prop where
  ok : Mk.Ok t
  le : t.place ≤ N
  no : t.begun = false → N < t.place + 32
  yes : t.begun = true → t.place + 32 ≤ N ∧ N < t.place + 32 + len ∧ t.wrong = Mk.wrongAt (fz vs) t.place 32
theorem Lk.next {vs : List Int} {len N : Nat} {t : Mk.Fs} (h : Lk vs len N t) : Mk.next (fz vs) len N t = none := by
  unfold Mk.next
  by_cases b : t.begun = true
  · rw [if_pos b, if_neg (by have := h.yes b; omega)]
  · rw [if_neg b, if_neg (by have := h.no (by simpa using b); omega)]
theorem lk_init (vs : List Int) (len : Nat) : Lk vs len 0 Mk.Fs.init := ⟨Mk.ok_init, Nat.le_refl _, fun _ => by show 0 < 0 + 32; omega, fun h => by cases h⟩
theorem Lk.more {vs ys : List Int} {len : Nat} {t : Mk.Fs} (h : Lk vs len vs.length t) : Lk (vs ++ ys) len vs.length t := by
  refine ⟨h.ok, h.le, h.no, fun b => ?_⟩
  obtain ⟨h1, h2, h3⟩ := h.yes b
  refine ⟨h1, h2, h3.trans (wrongAt_shift 32 (fun i hi => ?_))⟩
  unfold fz
  rw [List.getD_eq_getElem?_getD, List.getD_eq_getElem?_getD, List.getElem?_append_left (by omega)]
/-- One value more. -/
theorem Lk.step {vs : List Int} {len N : Nat} {t : Mk.Fs} (h : Lk vs len N t) (h1 : 1 ≤ len) (hN : N < vs.length) :
    ∃ t' o, Mk.Runs (fz vs) len (N + 1) t o t' ∧ Lk vs len (N + 1) t' ∧ tkF len (N + 1) t.misses t.locked (seg vs t.place (N - t.place) ++ [fz vs N]) = (t'.misses, t'.locked, seg vs t'.place (N + 1 - t'.place), blks vs len o) := by
  have hle := h.le
  have sn : seg vs t.place (N - t.place) ++ [fz vs N] = seg vs t.place (N + 1 - t.place) := by
    have := seg_snoc vs t.place (N - t.place) (by omega)
    rw [show t.place + (N - t.place) = N by omega, show N - t.place + 1 = N + 1 - t.place by omega] at this
    exact this
  rw [sn]
  have sl : (seg vs t.place (N + 1 - t.place)).length = N + 1 - t.place := seg_len _ _ _ (by omega)
  unfold tkF
  rw [sl]
  by_cases b : t.begun = true
  · obtain ⟨y1, y2, y3⟩ := h.yes b
    rw [if_neg (by omega)]
    by_cases e : N + 1 = t.place + 32 + len
    · rw [if_pos (by omega), seg_wrong _ _ _ (by omega), seg_drop]
      have nx : Mk.next (fz vs) len (N + 1) t = some (⟨t.locked, t.place + 32 + len, false, t.wrong, t.misses⟩, [(t.place, t.wrong)]) := by
        unfold Mk.next
        rw [if_pos b, if_pos (by omega)]
      have lk : Lk vs len (N + 1) ⟨t.locked, t.place + 32 + len, false, t.wrong, t.misses⟩ := ⟨Mk.ok_next h.ok nx, by show t.place + 32 + len ≤ N + 1; omega, fun _ => by show N + 1 < t.place + 32 + len + 32; omega, fun q => by cases q⟩
      refine ⟨_, _, .step nx (.done lk.next), lk, ?_⟩
      show _ = (t.misses, t.locked, seg vs (t.place + 32 + len) (N + 1 - (t.place + 32 + len)), [(t.place, t.wrong, seg vs (t.place + 32) len)])
      rw [show N + 1 - (t.place + 32 + len) = 0 by omega, seg_zero, show N + 1 - (N + 1 - t.place) = t.place by omega, ← y3, show N + 1 - t.place - 32 = len by omega]
    · rw [if_neg (by omega)]
      have lk : Lk vs len (N + 1) t := ⟨h.ok, by omega, fun q => absurd q (by simp [b]), fun _ => ⟨by omega, by omega, y3⟩⟩
      exact ⟨t, [], .done lk.next, lk, rfl⟩
  · have b' : t.begun = false := by simpa using b
    have y := h.no b'
    by_cases e : N + 1 = t.place + 32
    · rw [if_pos (by omega), seg_wrong _ _ _ (by omega)]
      obtain ⟨W, hW⟩ : ∃ W, Mk.wrongAt (fz vs) t.place 32 = W := ⟨_, rfl⟩
      have nx : Mk.next (fz vs) len (N + 1) t = some (Mk.exam (fz vs) t, []) := by
        unfold Mk.next
        rw [if_neg b, if_pos (by omega)]
      have ok2 := Mk.ok_exam (v := fz vs) h.ok
      rw [hW]
      by_cases a : W ≤ 2
      · have ex : Mk.exam (fz vs) t = ⟨true, t.place, true, W, 0⟩ := by
          unfold Mk.exam
          rw [hW, if_pos a]
        rw [ex] at nx ok2
        have lk : Lk vs len (N + 1) ⟨true, t.place, true, W, 0⟩ := ⟨ok2, by show t.place ≤ N + 1; omega, fun q => absurd q (by simp), fun _ => ⟨by show t.place + 32 ≤ N + 1; omega, by show N + 1 < t.place + 32 + len; omega, hW.symm⟩⟩
        refine ⟨_, _, .step nx (.done lk.next), lk, ?_⟩
        rw [decide_eq_true a]
        rfl
      · rw [decide_eq_false a]
        by_cases l0 : t.locked = false
        · have ex : Mk.exam (fz vs) t = ⟨false, t.place + 1, false, t.wrong, t.misses⟩ := by
            unfold Mk.exam
            rw [hW, if_neg a, if_pos l0]
          rw [ex] at nx ok2
          have lk : Lk vs len (N + 1) ⟨false, t.place + 1, false, t.wrong, t.misses⟩ := ⟨ok2, by show t.place + 1 ≤ N + 1; omega, fun _ => by show N + 1 < t.place + 1 + 32; omega, fun q => by cases q⟩
          refine ⟨_, _, .step nx (.done lk.next), lk, ?_⟩
          rw [l0]
          show (t.misses, false, (seg vs t.place (N + 1 - t.place)).drop 1, _) = _
          rw [seg_drop, show N + 1 - t.place - 1 = N + 1 - (t.place + 1) by omega]
          rfl
        · have l1 : t.locked = true := by simpa using l0
          have m2 := h.ok.2.1 l1
          by_cases c : t.misses + 1 = 3
          · have ex : Mk.exam (fz vs) t = ⟨false, t.place + 1, false, t.wrong, 3⟩ := by
              unfold Mk.exam
              rw [hW, if_neg a, if_neg l0, if_pos c]
            rw [ex] at nx ok2
            have lk : Lk vs len (N + 1) ⟨false, t.place + 1, false, t.wrong, 3⟩ := ⟨ok2, by show t.place + 1 ≤ N + 1; omega, fun _ => by show N + 1 < t.place + 1 + 32; omega, fun q => by cases q⟩
            refine ⟨_, _, .step nx (.done lk.next), lk, ?_⟩
            have q1 : ntL t.locked t.misses false = false := by
              rw [l1]
              exact decide_eq_false (by omega)
            have q2 : ntM t.locked t.misses false = 3 := by
              rw [l1]
              exact c
            rw [q1, q2, if_neg (by simp), seg_drop, show N + 1 - t.place - 1 = N + 1 - (t.place + 1) by omega]
            rfl
          · have ex : Mk.exam (fz vs) t = ⟨true, t.place, true, W, t.misses + 1⟩ := by
              unfold Mk.exam
              rw [hW, if_neg a, if_neg l0, if_neg c]
            rw [ex] at nx ok2
            have lk : Lk vs len (N + 1) ⟨true, t.place, true, W, t.misses + 1⟩ := ⟨ok2, by show t.place ≤ N + 1; omega, fun q => absurd q (by simp), fun _ => ⟨by show t.place + 32 ≤ N + 1; omega, by show N + 1 < t.place + 32 + len; omega, hW.symm⟩⟩
            refine ⟨_, _, .step nx (.done lk.next), lk, ?_⟩
            have q1 : ntL t.locked t.misses false = true := by
              rw [l1]
              exact decide_eq_true (by omega)
            have q2 : ntM t.locked t.misses false = t.misses + 1 := by
              rw [l1]
              rfl
            rw [q1, q2, if_pos rfl]
            rfl
    · rw [if_neg (by omega), if_neg (by omega)]
      have lk : Lk vs len (N + 1) t := ⟨h.ok, by omega, fun _ => by omega, fun q => absurd q b⟩
      exact ⟨t, [], .done lk.next, lk, rfl⟩
end Go.Proofs.Ytlfnglinalmpjaa
