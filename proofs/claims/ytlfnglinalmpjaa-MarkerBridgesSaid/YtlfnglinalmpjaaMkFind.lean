/- Mathematics of layer 8: a finder of blocks, as a machine that makes one step at a time. -/
import Derived.Test.YtlfnglinalmpjaaMkMath
namespace Go.Proofs.Ytlfnglinalmpjaa.Mk
/-- The bits of the marker, the highest first. -/
def mbit (k : Nat) : Nat := 449838109 / 2 ^ (31 - k) % 2
/-- How many of the first k bits at the place p are wrong. -/
def wrongAt (v : Nat → Int) (p : Nat) : Nat → Nat
  | 0 => 0
  | k + 1 => wrongAt v p k + (if (decide (0 ≤ v (p + k)) = decide (mbit k = 1)) then 0 else 1)
theorem wrongAt_congr {v v' : Nat → Int} {p : Nat} : ∀ k, (∀ i, i < p + k → v i = v' i) → wrongAt v p k = wrongAt v' p k
  | 0, _ => rfl
  | k + 1, h => by
    show wrongAt v p k + _ = wrongAt v' p k + _
    rw [wrongAt_congr k (fun i hi => h i (by omega)), h (p + k) (by omega)]
theorem wrongAt_le (v : Nat → Int) (p : Nat) : ∀ k, wrongAt v p k ≤ k
  | 0 => Nat.le_refl _
  | k + 1 => by
    have := wrongAt_le v p k
    show wrongAt v p k + _ ≤ _
    split <;> omega
/-- The state of a finder: the place is the next one that is examined, or, if a block is begun, that of its marker. -/
structure Fs where
  locked : Bool
  place : Nat
  begun : Bool
  wrong : Nat
  misses : Nat
def Fs.init : Fs := ⟨false, 0, false, 0, 0⟩
/-- The place is examined. -/
def exam (v : Nat → Int) (s : Fs) : Fs :=
  if wrongAt v s.place 32 ≤ 2 then ⟨true, s.place, true, wrongAt v s.place 32, 0⟩
  else if s.locked = false then ⟨false, s.place + 1, false, s.wrong, s.misses⟩
  else if s.misses + 1 = 3 then ⟨false, s.place + 1, false, s.wrong, 3⟩
  else ⟨true, s.place, true, wrongAt v s.place 32, s.misses + 1⟩
/-- One step, if so many values are taken; a block is its place and its wrong bits. -/
def next (v : Nat → Int) (len N : Nat) (s : Fs) : Option (Fs × List (Nat × Nat)) :=
  if s.begun = true then
    if s.place + 32 + len ≤ N then some (⟨s.locked, s.place + 32 + len, false, s.wrong, s.misses⟩, [(s.place, s.wrong)]) else none
  else if s.place + 32 ≤ N then some (exam v s, []) else none
theorem exam_congr {v v' : Nat → Int} {s : Fs} (h : ∀ i, i < s.place + 32 → v i = v' i) : exam v s = exam v' s := by
  unfold exam
  rw [wrongAt_congr 32 h]
theorem next_more {v v' : Nat → Int} {len N N' : Nat} {s : Fs} {r : Fs × List (Nat × Nat)} (h : next v len N s = some r) (hN : N ≤ N') (hv : ∀ i, i < N → v i = v' i) : next v' len N' s = some r := by
  unfold next at h ⊢
  by_cases b : s.begun = true
  · rw [if_pos b] at h ⊢
    by_cases g : s.place + 32 + len ≤ N
    · rw [if_pos g] at h
      rw [if_pos (by omega)]
      exact h
    · rw [if_neg g] at h
      cases h
  · rw [if_neg b] at h ⊢
    by_cases g : s.place + 32 ≤ N
    · rw [if_pos g] at h
      rw [if_pos (by omega), ← exam_congr (v := v) (fun i hi => hv i (by omega))]
      exact h
    · rw [if_neg g] at h
      cases h
/-- The steps that can be made: the blocks that become complete, and the state at the end. -/
inductive Runs (v : Nat → Int) (len N : Nat) : Fs → List (Nat × Nat) → Fs → Prop
  | done {s : Fs} (h : next v len N s = none) : Runs v len N s [] s
  | step {s s' t : Fs} {b o : List (Nat × Nat)} (h : next v len N s = some (s', b)) (k : Runs v len N s' o t) : Runs v len N s (b ++ o) t
theorem Runs.unique {v : Nat → Int} {len N : Nat} {s : Fs} {o o' : List (Nat × Nat)} {t t' : Fs} (h : Runs v len N s o t) : Runs v len N s o' t' → o = o' ∧ t = t' := by
  induction h generalizing o' t' with
  | done h =>
    intro k
    cases k with
    | done => exact ⟨rfl, rfl⟩
    | step g _ => rw [h] at g; cases g
  | step h _ ih =>
    intro k
    cases k with
    | done g => rw [h] at g; cases g
    | step g k =>
      rw [h] at g
      cases g
      obtain ⟨rfl, rfl⟩ := ih k
      exact ⟨rfl, rfl⟩
/-- How a stream is divided makes no difference. -/
theorem Runs.more {v v' : Nat → Int} {len N N' : Nat} {s t u : Fs} {o o' : List (Nat × Nat)} (h : Runs v len N s o t) (hN : N ≤ N') (hv : ∀ i, i < N → v i = v' i) (k : Runs v' len N' t o' u) : Runs v' len N' s (o ++ o') u := by
  induction h with
  | done _ => exact k
  | step g _ ih =>
    rw [List.append_assoc]
    exact .step (next_more g hN hv) (ih k)
/-- What holds of a state. -/
def Ok (s : Fs) : Prop := s.misses ≤ 3 ∧ (s.locked = true → s.misses ≤ 2) ∧ (s.begun = true → s.locked = true) ∧ s.wrong ≤ 32
theorem ok_init : Ok Fs.init := ⟨by decide, by decide, by decide, by decide⟩
theorem ok_exam {v : Nat → Int} {s : Fs} (h : Ok s) : Ok (exam v s) := by
  obtain ⟨h1, h2, h3, h4⟩ := h
  have w := wrongAt_le v s.place 32
  unfold exam
  by_cases a : wrongAt v s.place 32 ≤ 2
  · rw [if_pos a]
    exact ⟨by show 0 ≤ 3; omega, fun _ => by show 0 ≤ 2; omega, fun _ => rfl, w⟩
  · rw [if_neg a]
    by_cases b : s.locked = false
    · rw [if_pos b]
      exact ⟨h1, fun q => absurd q (by simp), fun q => absurd q (by simp), h4⟩
    · rw [if_neg b]
      by_cases c : s.misses + 1 = 3
      · rw [if_pos c]
        exact ⟨Nat.le_refl _, fun q => absurd q (by simp), fun q => absurd q (by simp), h4⟩
      · rw [if_neg c]
        have := h2 (by simpa using b)
        exact ⟨by show s.misses + 1 ≤ 3; omega, fun _ => by show s.misses + 1 ≤ 2; omega, fun _ => rfl, w⟩
theorem ok_next {v : Nat → Int} {len N : Nat} {s t : Fs} {b : List (Nat × Nat)} (h : Ok s) (g : next v len N s = some (t, b)) : Ok t := by
  unfold next at g
  by_cases a : s.begun = true
  · rw [if_pos a] at g
    by_cases c : s.place + 32 + len ≤ N
    · rw [if_pos c] at g
      cases g
      exact ⟨h.1, h.2.1, fun q => absurd q (by simp), h.2.2.2⟩
    · rw [if_neg c] at g
      cases g
  · rw [if_neg a] at g
    by_cases c : s.place + 32 ≤ N
    · rw [if_pos c] at g
      cases g
      exact ok_exam h
    · rw [if_neg c] at g
      cases g
/-- How far it is: falls at each step. -/
def left (N : Nat) (s : Fs) : Nat := 2 * (N + 1 - s.place) + (if s.begun = true then 0 else 1)
theorem exam_left {v : Nat → Int} {N : Nat} {s : Fs} (hb : s.begun = false) (hp : s.place + 32 ≤ N) : left N (exam v s) < left N s := by
  unfold exam left
  rw [hb]
  by_cases a : wrongAt v s.place 32 ≤ 2
  · rw [if_pos a]
    show 2 * (N + 1 - s.place) + 0 < 2 * (N + 1 - s.place) + 1
    omega
  · rw [if_neg a]
    by_cases b : s.locked = false
    · rw [if_pos b]
      show 2 * (N + 1 - (s.place + 1)) + 1 < 2 * (N + 1 - s.place) + 1
      omega
    · rw [if_neg b]
      by_cases c : s.misses + 1 = 3
      · rw [if_pos c]
        show 2 * (N + 1 - (s.place + 1)) + 1 < 2 * (N + 1 - s.place) + 1
        omega
      · rw [if_neg c]
        show 2 * (N + 1 - s.place) + 0 < 2 * (N + 1 - s.place) + 1
        omega
theorem next_left {v : Nat → Int} {len N : Nat} {s t : Fs} {b : List (Nat × Nat)} (g : next v len N s = some (t, b)) : left N t < left N s := by
  unfold next at g
  by_cases a : s.begun = true
  · rw [if_pos a] at g
    by_cases c : s.place + 32 + len ≤ N
    · rw [if_pos c] at g
      cases g
      unfold left
      rw [if_pos a]
      show 2 * (N + 1 - (s.place + 32 + len)) + 1 < 2 * (N + 1 - s.place) + 0
      omega
    · rw [if_neg c] at g
      cases g
  · rw [if_neg a] at g
    by_cases c : s.place + 32 ≤ N
    · rw [if_pos c] at g
      cases g
      exact exam_left (by simpa using a) c
    · rw [if_neg c] at g
      cases g
theorem Runs.exists (v : Nat → Int) (len N : Nat) : ∀ (k : Nat) (s : Fs), left N s ≤ k → ∃ o t, Runs v len N s o t
  | k, s, h => by
    cases g : next v len N s with
    | none => exact ⟨_, _, .done g⟩
    | some r =>
      obtain ⟨s', b⟩ := r
      have := next_left g
      obtain ⟨k', rfl⟩ : ∃ k', k = k' + 1 := ⟨k - 1, by omega⟩
      obtain ⟨o, t, q⟩ := Runs.exists v len N k' s' (by omega)
      exact ⟨_, _, .step g q⟩
/-- The blocks of a list lie one behind the other, from p on, and end at q at the latest. -/
def Apart (len : Nat) : Nat → List (Nat × Nat) → Nat → Prop
  | p, [], q => p ≤ q
  | p, b :: l, q => p ≤ b.1 ∧ Apart len (b.1 + 32 + len) l q
theorem Apart.mono {len p p' q : Nat} {l : List (Nat × Nat)} (h : Apart len p l q) (hp : p' ≤ p) : Apart len p' l q := by
  cases l with
  | nil => exact Nat.le_trans hp h
  | cons b l => exact ⟨Nat.le_trans hp h.1, h.2⟩
theorem exam_place (v : Nat → Int) (s : Fs) : s.place ≤ (exam v s).place := by
  unfold exam
  split
  · exact Nat.le_refl _
  · split
    · exact Nat.le_succ _
    · split
      · exact Nat.le_succ _
      · exact Nat.le_refl _
theorem Runs.apart {v : Nat → Int} {len N : Nat} {s t : Fs} {o : List (Nat × Nat)} (h : Runs v len N s o t) : Apart len s.place o t.place := by
  induction h with
  | done _ => exact Nat.le_refl _
  | @step s s' t b o g _ ih =>
    unfold next at g
    by_cases a : s.begun = true
    · rw [if_pos a] at g
      by_cases c : s.place + 32 + len ≤ N
      · rw [if_pos c] at g
        cases g
        exact ⟨Nat.le_refl _, ih⟩
      · rw [if_neg c] at g
        cases g
    · rw [if_neg a] at g
      by_cases c : s.place + 32 ≤ N
      · rw [if_pos c] at g
        cases g
        exact Apart.mono ih (exam_place v s)
      · rw [if_neg c] at g
        cases g
/-- The misses before the block k, of blocks one behind the other. -/
def mis (w : Nat → Nat) : Nat → Nat
  | 0 => 0
  | k + 1 => if w k ≤ 2 then 0 else mis w k + 1
/-- Where no more than two markers in a row have more than two wrong bits, and not the first one, all blocks are found. -/
theorem bridged {v : Nat → Int} {len K : Nat} {w : Nat → Nat} (hw : ∀ k, k < K → wrongAt v (k * (32 + len)) 32 = w k) (h0 : 0 < K → w 0 ≤ 2) (hm : ∀ k, k ≤ K → mis w k ≤ 2) :
    ∀ j k wr, k + j = K → ∃ t, Runs v len (K * (32 + len)) ⟨decide (0 < k), k * (32 + len), false, wr, mis w k⟩ ((List.range' k j).map fun i => (i * (32 + len), w i)) t ∧ t.locked = decide (0 < K) ∧ t.begun = false
  | 0, k, wr, h => by
    obtain rfl : k = K := by omega
    refine ⟨_, .done ?_, rfl, rfl⟩
    unfold next
    rw [if_neg (by simp), if_neg (by show ¬ k * (32 + len) + 32 ≤ k * (32 + len); omega)]
  | j + 1, k, wr, h => by
    have hk : k < K := by omega
    obtain ⟨t, ih, hl, hb⟩ := bridged hw h0 hm j (k + 1) (w k) (by omega)
    have e1 : (k + 1) * (32 + len) = k * (32 + len) + 32 + len := by rw [Nat.succ_mul, Nat.add_assoc]
    have le : (k + 1) * (32 + len) ≤ K * (32 + len) := Nat.mul_le_mul_right _ (by omega)
    have dk : decide (0 < k + 1) = true := by simp
    rw [dk, e1] at ih
    have ex : exam v ⟨decide (0 < k), k * (32 + len), false, wr, mis w k⟩ = ⟨true, k * (32 + len), true, w k, mis w (k + 1)⟩ := by
      unfold exam
      show (if wrongAt v (k * (32 + len)) 32 ≤ 2 then _ else _) = _
      rw [hw k hk]
      by_cases g : w k ≤ 2
      · rw [if_pos g]
        show _ = Fs.mk true _ true (w k) (if w k ≤ 2 then 0 else mis w k + 1)
        rw [if_pos g]
      · have k0 : 0 < k := by
          apply Classical.byContradiction
          intro q
          obtain rfl : k = 0 := by omega
          exact g (h0 hk)
        have m1 : mis w (k + 1) = mis w k + 1 := by
          show (if w k ≤ 2 then 0 else mis w k + 1) = _
          rw [if_neg g]
        have := hm (k + 1) (by omega)
        rw [if_neg g, if_neg (by simp; omega), if_neg (show ¬ mis w k + 1 = 3 by omega), m1]
    refine ⟨t, ?_, hl, hb⟩
    have n1 : next v len (K * (32 + len)) ⟨decide (0 < k), k * (32 + len), false, wr, mis w k⟩ = some (⟨true, k * (32 + len), true, w k, mis w (k + 1)⟩, []) := by
      unfold next
      rw [if_neg (by simp), if_pos (by show k * (32 + len) + 32 ≤ _; omega), ex]
    have n2 : next v len (K * (32 + len)) ⟨true, k * (32 + len), true, w k, mis w (k + 1)⟩ = some (⟨true, k * (32 + len) + 32 + len, false, w k, mis w (k + 1)⟩, [(k * (32 + len), w k)]) := by
      unfold next
      rw [if_pos rfl, if_pos (by show k * (32 + len) + 32 + len ≤ _; omega)]
    have r := Runs.step n1 (Runs.step n2 ih)
    rw [List.range'_succ, List.map_cons]
    exact r
/-- The whole stream. -/
theorem bridged_all {v : Nat → Int} {len K : Nat} {w : Nat → Nat} (hw : ∀ k, k < K → wrongAt v (k * (32 + len)) 32 = w k) (h0 : 0 < K → w 0 ≤ 2) (hm : ∀ k, k ≤ K → mis w k ≤ 2) :
    ∃ t, Runs v len (K * (32 + len)) Fs.init ((List.range K).map fun i => (i * (32 + len), w i)) t ∧ t.locked = decide (0 < K) ∧ t.begun = false := by
  obtain ⟨t, h, hl, hb⟩ := bridged hw h0 hm K 0 0 (by omega)
  rw [Nat.zero_mul] at h
  rw [List.range_eq_range']
  exact ⟨t, h, hl, hb⟩
end Go.Proofs.Ytlfnglinalmpjaa.Mk
