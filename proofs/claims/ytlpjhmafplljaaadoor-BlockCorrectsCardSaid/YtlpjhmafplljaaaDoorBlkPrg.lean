/- The program's equations: the locator with the wrong places' elements as its zeros, the places in order: plain mathematics of layer 5. -/
import Derived.Test.YtlpjhmafplljaaaDoorBlkPat
namespace Go.Proofs.YtlpjhmafplljaaaDoor
set_option linter.unusedVariables false
namespace Blk
open Gal (co mul pown)
/-- The equations of the locator, lowest coefficient first. -/
def locB (T : Nat → BitVec 8) (k e : Nat) : Nat → Nat → BitVec 8 := fun i j => T (k + (i + j))
theorem locB_solves {T : Nat → BitVec 8} {k e : Nat} {y : Nat → BitVec 8} {s : BitVec 8} : Solves (locB T k e) e y s ↔ Solves (locM T k e) e (fun i => y (e - 1 - i)) s := by
  unfold Solves
  refine forall_congr' fun r => forall_congr' fun hr => ?_
  have e1 : locB T k e r e = locM T k e r e := by
    unfold locB locM
    rw [if_neg (Nat.lt_irrefl e)]
    congr 1
    omega
  have e2 : xl (List.range e) (fun c => mul (locB T k e r c) (y c)) = xl (List.range e) (fun c => mul (locM T k e r c) (y (e - 1 - c))) := by
    rw [xl_rev]
    refine xl_congr _ (fun c hc => ?_)
    have hc' := List.mem_range.1 hc
    unfold locB locM
    rw [if_pos hc', show k + (r + (e - 1 - c)) = k + e + r - 1 - c by omega]
  rw [e1, e2]
/-- The locator of coefficients y and 1. -/
def locP (y : Nat → BitVec 8) (e : Nat) : List UInt8 := Gal.coefs y e ++ [1]
theorem locP_length (y : Nat → BitVec 8) (e : Nat) : (locP y e).length = e + 1 := by unfold locP; rw [List.length_append, Gal.coefs_length]; rfl
theorem locP_coefs (y : Nat → BitVec 8) (e : Nat) : locP y e = Gal.coefs (fun i => if i < e then y i else 1#8) (e + 1) := by
  rw [Gal.coefs_succ, if_neg (Nat.lt_irrefl e)]
  unfold locP
  congr 1
  exact Gal.coefs_congr (fun i hi => by rw [if_pos hi])
theorem co_locP (y : Nat → BitVec 8) (e i : Nat) : co (locP y e) i = if i < e then y i else if i = e then 1#8 else 0#8 := by
  rw [locP_coefs, Gal.co_coefs]
  by_cases h : i < e
  · rw [if_pos (by omega), if_pos h, if_pos h]
  · rw [if_neg h]
    by_cases h2 : i = e
    · rw [if_pos (by omega), if_neg h, if_pos h2]
    · rw [if_neg (show ¬ i < e + 1 by omega), if_neg h, if_neg h2]
theorem locP_eval (y : Nat → BitVec 8) (e : Nat) (x : BitVec 8) : Gal.evalV (locP y e) x = xl (List.range (e + 1)) (fun i => mul (co (locP y e) i) (pown x i)) := by
  unfold Gal.evalV
  rw [locP_length, evl_xl]
/-- As many zeros as its degree at most. -/
theorem locP_roots (X : Nat → BitVec 8) (y : Nat → BitVec 8) (e : Nat) (l : List Nat) (hn : l.Nodup) (hX : ∀ i, i ∈ l → ∀ j, j ∈ l → X i = X j → i = j) (hz : ∀ p, p ∈ l → Gal.evalV (locP y e) (X p) = 0#8) : l.length ≤ e := by
  apply Nat.le_of_not_lt
  intro h
  have hl : (l.take (e + 1)).length = e + 1 := by rw [List.length_take]; omega
  have hm : ∀ p, p ∈ l.take (e + 1) → p ∈ l := fun p hp => List.mem_of_mem_take hp
  have := zeros_zero X (l.take (e + 1)) (co (locP y e)) 0 (hn.sublist (List.take_sublist _ _)) (fun i hi j hj => hX i (hm i hi) j (hm j hj)) (fun i hi => by
    rw [hl, val_evl]
    have := hz i (hm i hi)
    unfold Gal.evalV at this
    rwa [locP_length] at this) e (by omega)
  rw [Nat.zero_add, co_locP, if_neg (Nat.lt_irrefl e), if_pos rfl] at this
  exact absurd this (by decide)
/-- The right coefficients have the wrong places' elements as their zeros. -/
theorem locP_lam (X : Nat → BitVec 8) (E : List Nat) (y : Nat → BitVec 8) (hy : ∀ j, j < E.length → y j = lam X E (E.length - j)) (x : BitVec 8) :
    Gal.evalV (locP y E.length) x = E.foldr (fun p s => mul (x ^^^ X p) s) 1#8 := by
  rw [locP_eval, ← lam_back, xl_rev (E.length + 1) (fun i => mul (lam X E i) (pown x (E.length - i)))]
  refine xl_congr _ (fun i hi => ?_)
  have hi' := List.mem_range.1 hi
  rw [co_locP, show E.length + 1 - 1 - i = E.length - i by omega, show E.length - (E.length - i) = i by omega]
  congr 1
  by_cases h : i < E.length
  · rw [if_pos h, hy i h]
  · rw [if_neg h, if_pos (by omega), show E.length - i = 0 by omega, lam_zero]
theorem foldr_zero (X : Nat → BitVec 8) (x : BitVec 8) : ∀ E : List Nat, E.foldr (fun p s => mul (x ^^^ X p) s) 1#8 = 0#8 ↔ ∃ p, p ∈ E ∧ x = X p
  | [] => by
    show (1#8 = 0#8) ↔ _
    constructor
    · intro h; exact absurd h (by decide)
    · rintro ⟨p, hp, _⟩; cases hp
  | q :: E => by
    rw [List.foldr_cons]
    constructor
    · intro h
      rcases mul_eq_zero h with h1 | h1
      · exact ⟨q, List.mem_cons_self, xor_eq_zero.1 h1⟩
      · obtain ⟨p, hp, e⟩ := (foldr_zero X x E).1 h1
        exact ⟨p, List.mem_cons_of_mem _ hp, e⟩
    · rintro ⟨p, hp, rfl⟩
      rcases List.mem_cons.1 hp with rfl | hp
      · rw [BitVec.xor_self, Gal.zero_mul]
      · rw [(foldr_zero X (X p) E).2 ⟨p, hp, rfl⟩, Gal.mul_zero]
/-- The erased places in order. -/
def ers (er : Nat → Bool) (n : Nat) : List Nat := (List.range n).filter er
theorem mem_ers {er : Nat → Bool} {n p : Nat} : p ∈ ers er n ↔ p < n ∧ er p = true := by
  unfold ers
  rw [List.mem_filter, List.mem_range]
theorem ers_nodup (er : Nat → Bool) (n : Nat) : (ers er n).Nodup := List.nodup_range.filter _
theorem ers_contains (er : Nat → Bool) {n p : Nat} (h : p < n) : (ers er n).contains p = er p := by
  rw [Bool.eq_iff_iff, List.contains_iff_mem, mem_ers]
  exact ⟨fun q => q.2, fun q => ⟨h, q⟩⟩
theorem ers_succ (er : Nat → Bool) (n : Nat) : ers er (n + 1) = if er n then ers er n ++ [n] else ers er n := by
  unfold ers
  rw [List.range_succ, List.filter_append]
  by_cases h : er n
  · rw [if_pos h]; simp [h]
  · rw [if_neg h]; simp [h]
theorem twist_snoc (X : Nat → BitVec 8) (f : List Nat) (q : Nat) (S : Nat → BitVec 8) : twist X (f ++ [q]) S = tstep X (twist X f S) q := by
  unfold twist
  rw [List.foldl_append]
  rfl
/-- The doubtful places in order. -/
def dbt (er : Nat → Bool) (X : Nat → BitVec 8) (l : List UInt8) (p : Nat) : Bool := er p || decide (Gal.evalV l (X p) = 0#8)
theorem dbt_length (er : Nat → Bool) (y : Nat → BitVec 8) (e : Nat) {n : Nat} (hn : n ≤ 255) : (ers (dbt er (elem n) (locP y e)) n).length ≤ (ers er n).length + e := by
  have h1 := count_or (dbt er (elem n) (locP y e)) er (fun p => decide (Gal.evalV (locP y e) (elem n p) = 0#8)) (List.range n) (fun x _ hx => by
    unfold dbt at hx
    rw [Bool.or_eq_true] at hx
    exact hx)
  have h2 := locP_roots (elem n) y e ((List.range n).filter (fun p => decide (Gal.evalV (locP y e) (elem n p) = 0#8))) (List.nodup_range.filter _) (fun i hi j hj q => elem_inj hn (List.mem_range.1 (List.mem_filter.1 hi).1) (List.mem_range.1 (List.mem_filter.1 hj).1) q) (fun p hp => by
    have := (List.mem_filter.1 hp).2
    simpa using this)
  unfold ers
  omega
/-- What is found differs from the word in the doubtful places alone: it is near. -/
theorem dbt_near {b c : List UInt8} {er : Nat → Bool} {y : Nat → BitVec 8} {e : Nat} (hn : b.length ≤ 255) (hc : Code c) (hl : c.length = b.length) (he : (ers er b.length).length + 2 * e ≤ 8)
    (ho : ∀ p, p < b.length → co b p ≠ co c p → p ∈ ers (dbt er (elem b.length) (locP y e)) b.length) : Near b (ers er b.length) c := by
  have h2 := locP_roots (elem b.length) y e ((List.range b.length).filter (fun p => decide (Gal.evalV (locP y e) (elem b.length p) = 0#8))) (List.nodup_range.filter _) (fun i hi j hj q => elem_inj hn (List.mem_range.1 (List.mem_filter.1 hi).1) (List.mem_range.1 (List.mem_filter.1 hj).1) q) (fun p hp => by
    have := (List.mem_filter.1 hp).2
    simpa using this)
  refine near_of_places hc hl e h2 he (fun p hp hne hf => ?_)
  have := (mem_ers.1 (ho p hp hne)).2
  unfold dbt at this
  rw [Bool.or_eq_true] at this
  rcases this with h | h
  · exact absurd (mem_ers.2 ⟨hp, h⟩) hf
  · exact List.mem_filter.2 ⟨List.mem_range.2 hp, h⟩
section
variable {b c : List UInt8} {er : Nat → Bool} {n : Nat} (hb : b.length = n) (h : Near b (ers er n) c) (hn : n ≤ 231)
include hb h hn
theorem prg_solves : Solves (locB (twist (elem n) (ers er n) (syn b)) (ers er n).length (besides b c (ers er n))) (besides b c (ers er n)) (fun j => lam (elem n) (wrong b c (ers er n)) (besides b c (ers er n) - j)) 1#8 := by
  rw [locB_solves]
  have h3 := h.2.2
  have := (loc_found (f := ers er n) h.1 h.2.1 (by omega) (fun q hq => by rw [hb]; exact (mem_ers.1 hq).1) (by omega)).1
  rw [hb] at this
  intro r hr
  have h4 := this r hr
  rw [← h4]
  refine xl_congr _ (fun i hi => ?_)
  have hi' := List.mem_range.1 hi
  show mul _ (lam (elem n) (wrong b c (ers er n)) (besides b c (ers er n) - (besides b c (ers er n) - 1 - i))) = _
  rw [show besides b c (ers er n) - (besides b c (ers er n) - 1 - i) = i + 1 by omega]
theorem prg_kernel (z : Nat → BitVec 8) (hz : Solves (locB (twist (elem n) (ers er n) (syn b)) (ers er n).length (besides b c (ers er n))) (besides b c (ers er n)) z 0#8) : ∀ i, i < besides b c (ers er n) → z i = 0#8 := by
  intro i hi
  rw [locB_solves] at hz
  have h3 := h.2.2
  have := (loc_found (f := ers er n) h.1 h.2.1 (by omega) (fun q hq => by rw [hb]; exact (mem_ers.1 hq).1) (by omega)).2
  rw [hb] at this
  have h4 := this _ hz (besides b c (ers er n) - 1 - i) (by omega)
  rwa [show besides b c (ers er n) - 1 - (besides b c (ers er n) - 1 - i) = i by omega] at h4
omit h in
/-- The doubtful places of the right locator: the erased ones and the wrong ones. -/
theorem prg_places (y : Nat → BitVec 8) (hy : ∀ r, r < besides b c (ers er n) → lam (elem n) (wrong b c (ers er n)) (besides b c (ers er n) - r) = y r) {p : Nat} (hp : p < n) :
    dbt er (elem n) (locP y (besides b c (ers er n))) p = true ↔ er p = true ∨ p ∈ wrong b c (ers er n) := by
  unfold dbt
  rw [Bool.or_eq_true, decide_eq_true_eq, ← wrong_length, locP_lam (elem n) _ y (fun j hj => (hy j (by rw [wrong_length] at hj; exact hj)).symm), foldr_zero]
  refine or_congr Iff.rfl ⟨?_, fun q => ⟨p, q, rfl⟩⟩
  rintro ⟨q, hq, e⟩
  have := elem_inj (show n ≤ 255 by omega) hp (by rw [← hb]; exact (mem_wrong.1 hq).1) e
  exact this ▸ hq
/-- The right changes are the only ones, and they make the code block. -/
theorem prg_mends (l : List Nat) (hl : l = ers (fun p => er p || (wrong b c (ers er n)).contains p) n) : Solves (mendM b l) l.length (fun k => dlt b c (l.getD k 0)) 1#8 ∧
    (∀ z, Solves (mendM b l) l.length z 0#8 → ∀ i, i < l.length → z i = 0#8) ∧
    (∀ y, (∀ i, i < l.length → y i = dlt b c (l.getD i 0)) → Gal.coefs (patch b l y l.length) n = c) := by
  have h3 := h.2.2
  have nd : l.Nodup := by rw [hl]; exact ers_nodup _ _
  have pl : ∀ q, q ∈ l → q < b.length := fun q hq => by rw [hl] at hq; rw [hb]; exact (mem_ers.1 hq).1
  have l8 : l.length ≤ 8 := by
    have := count_or (fun p => er p || (wrong b c (ers er n)).contains p) er (fun p => (wrong b c (ers er n)).contains p) (List.range n) (fun x _ hx => by rwa [Bool.or_eq_true] at hx)
    have h4 := count_in (wrong b c (ers er n)) (List.range n) List.nodup_range
    rw [wrong_length] at h4
    rw [hl]
    unfold ers at h3 h4 this ⊢
    omega
  have out : ∀ p, p < b.length → p ∉ l → co b p = co c p := fun p hp hm => by
    apply Classical.byContradiction
    intro ne
    apply hm
    rw [hl]
    refine mem_ers.2 ⟨by rw [← hb]; exact hp, ?_⟩
    rw [Bool.or_eq_true, List.contains_iff_mem]
    by_cases q : er p = true
    · exact .inl q
    · exact .inr (mem_wrong.2 ⟨hp, ne, fun q2 => q (mem_ers.1 q2).2⟩)
  obtain ⟨s1, s2⟩ := mend_found h.1 h.2.1 (by omega) nd pl l8 out
  exact ⟨s1, s2, fun y hy => by rw [← hb]; exact patch_found h.2.1 nd out hy⟩
end
section
variable {b c : List UInt8} {er : Nat → Bool} {n q : Nat} (hb : b.length = n) (hn : n ≤ 231)
include hb hn
/-- Where the locator's equations have more than one solution or none, there is no code block with so many wrong places. -/
theorem no_locator (hk : ∃ z r, r < q ∧ Solves (locB (twist (elem n) (ers er n) (syn b)) (ers er n).length q) q z 0#8 ∧ z r = 1#8) (h : Near b (ers er n) c) : besides b c (ers er n) ≠ q := by
  rintro rfl
  obtain ⟨z, r, hr, hz, h1⟩ := hk
  have := prg_kernel hb h hn z hz r hr
  rw [this] at h1
  exact absurd h1 (by decide)
theorem right_places {y : Nat → BitVec 8} (hU : ∀ z, Solves (locB (twist (elem n) (ers er n) (syn b)) (ers er n).length q) q z 1#8 → ∀ r, r < q → z r = y r) (h : Near b (ers er n) c) (hq : besides b c (ers er n) = q) :
    ers (dbt er (elem n) (locP y q)) n = ers (fun p => er p || (wrong b c (ers er n)).contains p) n := by
  subst hq
  have hy := hU _ (prg_solves hb h hn)
  have key : ∀ p, p ∈ List.range n → dbt er (elem n) (locP y (besides b c (ers er n))) p = (er p || (wrong b c (ers er n)).contains p) := fun p hp => by
    have hp' := List.mem_range.1 hp
    rw [Bool.eq_iff_iff, prg_places hb hn y hy hp', Bool.or_eq_true, List.contains_iff_mem]
  exact List.filter_congr key
theorem no_mend {y : Nat → BitVec 8} (hU : ∀ z, Solves (locB (twist (elem n) (ers er n) (syn b)) (ers er n).length q) q z 1#8 → ∀ r, r < q → z r = y r)
    (hk : ∃ z r, r < (ers (dbt er (elem n) (locP y q)) n).length ∧ Solves (mendM b (ers (dbt er (elem n) (locP y q)) n)) (ers (dbt er (elem n) (locP y q)) n).length z 0#8 ∧ z r = 1#8) (h : Near b (ers er n) c) : besides b c (ers er n) ≠ q := by
  intro hq
  obtain ⟨z, r, hr, hz, h1⟩ := hk
  have := (prg_mends hb h hn _ (right_places hb hn hU h hq)).2.1 z hz r hr
  rw [this] at h1
  exact absurd h1 (by decide)
theorem mend_code {y v : Nat → BitVec 8} (hU : ∀ z, Solves (locB (twist (elem n) (ers er n) (syn b)) (ers er n).length q) q z 1#8 → ∀ r, r < q → z r = y r)
    (hV : ∀ z, Solves (mendM b (ers (dbt er (elem n) (locP y q)) n)) (ers (dbt er (elem n) (locP y q)) n).length z 1#8 → ∀ r, r < (ers (dbt er (elem n) (locP y q)) n).length → z r = v r) (h : Near b (ers er n) c) (hq : besides b c (ers er n) = q) :
    Gal.coefs (patch b (ers (dbt er (elem n) (locP y q)) n) v (ers (dbt er (elem n) (locP y q)) n).length) n = c := by
  obtain ⟨s1, _, s3⟩ := prg_mends hb h hn _ (right_places hb hn hU h hq)
  exact s3 v (fun i hi => (hV _ s1 i hi).symm)
/-- What is mended to a code block is near. -/
theorem mend_near {y v : Nat → BitVec 8} (hl : (ers er n).length + 2 * q ≤ 8) (hc : Code (Gal.coefs (patch b (ers (dbt er (elem n) (locP y q)) n) v (ers (dbt er (elem n) (locP y q)) n).length) n)) :
    Near b (ers er n) (Gal.coefs (patch b (ers (dbt er (elem n) (locP y q)) n) v (ers (dbt er (elem n) (locP y q)) n).length) n) := by
  subst hb
  exact dbt_near (y := y) (e := q) (by omega) hc (Gal.coefs_length _ _) hl (fun p hp hne => patch_places hp hne)
end
theorem pw_ne0 (m : Nat) : Gal.pw m ≠ 0#8 := by
  intro h
  have e := Gal.pwi_add (m : Int) (-(m : Int))
  rw [Gal.pwi_nat, h, Gal.zero_mul, show (m : Int) + -(m : Int) = 0 by omega] at e
  exact absurd e (by decide +kernel)
theorem powV_elem (n p i : Nat) : Gal.powV (elem n p) (i : Nat) = pown (elem n p) i := by
  have h : elem n p ≠ 0#8 := pw_ne0 _
  rw [Gal.pown_eq h]
  unfold Gal.powV
  rw [if_neg h]
/-- The data of a block, and in how many places blocks differ, by their bytes. -/
theorem coefs_take (f : Nat → BitVec 8) {m n : Nat} (h : m ≤ n) : (Gal.coefs f n).take m = Gal.coefs f m := by
  unfold Gal.coefs
  rw [← List.map_take, List.take_range, Nat.min_eq_left h]
end Blk
end Go.Proofs.YtlpjhmafplljaaaDoor
