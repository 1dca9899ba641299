/- BlkPrg, BlkLc, BlkPL as one text. -/
import Derived.Test.YtlpjhmafplljaaaGreatDoorPkL
import Derived.Test.YtlpjhmafplljaaaGreatDoorBlkSv
/- The program's equations: the locator with the wrong places' elements as its zeros, the places in order: plain mathematics of layer 5. -/
namespace Go.Proofs.YtlpjhmafplljaaaGreatDoor
set_option linter.unusedVariables false
namespace Blk
open Gal (co mul pown)
/-- The equations of the locator, lowest coefficient first. -/
def locB (T : Nat → BitVec 8) (k e : Nat) : Nat → Nat → BitVec 8 := fun i j => T (k + (i + j))
theorem locB_solves {T : Nat → BitVec 8} {k e : Nat} {y : Nat → BitVec 8} {s : BitVec 8} : Solves (locB T k e) e y s ↔ Solves (locM T k e) e (fun i => y (e - 1 - i)) s := by
  unfold Solves
  refine forall_congr' fun r => forall_congr' fun hr => ?_
  have e1 : locB T k e r e = locM T k e r e := by
    unfold locB locM
    rw [if_neg (Nat.lt_irrefl e)]
    congr 1
    omega
  have e2 : xl (List.range e) (fun c => mul (locB T k e r c) (y c)) = xl (List.range e) (fun c => mul (locM T k e r c) (y (e - 1 - c))) := by
    rw [xl_rev]
    refine xl_congr _ (fun c hc => ?_)
    have hc' := List.mem_range.1 hc
    unfold locB locM
    rw [if_pos hc', show k + (r + (e - 1 - c)) = k + e + r - 1 - c by omega]
  rw [e1, e2]
/-- The locator of coefficients y and 1. -/
def locP (y : Nat → BitVec 8) (e : Nat) : List UInt8 := Gal.coefs y e ++ [1]
theorem locP_length (y : Nat → BitVec 8) (e : Nat) : (locP y e).length = e + 1 := by unfold locP; rw [List.length_append, Gal.coefs_length]; rfl
theorem locP_coefs (y : Nat → BitVec 8) (e : Nat) : locP y e = Gal.coefs (fun i => if i < e then y i else 1#8) (e + 1) := by
  rw [Gal.coefs_succ, if_neg (Nat.lt_irrefl e)]
  unfold locP
  congr 1
  exact Gal.coefs_congr (fun i hi => by rw [if_pos hi])
theorem co_locP (y : Nat → BitVec 8) (e i : Nat) : co (locP y e) i = if i < e then y i else if i = e then 1#8 else 0#8 := by
  rw [locP_coefs, Gal.co_coefs]
  by_cases h : i < e
  · rw [if_pos (by omega), if_pos h, if_pos h]
  · rw [if_neg h]
    by_cases h2 : i = e
    · rw [if_pos (by omega), if_neg h, if_pos h2]
    · rw [if_neg (show ¬ i < e + 1 by omega), if_neg h, if_neg h2]
theorem locP_eval (y : Nat → BitVec 8) (e : Nat) (x : BitVec 8) : Gal.evalV (locP y e) x = xl (List.range (e + 1)) (fun i => mul (co (locP y e) i) (pown x i)) := by
  unfold Gal.evalV
  rw [locP_length, evl_xl]
/-- As many zeros as its degree at most. -/
theorem locP_roots (X : Nat → BitVec 8) (y : Nat → BitVec 8) (e : Nat) (l : List Nat) (hn : l.Nodup) (hX : ∀ i, i ∈ l → ∀ j, j ∈ l → X i = X j → i = j) (hz : ∀ p, p ∈ l → Gal.evalV (locP y e) (X p) = 0#8) : l.length ≤ e := by
  apply Nat.le_of_not_lt
  intro h
  have hl : (l.take (e + 1)).length = e + 1 := by rw [List.length_take]; omega
  have hm : ∀ p, p ∈ l.take (e + 1) → p ∈ l := fun p hp => List.mem_of_mem_take hp
  have := zeros_zero X (l.take (e + 1)) (co (locP y e)) 0 (hn.sublist (List.take_sublist _ _)) (fun i hi j hj => hX i (hm i hi) j (hm j hj)) (fun i hi => by
    rw [hl, val_evl]
    have := hz i (hm i hi)
    unfold Gal.evalV at this
    rwa [locP_length] at this) e (by omega)
  rw [Nat.zero_add, co_locP, if_neg (Nat.lt_irrefl e), if_pos rfl] at this
  exact absurd this (by decide)
/-- The right coefficients have the wrong places' elements as their zeros. -/
theorem locP_lam (X : Nat → BitVec 8) (E : List Nat) (y : Nat → BitVec 8) (hy : ∀ j, j < E.length → y j = lam X E (E.length - j)) (x : BitVec 8) :
    Gal.evalV (locP y E.length) x = E.foldr (fun p s => mul (x ^^^ X p) s) 1#8 := by
  rw [locP_eval, ← lam_back, xl_rev (E.length + 1) (fun i => mul (lam X E i) (pown x (E.length - i)))]
  refine xl_congr _ (fun i hi => ?_)
  have hi' := List.mem_range.1 hi
  rw [co_locP, show E.length + 1 - 1 - i = E.length - i by omega, show E.length - (E.length - i) = i by omega]
  congr 1
  by_cases h : i < E.length
  · rw [if_pos h, hy i h]
  · rw [if_neg h, if_pos (by omega), show E.length - i = 0 by omega, lam_zero]
theorem foldr_zero (X : Nat → BitVec 8) (x : BitVec 8) : ∀ E : List Nat, E.foldr (fun p s => mul (x ^^^ X p) s) 1#8 = 0#8 ↔ ∃ p, p ∈ E ∧ x = X p
  | [] => by
    show (1#8 = 0#8) ↔ _
    constructor
    · intro h; exact absurd h (by decide)
    · rintro ⟨p, hp, _⟩; cases hp
  | q :: E => by
    rw [List.foldr_cons]
    constructor
    · intro h
      rcases mul_eq_zero h with h1 | h1
      · exact ⟨q, List.mem_cons_self, xor_eq_zero.1 h1⟩
      · obtain ⟨p, hp, e⟩ := (foldr_zero X x E).1 h1
        exact ⟨p, List.mem_cons_of_mem _ hp, e⟩
    · rintro ⟨p, hp, rfl⟩
      rcases List.mem_cons.1 hp with rfl | hp
      · rw [BitVec.xor_self, Gal.zero_mul]
      · rw [(foldr_zero X (X p) E).2 ⟨p, hp, rfl⟩, Gal.mul_zero]
/-- The erased places in order. -/
def ers (er : Nat → Bool) (n : Nat) : List Nat := (List.range n).filter er
theorem mem_ers {er : Nat → Bool} {n p : Nat} : p ∈ ers er n ↔ p < n ∧ er p = true := by
  unfold ers
  rw [List.mem_filter, List.mem_range]
theorem ers_nodup (er : Nat → Bool) (n : Nat) : (ers er n).Nodup := List.nodup_range.filter _
theorem ers_contains (er : Nat → Bool) {n p : Nat} (h : p < n) : (ers er n).contains p = er p := by
  rw [Bool.eq_iff_iff, List.contains_iff_mem, mem_ers]
  exact ⟨fun q => q.2, fun q => ⟨h, q⟩⟩
theorem ers_succ (er : Nat → Bool) (n : Nat) : ers er (n + 1) = if er n then ers er n ++ [n] else ers er n := by
  unfold ers
  rw [List.range_succ, List.filter_append]
  by_cases h : er n
  · rw [if_pos h]; simp [h]
  · rw [if_neg h]; simp [h]
theorem twist_snoc (X : Nat → BitVec 8) (f : List Nat) (q : Nat) (S : Nat → BitVec 8) : twist X (f ++ [q]) S = tstep X (twist X f S) q := by
  unfold twist
  rw [List.foldl_append]
  rfl
/-- The doubtful places in order. -/
def dbt (er : Nat → Bool) (X : Nat → BitVec 8) (l : List UInt8) (p : Nat) : Bool := er p || decide (Gal.evalV l (X p) = 0#8)
theorem dbt_length (er : Nat → Bool) (y : Nat → BitVec 8) (e : Nat) {n : Nat} (hn : n ≤ 255) : (ers (dbt er (elem n) (locP y e)) n).length ≤ (ers er n).length + e := by
  have h1 := count_or (dbt er (elem n) (locP y e)) er (fun p => decide (Gal.evalV (locP y e) (elem n p) = 0#8)) (List.range n) (fun x _ hx => by
    unfold dbt at hx
    rw [Bool.or_eq_true] at hx
    exact hx)
  have h2 := locP_roots (elem n) y e ((List.range n).filter (fun p => decide (Gal.evalV (locP y e) (elem n p) = 0#8))) (List.nodup_range.filter _) (fun i hi j hj q => elem_inj hn (List.mem_range.1 (List.mem_filter.1 hi).1) (List.mem_range.1 (List.mem_filter.1 hj).1) q) (fun p hp => by
    have := (List.mem_filter.1 hp).2
    simpa using this)
  unfold ers
  omega
/-- What is found differs from the word in the doubtful places alone: it is near. -/
theorem dbt_near {b c : List UInt8} {er : Nat → Bool} {y : Nat → BitVec 8} {e : Nat} (hn : b.length ≤ 255) (hc : Code c) (hl : c.length = b.length) (he : (ers er b.length).length + 2 * e ≤ 8)
    (ho : ∀ p, p < b.length → co b p ≠ co c p → p ∈ ers (dbt er (elem b.length) (locP y e)) b.length) : Near b (ers er b.length) c := by
  have h2 := locP_roots (elem b.length) y e ((List.range b.length).filter (fun p => decide (Gal.evalV (locP y e) (elem b.length p) = 0#8))) (List.nodup_range.filter _) (fun i hi j hj q => elem_inj hn (List.mem_range.1 (List.mem_filter.1 hi).1) (List.mem_range.1 (List.mem_filter.1 hj).1) q) (fun p hp => by
    have := (List.mem_filter.1 hp).2
    simpa using this)
  refine near_of_places hc hl e h2 he (fun p hp hne hf => ?_)
  have := (mem_ers.1 (ho p hp hne)).2
  unfold dbt at this
  rw [Bool.or_eq_true] at this
  rcases this with h | h
  · exact absurd (mem_ers.2 ⟨hp, h⟩) hf
  · exact List.mem_filter.2 ⟨List.mem_range.2 hp, h⟩
section
variable {b c : List UInt8} {er : Nat → Bool} {n : Nat} (hb : b.length = n) (h : Near b (ers er n) c) (hn : n ≤ 231)
include hb h hn
theorem prg_solves : Solves (locB (twist (elem n) (ers er n) (syn b)) (ers er n).length (besides b c (ers er n))) (besides b c (ers er n)) (fun j => lam (elem n) (wrong b c (ers er n)) (besides b c (ers er n) - j)) 1#8 := by
  rw [locB_solves]
  have h3 := h.2.2
  have := (loc_found (f := ers er n) h.1 h.2.1 (by omega) (fun q hq => by rw [hb]; exact (mem_ers.1 hq).1) (by omega)).1
  rw [hb] at this
  intro r hr
  have h4 := this r hr
  rw [← h4]
  refine xl_congr _ (fun i hi => ?_)
  have hi' := List.mem_range.1 hi
  show mul _ (lam (elem n) (wrong b c (ers er n)) (besides b c (ers er n) - (besides b c (ers er n) - 1 - i))) = _
  rw [show besides b c (ers er n) - (besides b c (ers er n) - 1 - i) = i + 1 by omega]
theorem prg_kernel (z : Nat → BitVec 8) (hz : Solves (locB (twist (elem n) (ers er n) (syn b)) (ers er n).length (besides b c (ers er n))) (besides b c (ers er n)) z 0#8) : ∀ i, i < besides b c (ers er n) → z i = 0#8 := by
  intro i hi
  rw [locB_solves] at hz
  have h3 := h.2.2
  have := (loc_found (f := ers er n) h.1 h.2.1 (by omega) (fun q hq => by rw [hb]; exact (mem_ers.1 hq).1) (by omega)).2
  rw [hb] at this
  have h4 := this _ hz (besides b c (ers er n) - 1 - i) (by omega)
  rwa [show besides b c (ers er n) - 1 - (besides b c (ers er n) - 1 - i) = i by omega] at h4
omit h in
/-- The doubtful places of the right locator: the erased ones and the wrong ones. -/
theorem prg_places (y : Nat → BitVec 8) (hy : ∀ r, r < besides b c (ers er n) → lam (elem n) (wrong b c (ers er n)) (besides b c (ers er n) - r) = y r) {p : Nat} (hp : p < n) :
    dbt er (elem n) (locP y (besides b c (ers er n))) p = true ↔ er p = true ∨ p ∈ wrong b c (ers er n) := by
  unfold dbt
  rw [Bool.or_eq_true, decide_eq_true_eq, ← wrong_length, locP_lam (elem n) _ y (fun j hj => (hy j (by rw [wrong_length] at hj; exact hj)).symm), foldr_zero]
  refine or_congr Iff.rfl ⟨?_, fun q => ⟨p, q, rfl⟩⟩
  rintro ⟨q, hq, e⟩
  have := elem_inj (show n ≤ 255 by omega) hp (by rw [← hb]; exact (mem_wrong.1 hq).1) e
  exact this ▸ hq
/-- The right changes are the only ones, and they make the code block. -/
theorem prg_mends (l : List Nat) (hl : l = ers (fun p => er p || (wrong b c (ers er n)).contains p) n) : Solves (mendM b l) l.length (fun k => dlt b c (l.getD k 0)) 1#8 ∧
    (∀ z, Solves (mendM b l) l.length z 0#8 → ∀ i, i < l.length → z i = 0#8) ∧
    (∀ y, (∀ i, i < l.length → y i = dlt b c (l.getD i 0)) → Gal.coefs (patch b l y l.length) n = c) := by
  have h3 := h.2.2
  have nd : l.Nodup := by rw [hl]; exact ers_nodup _ _
  have pl : ∀ q, q ∈ l → q < b.length := fun q hq => by rw [hl] at hq; rw [hb]; exact (mem_ers.1 hq).1
  have l8 : l.length ≤ 8 := by
    have := count_or (fun p => er p || (wrong b c (ers er n)).contains p) er (fun p => (wrong b c (ers er n)).contains p) (List.range n) (fun x _ hx => by rwa [Bool.or_eq_true] at hx)
    have h4 := count_in (wrong b c (ers er n)) (List.range n) List.nodup_range
    rw [wrong_length] at h4
    rw [hl]
    unfold ers at h3 h4 this ⊢
    omega
  have out : ∀ p, p < b.length → p ∉ l → co b p = co c p := fun p hp hm => by
    apply Classical.byContradiction
    intro ne
    apply hm
    rw [hl]
    refine mem_ers.2 ⟨by rw [← hb]; exact hp, ?_⟩
    rw [Bool.or_eq_true, List.contains_iff_mem]
    by_cases q : er p = true
    · exact .inl q
    · exact .inr (mem_wrong.2 ⟨hp, ne, fun q2 => q (mem_ers.1 q2).2⟩)
  obtain ⟨s1, s2⟩ := mend_found h.1 h.2.1 (by omega) nd pl l8 out
  exact ⟨s1, s2, fun y hy => by rw [← hb]; exact patch_found h.2.1 nd out hy⟩
end
section
variable {b c : List UInt8} {er : Nat → Bool} {n q : Nat} (hb : b.length = n) (hn : n ≤ 231)
include hb hn
/-- Where the locator's equations have more than one solution or none, there is no code block with so many wrong places. -/
theorem no_locator (hk : ∃ z r, r < q ∧ Solves (locB (twist (elem n) (ers er n) (syn b)) (ers er n).length q) q z 0#8 ∧ z r = 1#8) (h : Near b (ers er n) c) : besides b c (ers er n) ≠ q := by
  rintro rfl
  obtain ⟨z, r, hr, hz, h1⟩ := hk
  have := prg_kernel hb h hn z hz r hr
  rw [this] at h1
  exact absurd h1 (by decide)
theorem right_places {y : Nat → BitVec 8} (hU : ∀ z, Solves (locB (twist (elem n) (ers er n) (syn b)) (ers er n).length q) q z 1#8 → ∀ r, r < q → z r = y r) (h : Near b (ers er n) c) (hq : besides b c (ers er n) = q) :
    ers (dbt er (elem n) (locP y q)) n = ers (fun p => er p || (wrong b c (ers er n)).contains p) n := by
  subst hq
  have hy := hU _ (prg_solves hb h hn)
  have key : ∀ p, p ∈ List.range n → dbt er (elem n) (locP y (besides b c (ers er n))) p = (er p || (wrong b c (ers er n)).contains p) := fun p hp => by
    have hp' := List.mem_range.1 hp
    rw [Bool.eq_iff_iff, prg_places hb hn y hy hp', Bool.or_eq_true, List.contains_iff_mem]
  exact List.filter_congr key
theorem no_mend {y : Nat → BitVec 8} (hU : ∀ z, Solves (locB (twist (elem n) (ers er n) (syn b)) (ers er n).length q) q z 1#8 → ∀ r, r < q → z r = y r)
    (hk : ∃ z r, r < (ers (dbt er (elem n) (locP y q)) n).length ∧ Solves (mendM b (ers (dbt er (elem n) (locP y q)) n)) (ers (dbt er (elem n) (locP y q)) n).length z 0#8 ∧ z r = 1#8) (h : Near b (ers er n) c) : besides b c (ers er n) ≠ q := by
  intro hq
  obtain ⟨z, r, hr, hz, h1⟩ := hk
  have := (prg_mends hb h hn _ (right_places hb hn hU h hq)).2.1 z hz r hr
  rw [this] at h1
  exact absurd h1 (by decide)
theorem mend_code {y v : Nat → BitVec 8} (hU : ∀ z, Solves (locB (twist (elem n) (ers er n) (syn b)) (ers er n).length q) q z 1#8 → ∀ r, r < q → z r = y r)
    (hV : ∀ z, Solves (mendM b (ers (dbt er (elem n) (locP y q)) n)) (ers (dbt er (elem n) (locP y q)) n).length z 1#8 → ∀ r, r < (ers (dbt er (elem n) (locP y q)) n).length → z r = v r) (h : Near b (ers er n) c) (hq : besides b c (ers er n) = q) :
    Gal.coefs (patch b (ers (dbt er (elem n) (locP y q)) n) v (ers (dbt er (elem n) (locP y q)) n).length) n = c := by
  obtain ⟨s1, _, s3⟩ := prg_mends hb h hn _ (right_places hb hn hU h hq)
  exact s3 v (fun i hi => (hV _ s1 i hi).symm)
/-- What is mended to a code block is near. -/
theorem mend_near {y v : Nat → BitVec 8} (hl : (ers er n).length + 2 * q ≤ 8) (hc : Code (Gal.coefs (patch b (ers (dbt er (elem n) (locP y q)) n) v (ers (dbt er (elem n) (locP y q)) n).length) n)) :
    Near b (ers er n) (Gal.coefs (patch b (ers (dbt er (elem n) (locP y q)) n) v (ers (dbt er (elem n) (locP y q)) n).length) n) := by
  subst hb
  exact dbt_near (y := y) (e := q) (by omega) hc (Gal.coefs_length _ _) hl (fun p hp hne => patch_places hp hne)
end
theorem pw_ne0 (m : Nat) : Gal.pw m ≠ 0#8 := by
  intro h
  have e := Gal.pwi_add (m : Int) (-(m : Int))
  rw [Gal.pwi_nat, h, Gal.zero_mul, show (m : Int) + -(m : Int) = 0 by omega] at e
  exact absurd e (by decide +kernel)
theorem powV_elem (n p i : Nat) : Gal.powV (elem n p) (i : Nat) = pown (elem n p) i := by
  have h : elem n p ≠ 0#8 := pw_ne0 _
  rw [Gal.pown_eq h]
  unfold Gal.powV
  rw [if_neg h]
/-- The data of a block, and in how many places blocks differ, by their bytes. -/
theorem coefs_take (f : Nat → BitVec 8) {m n : Nat} (h : m ≤ n) : (Gal.coefs f n).take m = Gal.coefs f m := by
  unfold Gal.coefs
  rw [← List.map_take, List.take_range, Nat.min_eq_left h]
end Blk
end Go.Proofs.YtlpjhmafplljaaaGreatDoor
/- The contracts of block's syndrome, without, doubtful, locator over this program. -/
namespace Go.Proofs.YtlpjhmafplljaaaGreatDoor
open Go.RowKit
set_option linter.unusedVariables false

theorem info_i64 : (Tryz.prog.info? 3).map (fun i => (i.zero, i.size, i.bytes)) = some (some (.int .i64 0), 1, 8) := by kernel_rfl
structure SynRegion (pb i : Nat) (str : ByteArray) (A : Act) (w0 : World) (s : Nat → Bool) (a : Act) (w : World) : Prop where
  off : Off [4, 5, 6, 7] a A
  before : Below w0.heap.size w0 w
  t0 : s 0 = true → a.eval (.tmp 4) = .string str
  t1 : s 1 = true → a.eval (.tmp 5) = .int .i64 (i : Nat)
  t2 : s 2 = true → a.eval (.tmp 6) = .int .u8 ((Gal.pwi (i : Nat)).toNat : Nat)
  t3 : s 3 = true → a.eval (.tmp 7) = .int .u8 ((Gal.evalV str.data.toList (Gal.pwi (i : Nat))).toNat : Nat)
set_option maxHeartbeats 2000000 in
set_option maxRecDepth 100000 in
theorem synRegion {id : Nat} {l : List Oper} {A : Act} {w : World} {Q : Exit → Act → World → Prop} (pb i : Nat) (str : ByteArray)
    (hstr : str.size ≤ 1000000) (hp : pb < w.heap.size) (hc : w.cell? ⟨pb, 0, none⟩ = some (.string str))
    (hB : tableH l.toArray 4 (fun i => match i with | 0 => [] | 1 => [] | 2 => [1] | 3 => [0, 2] | _ => []) (fun _ => []) = true)
    (h0 : pick l 0 = some (.load 9 (.tmp 1), some 4))
    (h1 : pick l 1 = some (.move (.tmp 0), some 5))
    (h2 : pick l 2 = some (.call { callee := .value (.func 66), args := #[.tmp 5], argTypes := #[3] }, some 6))
    (h3 : pick l 3 = some (.call { callee := .value (.func 90), args := #[.tmp 4, .tmp 6], argTypes := #[9, 5] }, some 7))
    (hs : A.tmps.size = 8)
    (x0 : A.eval (.tmp 0) = .int .i64 (i : Nat))
    (x1 : A.eval (.tmp 1) = .pointer (some ⟨pb, 0, none⟩))
    (h : ∀ w1, Below w.heap.size w w1 → wpList Tryz.prog l.toArray Q (l.drop 4) ((((A.put (some 4) (.string str)).put (some 5) (.int .i64 (i : Nat))).put (some 6) (.int .u8 ((Gal.pwi (i : Nat)).toNat : Nat))).put (some 7) (.int .u8 ((Gal.evalV str.data.toList (Gal.pwi (i : Nat))).toNat : Nat))) w1) :
    (Code.region id l.toArray true).wp Tryz.prog Q A w := by
  refine wp_region_head (by kernel_rfl) _ _ _ hB (SynRegion pb i str A w) ⟨Off.refl _ _, (Below.refl _ _).drew, by simp, by simp, by simp, by simp⟩ ?_ ?_
  · intro s a w' S i' o il ho hsi hT K hK
    have sz : a.tmps.size = 8 := by rw [S.off.2.1]; exact hs
    have y0 : a.eval (.tmp 0) = .int .i64 (i : Nat) := by rw [S.off.eval (by decide)]; exact x0
    have y1 : a.eval (.tmp 1) = .pointer (some ⟨pb, 0, none⟩) := by rw [S.off.eval (by decide)]; exact x1
    match i', il, ho, hsi, hT with
    | 0, _, ho, hsi, hT =>
      obtain ⟨e1, e2⟩ := pick_of h0 ho
      have BW := S.before
      have cl := (BW.cell (p := ⟨pb, 0, none⟩) hp).trans hc
      refine step_val (v := .string str) (by simp only [execOp, e1, y1]; go_simp) (hK _ _ ?_)
      rw [e2]
      exact ⟨S.off.put (by decide) _, S.before, fun _ => (eval_put _ _ _ (by omega)).trans rfl, kp S.t1, kp S.t2, kp S.t3⟩
    | 1, _, ho, hsi, hT =>
      obtain ⟨e1, e2⟩ := pick_of h1 ho
      have BW := S.before
      refine step_val (v := .int .i64 (i : Nat)) (by simp only [execOp, e1, y0]; go_simp) (hK _ _ ?_)
      rw [e2]
      exact ⟨S.off.put (by decide) _, S.before, kp S.t0, fun _ => (eval_put _ _ _ (by omega)).trans rfl, kp S.t2, kp S.t3⟩
    | 2, _, ho, hsi, hT =>
      obtain ⟨e1, e2⟩ := pick_of h2 ho
      have D1 : s 1 = true := list_pos hT (d := 1) (by decide)
      have BW := S.before
      refine step_call 66 (fun args w => by go_simp) _ _ e1 #[.int .i64 (i : Nat)] (by simp only [List.map_toArray, List.map_cons, List.map_nil, S.t1 D1]) ((bpower_any (i : Nat) _).mono ?_)
      rintro e w2 ⟨rfl, BB⟩
      refine ⟨_, rfl, hK _ _ ?_⟩
      rw [e2]
      exact ⟨S.off.put (by decide) _, bt BW BB, kp S.t0, kp S.t1, fun _ => (eval_put _ _ _ (by omega)).trans rfl, kp S.t3⟩
    | 3, _, ho, hsi, hT =>
      obtain ⟨e1, e2⟩ := pick_of h3 ho
      have D0 : s 0 = true := list_pos hT (d := 0) (by decide)
      have D2 : s 2 = true := list_pos hT (d := 2) (by decide)
      have BW := S.before
      refine step_call 90 (fun args w => by go_simp) _ _ e1 #[.string str, .int .u8 ((Gal.pwi (i : Nat)).toNat : Nat)] (by simp only [List.map_toArray, List.map_cons, List.map_nil, S.t0 D0, S.t2 D2]) ((eval_any str (Gal.pwi (i : Nat)) hstr _).mono ?_)
      rintro e w2 ⟨rfl, BB⟩
      refine ⟨_, rfl, hK _ _ ?_⟩
      rw [e2]
      exact ⟨S.off.put (by decide) _, bt BW BB, kp S.t0, kp S.t1, kp S.t2, fun _ => (eval_put _ _ _ (by omega)).trans rfl⟩
    | _ + 4, il, _, _, _ => exact absurd il (by omega)
  · intro s a w' S hall
    have a0 := hall 0 (by omega)
    have a1 := hall 1 (by omega)
    have a2 := hall 2 (by omega)
    have a3 := hall 3 (by omega)
    have e := off_norm _ (by intro d hd; simp at hd; omega) S.off
    simp only [List.foldl, S.t0 a0, S.t1 a1, S.t2 a2, S.t3 a3] at e
    rw [e]
    exact h _ S.before
theorem syn1_any (pb i : Nat) (s : ByteArray) (b : List UInt8) (hs : s = ⟨b.reverse.toArray⟩) (hb : b.length ≤ 1000) (w : World) (hp : pb < w.heap.size) (hc : w.cell? ⟨pb, 0, none⟩ = some (.string s)) :
    Calls Tryz.prog 89 (#[] ++ #[.int .i64 (i : Nat)] ++ #[.pointer (some ⟨pb, 0, none⟩)]) w fun e w' => e = .returned (.int .u8 ((Blk.syn b i).toNat : Nat)) ∧ Below w.heap.size w w' := by
  show Calls Tryz.prog 89 #[.int .i64 (i : Nat), .pointer (some ⟨pb, 0, none⟩)] w _
  have e1 : Blk.syn b i = Gal.evalV s.data.toList (Gal.pwi (i : Nat)) := by rw [Blk.syn_eval, Gal.pwi_nat, hs]
  rw [e1]
  have hz : s.size ≤ 1000000 := by rw [hs, sz, List.length_reverse]; omega
  clear e1 hs
  go_enter Tryz.func89, Tryz.ntmps89
  go_upto_region 1 with fail
  refine synRegion pb i s hz hp hc (by kernel_rfl) rfl rfl rfl rfl rfl rfl rfl ?_
  intro w1 B1
  simp only [Act.put, List.setIfInBounds_toArray, List.set_cons_succ, List.set_cons_zero, List.drop_succ_cons, List.drop_zero]
  have HB := Lib.hid B1
  obtain ⟨v, hv⟩ : ∃ v, (Gal.evalV s.data.toList (Gal.pwi (i : Nat))).toNat = v := ⟨_, rfl⟩
  rw [hv]
  have HV := Lib.hid hv
  clear hv B1 hc
  go_wp2_with fail
  go_ret
  exact ⟨by rw [HV.out]; rfl, HB.out⟩
/-- What syndrome does. -/
def SynP (n : Nat) (f : Nat → BitVec 8) (w : World) (e : Ending) (w' : World) : Prop :=
  ∃ pb, e = .returned (.func (.func 89) #[] #[.pointer (some ⟨pb, 0, none⟩)]) ∧ w.heap.size ≤ pb ∧ pb < w'.heap.size ∧ w'.cell? ⟨pb, 0, none⟩ = some (.string ⟨(Gal.coefs f n).reverse.toArray⟩) ∧ Below w.heap.size w w'
theorem syndrome_any (b cb n : Nat) (s2 : Value) (f : Nat → BitVec 8) (hn : n ≤ 1000) (w : World) (H : NumsK .u8 w b n (fun j => (f j).toNat)) :
    Calls Tryz.prog 69 #[.agg #[.slice (some ⟨b, 0, none⟩) n cb, s2]] w (SynP n f w) := by
  have CV := Lib.hid (nums_back cb (H.alloc (.cells #[.slice (some ⟨b, 0, none⟩) n cb, s2] 53)))
  have B0 := Lib.hid (ba (Below.refl w.heap.size w) (.cells #[.slice (some ⟨b, 0, none⟩) n cb, s2] 53))
  have RV := Lib.hid (fun w => reversed_any ⟨(Gal.coefs f n).toArray⟩ (by rw [sz, Gal.coefs_length]; omega) w)
  rw [show (⟨(Gal.coefs f n).toArray⟩ : ByteArray).data.toList = Gal.coefs f n from rfl] at RV
  unfold SynP
  obtain ⟨s, hs⟩ : ∃ s : ByteArray, (⟨(Gal.coefs f n).reverse.toArray⟩ : ByteArray) = s := ⟨_, rfl⟩
  obtain ⟨d, hd⟩ : ∃ s : ByteArray, (⟨(Gal.coefs f n).toArray⟩ : ByteArray) = s := ⟨_, rfl⟩
  rw [hs] at RV ⊢
  rw [hd] at RV CV
  have P : Hid (∀ w1 : World, Below w.heap.size w w1 → ∀ w2, w2 = (w1.alloc (.cells #[.string s] 9)) → ∃ pb, Ending.returned (.func (.func 89) #[] #[.pointer (some ⟨w1.heap.size, 0, none⟩)]) = .returned (.func (.func 89) #[] #[.pointer (some ⟨pb, 0, none⟩)]) ∧ w.heap.size ≤ pb ∧ pb < w2.heap.size ∧ w2.cell? ⟨pb, 0, none⟩ = some (.string s) ∧ Below w.heap.size w w2) := Lib.hid (by
    rintro w1 hB w2 rfl
    exact ⟨w1.heap.size, rfl, hB.size, by rw [World.size_alloc]; omega, World.cell?_alloc_new w1 _ _ 0, ba hB _⟩)
  have hmf : ∀ (fn : Fn) (first cap : Array Value) (w : World), (Instr.makeFunc fn first cap).run Tryz.prog w = .ok (.func fn first cap) w := fun _ _ _ _ => rfl
  clear H hs hd
  go_enter Tryz.func69, Tryz.ntmps69
  go_wp2_with (simp only [CV.out])
  (with_reducible refine (RV.out _).mono ?_)
  rintro e w1 ⟨rfl, h1⟩
  have B1 := Lib.hid (bt B0.out h1)
  clear h1 RV CV
  go_wp2_with fail
  go_ret
  exact P.out _ B1.out _ rfl
structure WoRegion (g C L i : Nat) (x y z : BitVec 8) (sv : Value) (A : Act) (w0 : World) (s : Nat → Bool) (a : Act) (w : World) : Prop where
  off : Off [13, 14, 15, 16, 17, 18, 19, 20, 21, 22, 23, 24, 25, 26] a A
  before : Below w0.heap.size w0 w
  t0 : s 0 = true → a.eval (.tmp 13) = sv
  t1 : s 1 = true → a.eval (.tmp 14) = .int .u8 (x.toNat : Nat)
  t2 : s 2 = true → a.eval (.tmp 15) = .slice (some ⟨g, 0, none⟩) L C
  t3 : s 3 = true → a.eval (.tmp 16) = .int .i64 (i : Nat)
  t4 : s 4 = true → a.eval (.tmp 17) = .pointer (some ⟨g, i, none⟩)
  t5 : s 5 = true → a.eval (.tmp 18) = .int .u8 (y.toNat : Nat)
  t6 : s 6 = true → a.eval (.tmp 19) = .int .u8 ((Gal.mul x y).toNat : Nat)
  t7 : s 7 = true → a.eval (.tmp 20) = .slice (some ⟨g, 0, none⟩) L C
  t8 : s 8 = true → a.eval (.tmp 21) = .int .i64 (i : Nat)
  t9 : s 9 = true → a.eval (.tmp 22) = .int .i64 ((i + 1 : Nat) : Int)
  t10 : s 10 = true → a.eval (.tmp 23) = .pointer (some ⟨g, (i + 1), none⟩)
  t11 : s 11 = true → a.eval (.tmp 24) = .int .u8 (z.toNat : Nat)
  t12 : s 12 = true → a.eval (.tmp 25) = .int .u8 ((Gal.mul x y ^^^ z).toNat : Nat)
  t13 : s 13 = true → ∃ v13, a.eval (.tmp 26) = v13 ∧ Bld (.int .u8 ((Gal.mul x y ^^^ z).toNat : Nat)) v13 w
set_option maxHeartbeats 2000000 in
set_option maxRecDepth 100000 in
theorem woRegion {id : Nat} {l : List Oper} {A : Act} {w : World} {Q : Exit → Act → World → Prop} (g C L i : Nat) (x y z : BitVec 8) (sv : Value)
    (hi : i + 1 < L) (hL : L ≤ 1000) (hg : g < w.heap.size) (hy : w.cell? ⟨g, i, none⟩ = some (.int .u8 (y.toNat : Nat))) (hz : w.cell? ⟨g, i + 1, none⟩ = some (.int .u8 (z.toNat : Nat)))
    (hB : tableH l.toArray 14 (fun i => match i with | 0 => [] | 1 => [] | 2 => [] | 3 => [] | 4 => [2, 3] | 5 => [4] | 6 => [1, 5] | 7 => [] | 8 => [] | 9 => [8] | 10 => [7, 9] | 11 => [10] | 12 => [6, 11] | 13 => [12] | _ => []) (fun _ => []) = true)
    (h0 : pick l 0 = some (.move (.tmp 5), some 13))
    (h1 : pick l 1 = some (.move (.tmp 1), some 14))
    (h2 : pick l 2 = some (.move (.tmp 0), some 15))
    (h3 : pick l 3 = some (.move (.tmp 6), some 16))
    (h4 : pick l 4 = some (.indexAddr 41 (.tmp 15) (.tmp 16), some 17))
    (h5 : pick l 5 = some (.load 5 (.tmp 17), some 18))
    (h6 : pick l 6 = some (.call { callee := .value (.func 103), args := #[.tmp 14, .tmp 18], argTypes := #[5, 5] }, some 19))
    (h7 : pick l 7 = some (.move (.tmp 0), some 20))
    (h8 : pick l 8 = some (.move (.tmp 6), some 21))
    (h9 : pick l 9 = some (.binOp .add 3 (.tmp 21) (.const (.int .i64 1)) 3, some 22))
    (h10 : pick l 10 = some (.indexAddr 41 (.tmp 20) (.tmp 22), some 23))
    (h11 : pick l 11 = some (.load 5 (.tmp 23), some 24))
    (h12 : pick l 12 = some (.binOp .xor 5 (.tmp 19) (.tmp 24) 5, some 25))
    (h13 : pick l 13 = some (.buildSlice 41 1 #[(0, .tmp 25)], some 26))
    (hs : A.tmps.size = 30)
    (x0 : A.eval (.tmp 0) = .slice (some ⟨g, 0, none⟩) L C)
    (x1 : A.eval (.tmp 1) = .int .u8 (x.toNat : Nat))
    (x5 : A.eval (.tmp 5) = sv)
    (x6 : A.eval (.tmp 6) = .int .i64 (i : Nat))
    (h : ∀ v13 w1, Below w.heap.size w w1 → Bld (.int .u8 ((Gal.mul x y ^^^ z).toNat : Nat)) v13 w1 → wpList Tryz.prog l.toArray Q (l.drop 14) ((((((((((((((A.put (some 13) (sv)).put (some 14) (.int .u8 (x.toNat : Nat))).put (some 15) (.slice (some ⟨g, 0, none⟩) L C)).put (some 16) (.int .i64 (i : Nat))).put (some 17) (.pointer (some ⟨g, i, none⟩))).put (some 18) (.int .u8 (y.toNat : Nat))).put (some 19) (.int .u8 ((Gal.mul x y).toNat : Nat))).put (some 20) (.slice (some ⟨g, 0, none⟩) L C)).put (some 21) (.int .i64 (i : Nat))).put (some 22) (.int .i64 ((i + 1 : Nat) : Int))).put (some 23) (.pointer (some ⟨g, (i + 1), none⟩))).put (some 24) (.int .u8 (z.toNat : Nat))).put (some 25) (.int .u8 ((Gal.mul x y ^^^ z).toNat : Nat))).put (some 26) (v13)) w1) :
    (Code.region id l.toArray true).wp Tryz.prog Q A w := by
  refine wp_region_head (by kernel_rfl) _ _ _ hB (WoRegion g C L i x y z sv A w) ⟨Off.refl _ _, (Below.refl _ _).drew, by simp, by simp, by simp, by simp, by simp, by simp, by simp, by simp, by simp, by simp, by simp, by simp, by simp, by simp⟩ ?_ ?_
  · intro s a w' S i' o il ho hsi hT K hK
    have sz : a.tmps.size = 30 := by rw [S.off.2.1]; exact hs
    have y0 : a.eval (.tmp 0) = .slice (some ⟨g, 0, none⟩) L C := by rw [S.off.eval (by decide)]; exact x0
    have y1 : a.eval (.tmp 1) = .int .u8 (x.toNat : Nat) := by rw [S.off.eval (by decide)]; exact x1
    have y5 : a.eval (.tmp 5) = sv := by rw [S.off.eval (by decide)]; exact x5
    have y6 : a.eval (.tmp 6) = .int .i64 (i : Nat) := by rw [S.off.eval (by decide)]; exact x6
    match i', il, ho, hsi, hT with
    | 0, _, ho, hsi, hT =>
      obtain ⟨e1, e2⟩ := pick_of h0 ho
      have BW := S.before
      refine step_val (v := sv) (by simp only [execOp, e1, y5]; go_simp) (hK _ _ ?_)
      rw [e2]
      exact ⟨S.off.put (by decide) _, S.before, fun _ => (eval_put _ _ _ (by omega)).trans rfl, kp S.t1, kp S.t2, kp S.t3, kp S.t4, kp S.t5, kp S.t6, kp S.t7, kp S.t8, kp S.t9, kp S.t10, kp S.t11, kp S.t12, fun g => (S.t13 (by simpa using g)).imp fun b hb => ⟨by rw [eval_put_ne _ _ _ _ (by decide)]; exact hb.1, hb.2⟩⟩
    | 1, _, ho, hsi, hT =>
      obtain ⟨e1, e2⟩ := pick_of h1 ho
      have BW := S.before
      refine step_val (v := .int .u8 (x.toNat : Nat)) (by simp only [execOp, e1, y1]; go_simp) (hK _ _ ?_)
      rw [e2]
      exact ⟨S.off.put (by decide) _, S.before, kp S.t0, fun _ => (eval_put _ _ _ (by omega)).trans rfl, kp S.t2, kp S.t3, kp S.t4, kp S.t5, kp S.t6, kp S.t7, kp S.t8, kp S.t9, kp S.t10, kp S.t11, kp S.t12, fun g => (S.t13 (by simpa using g)).imp fun b hb => ⟨by rw [eval_put_ne _ _ _ _ (by decide)]; exact hb.1, hb.2⟩⟩
    | 2, _, ho, hsi, hT =>
      obtain ⟨e1, e2⟩ := pick_of h2 ho
      have BW := S.before
      refine step_val (v := .slice (some ⟨g, 0, none⟩) L C) (by simp only [execOp, e1, y0]; go_simp) (hK _ _ ?_)
      rw [e2]
      exact ⟨S.off.put (by decide) _, S.before, kp S.t0, kp S.t1, fun _ => (eval_put _ _ _ (by omega)).trans rfl, kp S.t3, kp S.t4, kp S.t5, kp S.t6, kp S.t7, kp S.t8, kp S.t9, kp S.t10, kp S.t11, kp S.t12, fun g => (S.t13 (by simpa using g)).imp fun b hb => ⟨by rw [eval_put_ne _ _ _ _ (by decide)]; exact hb.1, hb.2⟩⟩
    | 3, _, ho, hsi, hT =>
      obtain ⟨e1, e2⟩ := pick_of h3 ho
      have BW := S.before
      refine step_val (v := .int .i64 (i : Nat)) (by simp only [execOp, e1, y6]; go_simp) (hK _ _ ?_)
      rw [e2]
      exact ⟨S.off.put (by decide) _, S.before, kp S.t0, kp S.t1, kp S.t2, fun _ => (eval_put _ _ _ (by omega)).trans rfl, kp S.t4, kp S.t5, kp S.t6, kp S.t7, kp S.t8, kp S.t9, kp S.t10, kp S.t11, kp S.t12, fun g => (S.t13 (by simpa using g)).imp fun b hb => ⟨by rw [eval_put_ne _ _ _ _ (by decide)]; exact hb.1, hb.2⟩⟩
    | 4, _, ho, hsi, hT =>
      obtain ⟨e1, e2⟩ := pick_of h4 ho
      have D2 : s 2 = true := list_pos hT (d := 2) (by decide)
      have D3 : s 3 = true := list_pos hT (d := 3) (by decide)
      have BW := S.before
      refine step_val (v := .pointer (some ⟨g, i, none⟩)) (by simp only [execOp, e1, S.t2 D2, S.t3 D3]; go_simp; intro h; omega) (hK _ _ ?_)
      rw [e2]
      exact ⟨S.off.put (by decide) _, S.before, kp S.t0, kp S.t1, kp S.t2, kp S.t3, fun _ => (eval_put _ _ _ (by omega)).trans rfl, kp S.t5, kp S.t6, kp S.t7, kp S.t8, kp S.t9, kp S.t10, kp S.t11, kp S.t12, fun g => (S.t13 (by simpa using g)).imp fun b hb => ⟨by rw [eval_put_ne _ _ _ _ (by decide)]; exact hb.1, hb.2⟩⟩
    | 5, _, ho, hsi, hT =>
      obtain ⟨e1, e2⟩ := pick_of h5 ho
      have D4 : s 4 = true := list_pos hT (d := 4) (by decide)
      have BW := S.before
      have cl := (BW.cell (p := ⟨g, i, none⟩) hg).trans hy
      refine step_val (v := .int .u8 (y.toNat : Nat)) (by simp only [execOp, e1, S.t4 D4]; go_simp) (hK _ _ ?_)
      rw [e2]
      exact ⟨S.off.put (by decide) _, S.before, kp S.t0, kp S.t1, kp S.t2, kp S.t3, kp S.t4, fun _ => (eval_put _ _ _ (by omega)).trans rfl, kp S.t6, kp S.t7, kp S.t8, kp S.t9, kp S.t10, kp S.t11, kp S.t12, fun g => (S.t13 (by simpa using g)).imp fun b hb => ⟨by rw [eval_put_ne _ _ _ _ (by decide)]; exact hb.1, hb.2⟩⟩
    | 6, _, ho, hsi, hT =>
      obtain ⟨e1, e2⟩ := pick_of h6 ho
      have D1 : s 1 = true := list_pos hT (d := 1) (by decide)
      have D5 : s 5 = true := list_pos hT (d := 5) (by decide)
      have BW := S.before
      refine step_call 103 (fun args w => by go_simp) _ _ e1 #[.int .u8 (x.toNat : Nat), .int .u8 (y.toNat : Nat)] (by simp only [List.map_toArray, List.map_cons, List.map_nil, S.t1 D1, S.t5 D5]) ((mul_any x y _).mono ?_)
      rintro e w2 ⟨rfl, BB⟩
      refine ⟨_, rfl, hK _ _ ?_⟩
      rw [e2]
      exact ⟨S.off.put (by decide) _, bt BW BB, kp S.t0, kp S.t1, kp S.t2, kp S.t3, kp S.t4, kp S.t5, fun _ => (eval_put _ _ _ (by omega)).trans rfl, kp S.t7, kp S.t8, kp S.t9, kp S.t10, kp S.t11, kp S.t12, fun g => (S.t13 (by simpa using g)).imp fun b hb => ⟨by rw [eval_put_ne _ _ _ _ (by decide)]; exact hb.1, (Bld.mono hb.2 BB)⟩⟩
    | 7, _, ho, hsi, hT =>
      obtain ⟨e1, e2⟩ := pick_of h7 ho
      have BW := S.before
      refine step_val (v := .slice (some ⟨g, 0, none⟩) L C) (by simp only [execOp, e1, y0]; go_simp) (hK _ _ ?_)
      rw [e2]
      exact ⟨S.off.put (by decide) _, S.before, kp S.t0, kp S.t1, kp S.t2, kp S.t3, kp S.t4, kp S.t5, kp S.t6, fun _ => (eval_put _ _ _ (by omega)).trans rfl, kp S.t8, kp S.t9, kp S.t10, kp S.t11, kp S.t12, fun g => (S.t13 (by simpa using g)).imp fun b hb => ⟨by rw [eval_put_ne _ _ _ _ (by decide)]; exact hb.1, hb.2⟩⟩
    | 8, _, ho, hsi, hT =>
      obtain ⟨e1, e2⟩ := pick_of h8 ho
      have BW := S.before
      refine step_val (v := .int .i64 (i : Nat)) (by simp only [execOp, e1, y6]; go_simp) (hK _ _ ?_)
      rw [e2]
      exact ⟨S.off.put (by decide) _, S.before, kp S.t0, kp S.t1, kp S.t2, kp S.t3, kp S.t4, kp S.t5, kp S.t6, kp S.t7, fun _ => (eval_put _ _ _ (by omega)).trans rfl, kp S.t9, kp S.t10, kp S.t11, kp S.t12, fun g => (S.t13 (by simpa using g)).imp fun b hb => ⟨by rw [eval_put_ne _ _ _ _ (by decide)]; exact hb.1, hb.2⟩⟩
    | 9, _, ho, hsi, hT =>
      obtain ⟨e1, e2⟩ := pick_of h9 ho
      have D8 : s 8 = true := list_pos hT (d := 8) (by decide)
      have BW := S.before
      have wr1 : IntKind.i64.wrap ((i : Int) + 1) = (i : Int) + 1 := by rw [IntKind.wrap_i64]; omega
      refine step_val (v := .int .i64 ((i + 1 : Nat) : Int)) (by simp only [execOp, e1, S.t8 D8]; go_simp) (hK _ _ ?_)
      rw [e2]
      exact ⟨S.off.put (by decide) _, S.before, kp S.t0, kp S.t1, kp S.t2, kp S.t3, kp S.t4, kp S.t5, kp S.t6, kp S.t7, kp S.t8, fun _ => (eval_put _ _ _ (by omega)).trans rfl, kp S.t10, kp S.t11, kp S.t12, fun g => (S.t13 (by simpa using g)).imp fun b hb => ⟨by rw [eval_put_ne _ _ _ _ (by decide)]; exact hb.1, hb.2⟩⟩
    | 10, _, ho, hsi, hT =>
      obtain ⟨e1, e2⟩ := pick_of h10 ho
      have D7 : s 7 = true := list_pos hT (d := 7) (by decide)
      have D9 : s 9 = true := list_pos hT (d := 9) (by decide)
      have BW := S.before
      refine step_val (v := .pointer (some ⟨g, (i + 1), none⟩)) (by simp only [execOp, e1, S.t7 D7, S.t9 D9]; go_simp; intro h; have := h (by omega); omega) (hK _ _ ?_)
      rw [e2]
      exact ⟨S.off.put (by decide) _, S.before, kp S.t0, kp S.t1, kp S.t2, kp S.t3, kp S.t4, kp S.t5, kp S.t6, kp S.t7, kp S.t8, kp S.t9, fun _ => (eval_put _ _ _ (by omega)).trans rfl, kp S.t11, kp S.t12, fun g => (S.t13 (by simpa using g)).imp fun b hb => ⟨by rw [eval_put_ne _ _ _ _ (by decide)]; exact hb.1, hb.2⟩⟩
    | 11, _, ho, hsi, hT =>
      obtain ⟨e1, e2⟩ := pick_of h11 ho
      have D10 : s 10 = true := list_pos hT (d := 10) (by decide)
      have BW := S.before
      have cl := (BW.cell (p := ⟨g, i + 1, none⟩) hg).trans hz
      refine step_val (v := .int .u8 (z.toNat : Nat)) (by simp only [execOp, e1, S.t10 D10]; go_simp) (hK _ _ ?_)
      rw [e2]
      exact ⟨S.off.put (by decide) _, S.before, kp S.t0, kp S.t1, kp S.t2, kp S.t3, kp S.t4, kp S.t5, kp S.t6, kp S.t7, kp S.t8, kp S.t9, kp S.t10, fun _ => (eval_put _ _ _ (by omega)).trans rfl, kp S.t12, fun g => (S.t13 (by simpa using g)).imp fun b hb => ⟨by rw [eval_put_ne _ _ _ _ (by decide)]; exact hb.1, hb.2⟩⟩
    | 12, _, ho, hsi, hT =>
      obtain ⟨e1, e2⟩ := pick_of h12 ho
      have D6 : s 6 = true := list_pos hT (d := 6) (by decide)
      have D11 : s 11 = true := list_pos hT (d := 11) (by decide)
      have BW := S.before
      have xr := xor8 (Gal.mul x y) z
      refine step_val (v := .int .u8 ((Gal.mul x y ^^^ z).toNat : Nat)) (by simp only [execOp, e1, S.t6 D6, S.t11 D11]; go_simp) (hK _ _ ?_)
      rw [e2]
      exact ⟨S.off.put (by decide) _, S.before, kp S.t0, kp S.t1, kp S.t2, kp S.t3, kp S.t4, kp S.t5, kp S.t6, kp S.t7, kp S.t8, kp S.t9, kp S.t10, kp S.t11, fun _ => (eval_put _ _ _ (by omega)).trans rfl, fun g => (S.t13 (by simpa using g)).imp fun b hb => ⟨by rw [eval_put_ne _ _ _ _ (by decide)]; exact hb.1, hb.2⟩⟩
    | 13, _, ho, hsi, hT =>
      obtain ⟨e1, e2⟩ := pick_of h13 ho
      have D12 : s 12 = true := list_pos hT (d := 12) (by decide)
      have BW := S.before
      have q25 : a.tmps[25]'(by omega) = .int .u8 ((Gal.mul x y ^^^ z).toNat : Nat) := by have := S.t12 D12; simpa [Act.eval, sz] using this
      refine step_to1 (w2 := w'.alloc (.cells #[.int .u8 ((Gal.mul x y ^^^ z).toNat : Nat)] 5)) (v := .slice (some ⟨w'.heap.size, 0, none⟩) 1 1) (by simp only [execOp, e1]; go_simp) (hK _ _ ?_)
      have BB := ba (Below.refl w'.heap.size w') (.cells #[.int .u8 ((Gal.mul x y ^^^ z).toNat : Nat)] 5)
      have FF := bld_new w' (.int .u8 ((Gal.mul x y ^^^ z).toNat : Nat)) 5
      rw [e2]
      exact ⟨S.off.put (by decide) _, bt BW BB, kp S.t0, kp S.t1, kp S.t2, kp S.t3, kp S.t4, kp S.t5, kp S.t6, kp S.t7, kp S.t8, kp S.t9, kp S.t10, kp S.t11, kp S.t12, fun _ => ⟨_, (eval_put _ _ _ (by omega)).trans rfl, FF⟩⟩
    | _ + 14, il, _, _, _ => exact absurd il (by omega)
  · intro s a w' S hall
    have a0 := hall 0 (by omega)
    have a1 := hall 1 (by omega)
    have a2 := hall 2 (by omega)
    have a3 := hall 3 (by omega)
    have a4 := hall 4 (by omega)
    have a5 := hall 5 (by omega)
    have a6 := hall 6 (by omega)
    have a7 := hall 7 (by omega)
    have a8 := hall 8 (by omega)
    have a9 := hall 9 (by omega)
    have a10 := hall 10 (by omega)
    have a11 := hall 11 (by omega)
    have a12 := hall 12 (by omega)
    have a13 := hall 13 (by omega)
    have e := off_norm _ (by intro d hd; simp at hd; omega) S.off
    obtain ⟨v13, M13, F13⟩ := S.t13 a13
    simp only [List.foldl, S.t0 a0, S.t1 a1, S.t2 a2, S.t3 a3, S.t4 a4, S.t5 a5, S.t6 a6, S.t7 a7, S.t8 a8, S.t9 a9, S.t10 a10, S.t11 a11, S.t12 a12, M13] at e
    rw [e]
    exact h _ _ S.before F13
/-- What without does. -/
def WoP (m : Nat) (U : Nat → BitVec 8) (w : World) (e : Ending) (w' : World) : Prop := ∃ v, e = .returned v ∧ w'.ownsRow w.heap.size 5 1 v m (vals U m) ∧ Below w.heap.size w w'
set_option maxRecDepth 100000 in
theorem without_any (g C L m : Nat) (x : BitVec 8) (U : Nat → BitVec 8) (hm : m + 1 = L) (hL : L ≤ 8) (w : World) (N : NumsK .u8 w g L (fun j => (U j).toNat)) :
    Calls Tryz.prog 91 #[.slice (some ⟨g, 0, none⟩) L C, .int .u8 (x.toNat : Nat)] w (WoP m (fun i => Gal.mul x (U i) ^^^ U (i + 1)) w) := by
  have HN := Lib.hid N
  have HL := Lib.hid hm
  have e1 : (L : Int) - 1 = (m : Int) := by omega
  have i1 : IntKind.i64.wrap ((L : Int) - 1) = (m : Int) := by rw [IntKind.wrap_i64]; omega
  have vs0 : ∀ k, vals (fun i => Gal.mul x (U i) ^^^ U (i + 1)) (k + 1) = vals (fun i => Gal.mul x (U i) ^^^ U (i + 1)) k ++ [.int .u8 ((Gal.mul x (U k) ^^^ U (k + 1)).toNat : Nat)] := fun k => vals_succ _ k
  have VS := Lib.hid vs0
  obtain ⟨G, hG⟩ : ∃ G, (fun i => Gal.mul x (U i) ^^^ U (i + 1)) = G := ⟨_, rfl⟩
  rw [hG] at VS ⊢
  clear N hm vs0 hG
  go_enter Tryz.func91, Tryz.ntmps91
  go_wp2_with fail
  go_loopw [5, 10] (fun o i wr => ∃ k : Nat, k ≤ m ∧ i = .int .i64 (k : Nat) ∧ wr.ownsRow w.heap.size 5 1 o k (vals G k) ∧ Below w.heap.size w wr) (fun o _ _ => m - slen o)
  case atStart => exact ⟨0, Nat.zero_le _, rfl, World.ownsRow_nil _ _ _ _, Below.refl _ _⟩
  case round =>
    obtain ⟨k, hk, rfl, hown, hB⟩ := hrel
    have HO := Lib.hid hown
    have HB := Lib.hid hB
    have SL := Lib.hid (own_slen hown)
    clear hown hB
    by_cases hlt : k < m
    · have NR := Lib.hid (HN.out.below HB.out)
      have L2 := HL.out
      have NS := Lib.hid (VS.out k)
      have km : (k : Int) < (m : Int) := by omega
      obtain ⟨i0, hi0, hz0, hz1, hz2⟩ := info_parts info_u8
      go_upto_region 5 with fail
      refine woRegion g C L k x (U k) (U (k + 1)) _ (by omega) (by omega) NR.out.1 (NR.out.cell (by omega)) (NR.out.cell (by omega)) (by kernel_rfl) rfl rfl rfl rfl rfl rfl rfl rfl rfl rfl rfl rfl rfl rfl rfl rfl rfl rfl rfl ?_
      intro v13 w1 B1 F1
      simp only [Act.put, List.setIfInBounds_toArray, List.set_cons_succ, List.set_cons_zero, List.drop_succ_cons, List.drop_zero]
      obtain ⟨Bd, rfl, hcl⟩ := F1.cells
      have HCL := Lib.hid hcl
      have HO1 := Lib.hid (own_below HO.out B1)
      have HB1 := Lib.hid (bt HB.out B1)
      obtain ⟨u, hu⟩ : ∃ u, (Gal.mul x (U k) ^^^ U (k + 1)).toNat = u := ⟨_, rfl⟩
      obtain ⟨u2, hu2⟩ : ∃ u, (Gal.mul x (U k)).toNat = u := ⟨_, rfl⟩
      obtain ⟨u3, hu3⟩ : ∃ u, (U k).toNat = u := ⟨_, rfl⟩
      obtain ⟨u4, hu4⟩ : ∃ u, (U (k + 1)).toNat = u := ⟨_, rfl⟩
      rw [hu] at HCL NS
      rw [hu, hu2, hu3, hu4]
      clear hu hu2 hu3 hu4 F1 hcl B1 NR
      go_wp2_with (at_builtin; refine wpList_append_own _ rfl _ _ 41 rfl w.heap.size 5 i0 (.int .u8 0) 1 1 Tryz.underlying41 hi0 hz0 hz1 hz2 rfl (by decide) _ _ _ rfl HO1.out ⟨Bd, 0, none⟩ 1 1 [.int .u8 (u : Int)] rfl rfl HCL.out (by simp [Value.oneCell']) (by unfold maxLen; omega) (by omega) HB1.out.size ?_; intro v' w2 hown2 hgrow _; obtain ⟨g', cap', rfl⟩ := ownsRow_succ hown2; have HO2 := Lib.hid hown2; have BW2 := Lib.hid (HB1.out.grown hgrow HB1.out.size (fun k e => own_block_ge HO1.out e)); clear hown2 hgrow)
      go_roundw
      case rel => exact ⟨k + 1, by omega, by go_num, by rw [NS.out]; exact HO2.out, BW2.out⟩
      case measure => rw [SL.out]; simp [slen]; omega
    · obtain rfl : k = m := by omega
      have FIN := Lib.hid (show ∀ v, wr.ownsRow w.heap.size 5 1 v k (vals G k) → WoP k G w (.returned v) wr from fun v h => ⟨v, rfl, h, HB.out⟩)
      clear HN VS
      go_wp2_with fail
      go_ret
      exact FIN.out _ HO.out
/-- Places as values. -/
def plv (l : List Nat) : List Value := l.map (fun p => .int .i64 (p : Nat))
/-- What doubtful does. -/
def DouP (l : List Nat) (w : World) (e : Ending) (w' : World) : Prop := ∃ v, e = .returned v ∧ w'.ownsRow w.heap.size 3 1 v l.length (plv l) ∧ Below w.heap.size w w'
set_option maxRecDepth 100000 in
theorem doubtful_any (b cb eb ce n : Nat) (f : Nat → BitVec 8) (er : Nat → Bool) (l : ByteArray) (hn : n ≤ 231) (hl : l.size ≤ 1000) (w : World) (H : Wd w b cb eb ce n f er) :
    Calls Tryz.prog 70 #[.agg #[.slice (some ⟨b, 0, none⟩) n cb, .slice (some ⟨eb, 0, none⟩) n ce], .string l] w (DouP (Blk.ers (Blk.dbt er (Blk.elem n) l.data.toList) n) w) := by
  have EL := Lib.hid (fun p hp w => element_any b cb eb ce n p (by omega) hp w)
  have EVA := Lib.hid (fun x w => eval_any l x (by omega) w)
  have HA := Lib.hid (H.alloc (.cells #[.slice (some ⟨b, 0, none⟩) n cb, .slice (some ⟨eb, 0, none⟩) n ce] 53))
  have cx0 := Lib.hid (show (w.alloc (.cells #[.slice (some ⟨b, 0, none⟩) n cb, .slice (some ⟨eb, 0, none⟩) n ce] 53)).cell? ⟨w.heap.size, 0, none⟩ = some (.slice (some ⟨b, 0, none⟩) n cb) from World.cell?_alloc_new w _ _ 0)
  have cx1 := Lib.hid (show (w.alloc (.cells #[.slice (some ⟨b, 0, none⟩) n cb, .slice (some ⟨eb, 0, none⟩) n ce] 53)).cell? ⟨w.heap.size, 1, none⟩ = some (.slice (some ⟨eb, 0, none⟩) n ce) from World.cell?_alloc_new w _ _ 1)
  have B0 := Lib.hid (ba (Below.refl w.heap.size w) (.cells #[.slice (some ⟨b, 0, none⟩) n cb, .slice (some ⟨eb, 0, none⟩) n ce] 53))
  have lx := Lib.hid (show w.heap.size < (w.alloc (.cells #[.slice (some ⟨b, 0, none⟩) n cb, .slice (some ⟨eb, 0, none⟩) n ce] 53)).heap.size by rw [World.size_alloc]; omega)
  have ES := Lib.hid (fun k => Blk.ers_succ (Blk.dbt er (Blk.elem n) l.data.toList) k)
  have DB := Lib.hid (fun k => (show Blk.dbt er (Blk.elem n) l.data.toList k = (er k || decide (Gal.evalV l.data.toList (Blk.elem n k) = 0#8)) from rfl))
  obtain ⟨P, hP⟩ : ∃ P, Blk.dbt er (Blk.elem n) l.data.toList = P := ⟨_, rfl⟩
  rw [hP] at ES DB ⊢
  clear H hP
  go_enter Tryz.func70, Tryz.ntmps70
  go_wp2_with fail
  obtain ⟨w1, hw1⟩ : ∃ w1, w.alloc (.cells #[.slice (some ⟨b, 0, none⟩) n cb, .slice (some ⟨eb, 0, none⟩) n ce] 53) = w1 := ⟨_, rfl⟩
  rw [hw1] at HA cx0 cx1 B0 lx ⊢
  clear hw1
  go_loopw [5, 11] (fun o i wr => ∃ k : Nat, k ≤ n ∧ i = .int .i64 (k : Nat) ∧ wr.ownsRow w1.heap.size 3 1 o (Blk.ers P k).length (plv (Blk.ers P k)) ∧ Below w1.heap.size w1 wr) (fun _ i _ => n - (intOf i).toNat)
  case atStart => exact ⟨0, Nat.zero_le _, rfl, World.ownsRow_nil _ _ _ _, Below.refl _ _⟩
  case round =>
    obtain ⟨k, hk, rfl, hown, hB⟩ := hrel
    have HO := Lib.hid hown
    have HB := Lib.hid hB
    clear hown hB
    by_cases hlt : k < n
    · have HR := HA.out.below HB.out
      have ck := HR.er.cell hlt
      have es := ES.out k
      have db := DB.out k
      have lk : (Blk.ers P k).length ≤ k := by
        have := List.length_filter_le P (List.range k)
        unfold Blk.ers
        simpa using this
      obtain ⟨v, hv⟩ : ∃ v, er k = v := ⟨_, rfl⟩
      rw [hv] at ck db
      obtain ⟨m, hm⟩ : ∃ m, (Blk.ers P k).length = m := ⟨_, rfl⟩
      rw [hm] at HO lk
      obtain ⟨i0, hi0, hz0, hz1, hz2⟩ := info_parts info_i64
      have b1 := HB.out.size
      have EY := Lib.hid (fun (q : P k = true) => (show Blk.ers P (k + 1) = Blk.ers P k ++ [k] by rw [es, if_pos q]))
      have EN := Lib.hid (fun (q : P k = false) => (show Blk.ers P (k + 1) = Blk.ers P k by rw [es, if_neg (by rw [q]; decide)]))
      have PL := Lib.hid (show plv (Blk.ers P k ++ [k]) = plv (Blk.ers P k) ++ [.int .i64 (k : Nat)] by unfold plv; rw [List.map_append]; rfl)
      have LE := Lib.hid (show (Blk.ers P k ++ [k]).length = m + 1 by rw [List.length_append, hm]; rfl)
      have HM := Lib.hid hm
      have DBH := Lib.hid db
      cases v with
      | true =>
        have EY2 := Lib.hid (EY.out (by rw [DBH.out]; rfl))
        clear es db hv hm HR ES DB EL EVA
        have B1 := Lib.hid (HB.out.alloc HB.out.size (.cells #[.int .i64 (k : Nat)] 3))
        go_wp2_with (at_builtin; refine wpList_append_own _ rfl _ _ 28 rfl w1.heap.size 3 i0 (.int .i64 0) 1 8 Tryz.underlying28 hi0 hz0 hz1 hz2 rfl (by decide) _ _ _ rfl (HO.out.alloc _) ⟨wr.heap.size, 0, none⟩ 1 1 [.int .i64 (k : Nat)] rfl rfl cell_one (by simp [Value.oneCell']) (by unfold maxLen; omega) (by omega) B1.out.size ?_; intro v' w2 hown2 hgrow _; obtain ⟨g', cap', rfl⟩ := ownsRow_succ hown2; have HO2 := Lib.hid hown2; have BW2 := Lib.hid (B1.out.grown hgrow B1.out.size (fun k e => own_block_ge HO.out e)); clear hown2 hgrow)
        go_roundw
        case rel => exact ⟨k + 1, by omega, by go_num, by rw [EY2.out, LE.out, PL.out]; exact HO2.out, BW2.out⟩
        case measure => simp [intOf]; omega
      | false =>
        have c0 := (HB.out.cell (p := ⟨w.heap.size, 0, none⟩) lx.out).trans cx0.out
        have c1 := (HB.out.cell (p := ⟨w.heap.size, 1, none⟩) lx.out).trans cx1.out
        have EK := Lib.hid (fun w => EL.out k hlt w)
        have VK := Lib.hid (fun w => EVA.out (Blk.elem n k) w)
        obtain ⟨xe, hxe⟩ : ∃ x, (Blk.elem n k).toNat = x := ⟨_, rfl⟩
        obtain ⟨xv, hxv⟩ : ∃ x, (Gal.evalV l.data.toList (Blk.elem n k)).toNat = x := ⟨_, rfl⟩
        rw [hxe] at EK VK
        rw [hxv] at VK
        have HX := Lib.hid hxv
        clear es db hv hm HR ES DB EL EVA hxe hxv
        go_wp2_with fail
        (with_reducible refine (EK.out _).mono ?_)
        rintro e w2 ⟨rfl, h2⟩
        have HO2 := Lib.hid (own_below HO.out h2)
        have HB2 := Lib.hid (bt HB.out h2)
        clear h2 c0 c1 ck
        go_wp2_with fail
        (with_reducible refine (VK.out _).mono ?_)
        rintro e w3 ⟨rfl, h2⟩
        have HO3 := Lib.hid (own_below HO2.out h2)
        have HB3 := Lib.hid (bt HB2.out h2)
        clear h2 HO HO2 HB2
        by_cases z : xv = 0
        · subst z
          have EY2 := Lib.hid (EY.out (by rw [DBH.out, Bool.false_or]; exact decide_eq_true (BitVec.eq_of_toNat_eq HX.out)))
          have B1 := Lib.hid (HB3.out.alloc HB3.out.size (.cells #[.int .i64 (k : Nat)] 3))
          clear EY EN DBH HX
          go_wp2_with (at_builtin; refine wpList_append_own _ rfl _ _ 28 rfl w1.heap.size 3 i0 (.int .i64 0) 1 8 Tryz.underlying28 hi0 hz0 hz1 hz2 rfl (by decide) _ _ _ rfl (HO3.out.alloc _) ⟨w3.heap.size, 0, none⟩ 1 1 [.int .i64 (k : Nat)] rfl rfl cell_one (by simp [Value.oneCell']) (by unfold maxLen; omega) (by omega) B1.out.size ?_; intro v' w4 hown2 hgrow _; obtain ⟨g', cap', rfl⟩ := ownsRow_succ hown2; have HO4 := Lib.hid hown2; have BW4 := Lib.hid (B1.out.grown hgrow B1.out.size (fun k e => own_block_ge HO3.out e)); clear hown2 hgrow)
          go_roundw
          case rel => exact ⟨k + 1, by omega, by go_num, by rw [EY2.out, LE.out, PL.out]; exact HO4.out, BW4.out⟩
          case measure => simp [intOf]; omega
        · have x1 : ((xv : Int) == (0 : Int)) = false := by simp; omega
          have EN2 := Lib.hid (EN.out (by rw [DBH.out, Bool.false_or]; exact decide_eq_false (fun q => z (by rw [← HX.out, q]; rfl))))
          clear EY EN DBH HX z
          go_wp2_with fail
          go_roundw
          case rel => exact ⟨k + 1, by omega, by go_num, by rw [EN2.out, HM.out]; exact HO3.out, HB3.out⟩
          case measure => simp [intOf]; omega
    · obtain rfl : k = n := by omega
      have FIN := Lib.hid (show ∀ v, wr.ownsRow w1.heap.size 3 1 v (Blk.ers P k).length (plv (Blk.ers P k)) → DouP (Blk.ers P k) w (.returned v) wr from fun v h => ⟨v, rfl, own_mono h B0.out.size, B0.out.trans (HB.out.mono B0.out.size)⟩)
      clear ES DB EL EVA HA cx0 cx1
      go_wp2_with fail
      go_ret
      exact FIN.out _ HO.out
end Go.Proofs.YtlpjhmafplljaaaGreatDoor
/- The contract of block's locator over this program. -/
namespace Go.Proofs.YtlpjhmafplljaaaGreatDoor
open Go.RowKit
set_option linter.unusedVariables false

theorem own_row {w : World} {base g C L : Nat} {f : Nat → BitVec 8} (h : w.ownsRow base 5 1 (.slice (some ⟨g, 0, none⟩) L C) L (vals f L)) : NumsK .u8 w g L (fun j => (f j).toNat) := by
  obtain ⟨hl, h⟩ := h
  rcases h with ⟨hv, _⟩ | ⟨g', c, cur, hv, hb, hg, hnc, hm, hsz, ht⟩
  · simp at hv
  · simp only [Value.slice.injEq, Option.some.injEq, Addr.mk.injEq] at hv
    obtain ⟨⟨rfl, _, _⟩, _, rfl⟩ := hv
    refine ⟨(Array.getElem?_eq_some_iff.1 hg).1, fun j hj => ?_⟩
    have e1 : w.cell? ⟨g, j, none⟩ = cur[j]? := by
      unfold World.cell?
      rw [hg]
      simp
    have e2 : (cur.toList.take (L * 1))[j]? = cur[j]? := by
      rw [List.getElem?_take_of_lt (by omega)]
      simp
    refine ⟨?_, ?_⟩
    · rw [e1, ← e2, ht]
      simp [vals, hj]
    · unfold World.frozen?
      rw [hg]
      simp
theorem own_set {w : World} {base e size n c i : Nat} {v u : Value} {xs : List Value} (h : w.ownsRow base e size v n xs) (hc : c < base) : (w.setCell ⟨c, i, none⟩ u).ownsRow base e size v n xs := by
  obtain ⟨hl, h⟩ := h
  refine ⟨hl, ?_⟩
  rcases h with h | ⟨g, cap, cur, rfl, h1, hg, h2⟩
  · exact .inl h
  · exact .inr ⟨g, cap, cur, rfl, h1, by rw [Below.heap_setCell _ _ _ _ (show g ≠ c by omega)]; exact hg, h2⟩
/-- The sums, captured. -/
theorem loc1_any (sb g C L i j : Nat) (U : Nat → BitVec 8) (hL : L ≤ 8) (hij : i + j < L) (w : World) (hs : w.cell? ⟨sb, 0, none⟩ = some (.slice (some ⟨g, 0, none⟩) L C)) (N : NumsK .u8 w g L (fun j => (U j).toNat)) :
    Calls Tryz.prog 92 (#[] ++ #[.int .i64 (i : Nat), .int .i64 (j : Nat)] ++ #[.pointer (some ⟨sb, 0, none⟩)]) w fun e w' => e = .returned (.int .u8 ((U (i + j)).toNat : Nat)) ∧ Below w.heap.size w w' := by
  show Calls Tryz.prog 92 #[.int .i64 (i : Nat), .int .i64 (j : Nat), .pointer (some ⟨sb, 0, none⟩)] w _
  have B0 := Lib.hid (Below.refl w.heap.size w)
  have c1 := N.cell hij
  obtain ⟨v, hv⟩ : ∃ v, (U (i + j)).toNat = v := ⟨_, rfl⟩
  rw [hv] at c1 ⊢
  obtain ⟨q, hq⟩ : ∃ q, i + j = q := ⟨_, rfl⟩
  rw [hq] at c1 hij
  have e1 : (i : Int) + (j : Int) = (q : Int) := by omega
  have i1 : IntKind.i64.wrap ((i : Int) + (j : Int)) = (q : Int) := by rw [IntKind.wrap_i64]; omega
  clear hv hq N
  go_enter Tryz.func92, Tryz.ntmps92
  go_wp2_with fail
  go_ret
  exact ⟨rfl, B0.out⟩
structure LsRegion (sb i pb : Nat) (v : Value) (x : BitVec 8) (A : Act) (w0 : World) (s : Nat → Bool) (a : Act) (w : World) : Prop where
  off : Off [15, 16, 17, 18, 19] a A
  before : Below w0.heap.size w0 w
  t0 : s 0 = true → a.eval (.tmp 15) = v
  t1 : s 1 = true → a.eval (.tmp 16) = .func (.func 89) #[] #[.pointer (some ⟨pb, 0, none⟩)]
  t2 : s 2 = true → a.eval (.tmp 17) = .int .i64 (i : Nat)
  t3 : s 3 = true → a.eval (.tmp 18) = .int .u8 (x.toNat : Nat)
  t4 : s 4 = true → ∃ v4, a.eval (.tmp 19) = v4 ∧ Bld (.int .u8 (x.toNat : Nat)) v4 w
set_option maxHeartbeats 2000000 in
set_option maxRecDepth 100000 in
theorem lsRegion {id : Nat} {l : List Oper} {A : Act} {w : World} {Q : Exit → Act → World → Prop} (sb i pb : Nat) (v : Value) (x : BitVec 8)
    (hsb : sb < w.heap.size) (hv : w.cell? ⟨sb, 0, none⟩ = some v) (hE : ∀ w', Below w.heap.size w w' → Calls Tryz.prog 89 (#[] ++ #[.int .i64 (i : Nat)] ++ #[.pointer (some ⟨pb, 0, none⟩)]) w' fun e w2 => e = .returned (.int .u8 (x.toNat : Nat)) ∧ Below w'.heap.size w' w2)
    (hB : tableH l.toArray 5 (fun i => match i with | 0 => [] | 1 => [] | 2 => [] | 3 => [1, 2] | 4 => [3] | _ => []) (fun _ => []) = true)
    (h0 : pick l 0 = some (.load 41 (.tmp 7), some 15))
    (h1 : pick l 1 = some (.move (.tmp 1), some 16))
    (h2 : pick l 2 = some (.move (.tmp 8), some 17))
    (h3 : pick l 3 = some (.call { callee := .value (.tmp 16), args := #[.tmp 17], argTypes := #[3] }, some 18))
    (h4 : pick l 4 = some (.buildSlice 41 1 #[(0, .tmp 18)], some 19))
    (hs : A.tmps.size = 44)
    (x1 : A.eval (.tmp 1) = .func (.func 89) #[] #[.pointer (some ⟨pb, 0, none⟩)])
    (x7 : A.eval (.tmp 7) = .pointer (some ⟨sb, 0, none⟩))
    (x8 : A.eval (.tmp 8) = .int .i64 (i : Nat))
    (h : ∀ v4 w1, Below w.heap.size w w1 → Bld (.int .u8 (x.toNat : Nat)) v4 w1 → wpList Tryz.prog l.toArray Q (l.drop 5) (((((A.put (some 15) (v)).put (some 16) (.func (.func 89) #[] #[.pointer (some ⟨pb, 0, none⟩)])).put (some 17) (.int .i64 (i : Nat))).put (some 18) (.int .u8 (x.toNat : Nat))).put (some 19) (v4)) w1) :
    (Code.region id l.toArray true).wp Tryz.prog Q A w := by
  refine wp_region_head (by kernel_rfl) _ _ _ hB (LsRegion sb i pb v x A w) ⟨Off.refl _ _, (Below.refl _ _).drew, by simp, by simp, by simp, by simp, by simp⟩ ?_ ?_
  · intro s a w' S i' o il ho hsi hT K hK
    have sz : a.tmps.size = 44 := by rw [S.off.2.1]; exact hs
    have y1 : a.eval (.tmp 1) = .func (.func 89) #[] #[.pointer (some ⟨pb, 0, none⟩)] := by rw [S.off.eval (by decide)]; exact x1
    have y7 : a.eval (.tmp 7) = .pointer (some ⟨sb, 0, none⟩) := by rw [S.off.eval (by decide)]; exact x7
    have y8 : a.eval (.tmp 8) = .int .i64 (i : Nat) := by rw [S.off.eval (by decide)]; exact x8
    match i', il, ho, hsi, hT with
    | 0, _, ho, hsi, hT =>
      obtain ⟨e1, e2⟩ := pick_of h0 ho
      have BW := S.before
      have cl := (BW.cell (p := ⟨sb, 0, none⟩) hsb).trans hv
      refine step_val (v := v) (by simp only [execOp, e1, y7]; go_simp) (hK _ _ ?_)
      rw [e2]
      exact ⟨S.off.put (by decide) _, S.before, fun _ => (eval_put _ _ _ (by omega)).trans rfl, kp S.t1, kp S.t2, kp S.t3, fun g => (S.t4 (by simpa using g)).imp fun b hb => ⟨by rw [eval_put_ne _ _ _ _ (by decide)]; exact hb.1, hb.2⟩⟩
    | 1, _, ho, hsi, hT =>
      obtain ⟨e1, e2⟩ := pick_of h1 ho
      have BW := S.before
      refine step_val (v := .func (.func 89) #[] #[.pointer (some ⟨pb, 0, none⟩)]) (by simp only [execOp, e1, y1]; go_simp) (hK _ _ ?_)
      rw [e2]
      exact ⟨S.off.put (by decide) _, S.before, kp S.t0, fun _ => (eval_put _ _ _ (by omega)).trans rfl, kp S.t2, kp S.t3, fun g => (S.t4 (by simpa using g)).imp fun b hb => ⟨by rw [eval_put_ne _ _ _ _ (by decide)]; exact hb.1, hb.2⟩⟩
    | 2, _, ho, hsi, hT =>
      obtain ⟨e1, e2⟩ := pick_of h2 ho
      have BW := S.before
      refine step_val (v := .int .i64 (i : Nat)) (by simp only [execOp, e1, y8]; go_simp) (hK _ _ ?_)
      rw [e2]
      exact ⟨S.off.put (by decide) _, S.before, kp S.t0, kp S.t1, fun _ => (eval_put _ _ _ (by omega)).trans rfl, kp S.t3, fun g => (S.t4 (by simpa using g)).imp fun b hb => ⟨by rw [eval_put_ne _ _ _ _ (by decide)]; exact hb.1, hb.2⟩⟩
    | 3, _, ho, hsi, hT =>
      obtain ⟨e1, e2⟩ := pick_of h3 ho
      have D1 : s 1 = true := list_pos hT (d := 1) (by decide)
      have D2 : s 2 = true := list_pos hT (d := 2) (by decide)
      have BW := S.before
      refine step_callc 89 #[] #[.pointer (some ⟨pb, 0, none⟩)] (fun args w => by go_simp) _ (by simp only [S.t1 D1]) _ _ e1 #[.int .i64 (i : Nat)] (by simp only [List.map_toArray, List.map_cons, List.map_nil, S.t2 D2]) ((hE _ BW).mono ?_)
      rintro e w2 ⟨rfl, BB⟩
      refine ⟨_, rfl, hK _ _ ?_⟩
      rw [e2]
      exact ⟨S.off.put (by decide) _, bt BW BB, kp S.t0, kp S.t1, kp S.t2, fun _ => (eval_put _ _ _ (by omega)).trans rfl, fun g => (S.t4 (by simpa using g)).imp fun b hb => ⟨by rw [eval_put_ne _ _ _ _ (by decide)]; exact hb.1, (Bld.mono hb.2 BB)⟩⟩
    | 4, _, ho, hsi, hT =>
      obtain ⟨e1, e2⟩ := pick_of h4 ho
      have D3 : s 3 = true := list_pos hT (d := 3) (by decide)
      have BW := S.before
      have q18 : a.tmps[18]'(by omega) = .int .u8 (x.toNat : Nat) := by have := S.t3 D3; simpa [Act.eval, sz] using this
      refine step_to1 (w2 := w'.alloc (.cells #[.int .u8 (x.toNat : Nat)] 5)) (v := .slice (some ⟨w'.heap.size, 0, none⟩) 1 1) (by simp only [execOp, e1]; go_simp) (hK _ _ ?_)
      have BB := ba (Below.refl w'.heap.size w') (.cells #[.int .u8 (x.toNat : Nat)] 5)
      have FF := bld_new w' (.int .u8 (x.toNat : Nat)) 5
      rw [e2]
      exact ⟨S.off.put (by decide) _, bt BW BB, kp S.t0, kp S.t1, kp S.t2, kp S.t3, fun _ => ⟨_, (eval_put _ _ _ (by omega)).trans rfl, FF⟩⟩
    | _ + 5, il, _, _, _ => exact absurd il (by omega)
  · intro s a w' S hall
    have a0 := hall 0 (by omega)
    have a1 := hall 1 (by omega)
    have a2 := hall 2 (by omega)
    have a3 := hall 3 (by omega)
    have a4 := hall 4 (by omega)
    have e := off_norm _ (by intro d hd; simp at hd; omega) S.off
    obtain ⟨v4, M4, F4⟩ := S.t4 a4
    simp only [List.foldl, S.t0 a0, S.t1 a1, S.t2 a2, S.t3 a3, M4] at e
    rw [e]
    exact h _ _ S.before F4
structure LeRegion (sb bx k b cb eb ce n : Nat) (v : Value) (A : Act) (w0 : World) (s : Nat → Bool) (a : Act) (w : World) : Prop where
  off : Off [31, 32, 33, 34] a A
  before : Below w0.heap.size w0 w
  t0 : s 0 = true → a.eval (.tmp 31) = v
  t1 : s 1 = true → a.eval (.tmp 32) = .agg #[.slice (some ⟨b, 0, none⟩) n cb, .slice (some ⟨eb, 0, none⟩) n ce]
  t2 : s 2 = true → a.eval (.tmp 33) = .int .i64 (k : Nat)
  t3 : s 3 = true → a.eval (.tmp 34) = .int .u8 ((Blk.elem n k).toNat : Nat)
set_option maxHeartbeats 2000000 in
set_option maxRecDepth 100000 in
theorem leRegion {id : Nat} {l : List Oper} {A : Act} {w : World} {Q : Exit → Act → World → Prop} (sb bx k b cb eb ce n : Nat) (v : Value)
    (hn : n ≤ 1000) (hk : k < n) (hsb : sb < w.heap.size) (hv : w.cell? ⟨sb, 0, none⟩ = some v) (hbx : bx < w.heap.size) (hc0 : w.cell? ⟨bx, 0, none⟩ = some (.slice (some ⟨b, 0, none⟩) n cb)) (hc1 : w.cell? ⟨bx, 1, none⟩ = some (.slice (some ⟨eb, 0, none⟩) n ce))
    (hB : tableH l.toArray 4 (fun i => match i with | 0 => [] | 1 => [] | 2 => [] | 3 => [1, 2] | _ => []) (fun _ => []) = true)
    (h0 : pick l 0 = some (.load 41 (.tmp 7), some 31))
    (h1 : pick l 1 = some (.load 53 (.tmp 3), some 32))
    (h2 : pick l 2 = some (.move (.tmp 9), some 33))
    (h3 : pick l 3 = some (.call { callee := .value (.func 75), args := #[.tmp 32, .tmp 33], argTypes := #[53, 3] }, some 34))
    (hs : A.tmps.size = 44)
    (x3 : A.eval (.tmp 3) = .pointer (some ⟨bx, 0, none⟩))
    (x7 : A.eval (.tmp 7) = .pointer (some ⟨sb, 0, none⟩))
    (x9 : A.eval (.tmp 9) = .int .i64 (k : Nat))
    (h : ∀ w1, Below w.heap.size w w1 → wpList Tryz.prog l.toArray Q (l.drop 4) ((((A.put (some 31) (v)).put (some 32) (.agg #[.slice (some ⟨b, 0, none⟩) n cb, .slice (some ⟨eb, 0, none⟩) n ce])).put (some 33) (.int .i64 (k : Nat))).put (some 34) (.int .u8 ((Blk.elem n k).toNat : Nat))) w1) :
    (Code.region id l.toArray true).wp Tryz.prog Q A w := by
  refine wp_region_head (by kernel_rfl) _ _ _ hB (LeRegion sb bx k b cb eb ce n v A w) ⟨Off.refl _ _, (Below.refl _ _).drew, by simp, by simp, by simp, by simp⟩ ?_ ?_
  · intro s a w' S i' o il ho hsi hT K hK
    have sz : a.tmps.size = 44 := by rw [S.off.2.1]; exact hs
    have y3 : a.eval (.tmp 3) = .pointer (some ⟨bx, 0, none⟩) := by rw [S.off.eval (by decide)]; exact x3
    have y7 : a.eval (.tmp 7) = .pointer (some ⟨sb, 0, none⟩) := by rw [S.off.eval (by decide)]; exact x7
    have y9 : a.eval (.tmp 9) = .int .i64 (k : Nat) := by rw [S.off.eval (by decide)]; exact x9
    match i', il, ho, hsi, hT with
    | 0, _, ho, hsi, hT =>
      obtain ⟨e1, e2⟩ := pick_of h0 ho
      have BW := S.before
      have cl := (BW.cell (p := ⟨sb, 0, none⟩) hsb).trans hv
      refine step_val (v := v) (by simp only [execOp, e1, y7]; go_simp) (hK _ _ ?_)
      rw [e2]
      exact ⟨S.off.put (by decide) _, S.before, fun _ => (eval_put _ _ _ (by omega)).trans rfl, kp S.t1, kp S.t2, kp S.t3⟩
    | 1, _, ho, hsi, hT =>
      obtain ⟨e1, e2⟩ := pick_of h1 ho
      have BW := S.before
      have cl0 := (BW.cell (p := ⟨bx, 0, none⟩) hbx).trans hc0
      have cl1 := (BW.cell (p := ⟨bx, 1, none⟩) hbx).trans hc1
      refine step_val (v := .agg #[.slice (some ⟨b, 0, none⟩) n cb, .slice (some ⟨eb, 0, none⟩) n ce]) (by simp only [execOp, e1, y3]; go_simp) (hK _ _ ?_)
      rw [e2]
      exact ⟨S.off.put (by decide) _, S.before, kp S.t0, fun _ => (eval_put _ _ _ (by omega)).trans rfl, kp S.t2, kp S.t3⟩
    | 2, _, ho, hsi, hT =>
      obtain ⟨e1, e2⟩ := pick_of h2 ho
      have BW := S.before
      refine step_val (v := .int .i64 (k : Nat)) (by simp only [execOp, e1, y9]; go_simp) (hK _ _ ?_)
      rw [e2]
      exact ⟨S.off.put (by decide) _, S.before, kp S.t0, kp S.t1, fun _ => (eval_put _ _ _ (by omega)).trans rfl, kp S.t3⟩
    | 3, _, ho, hsi, hT =>
      obtain ⟨e1, e2⟩ := pick_of h3 ho
      have D1 : s 1 = true := list_pos hT (d := 1) (by decide)
      have D2 : s 2 = true := list_pos hT (d := 2) (by decide)
      have BW := S.before
      refine step_call 75 (fun args w => by go_simp) _ _ e1 #[.agg #[.slice (some ⟨b, 0, none⟩) n cb, .slice (some ⟨eb, 0, none⟩) n ce], .int .i64 (k : Nat)] (by simp only [List.map_toArray, List.map_cons, List.map_nil, S.t1 D1, S.t2 D2]) ((element_any b cb eb ce n k hn hk _).mono ?_)
      rintro e w2 ⟨rfl, BB⟩
      refine ⟨_, rfl, hK _ _ ?_⟩
      rw [e2]
      exact ⟨S.off.put (by decide) _, bt BW BB, kp S.t0, kp S.t1, kp S.t2, fun _ => (eval_put _ _ _ (by omega)).trans rfl⟩
    | _ + 4, il, _, _, _ => exact absurd il (by omega)
  · intro s a w' S hall
    have a0 := hall 0 (by omega)
    have a1 := hall 1 (by omega)
    have a2 := hall 2 (by omega)
    have a3 := hall 3 (by omega)
    have e := off_norm _ (by intro d hd; simp at hd; omega) S.off
    simp only [List.foldl, S.t0 a0, S.t1 a1, S.t2 a2, S.t3 a3] at e
    rw [e]
    exact h _ S.before
/-- What locator does. -/
def LocP (bl : List UInt8) (er : Nat → Bool) (n q : Nat) (w : World) (e : Ending) (w' : World) : Prop :=
  Below w.heap.size w w' ∧ ((∃ y, e = .returned (.string ⟨(Blk.locP y q).toArray⟩) ∧ Blk.Solves (Blk.locB (Blk.twist (Blk.elem n) (Blk.ers er n) (Blk.syn bl)) (Blk.ers er n).length q) q y 1#8 ∧
      ∀ z, Blk.Solves (Blk.locB (Blk.twist (Blk.elem n) (Blk.ers er n) (Blk.syn bl)) (Blk.ers er n).length q) q z 1#8 → ∀ r, r < q → z r = y r) ∨
    ((∃ z r, r < q ∧ Blk.Solves (Blk.locB (Blk.twist (Blk.elem n) (Blk.ers er n) (Blk.syn bl)) (Blk.ers er n).length q) q z 0#8 ∧ z r = 1#8) ∧ ∃ p, e = .panicked p ∧ Pan p))
theorem ers_len_le (er : Nat → Bool) {k n : Nat} (h : k ≤ n) : (Blk.ers er k).length ≤ (Blk.ers er n).length := by
  induction n with
  | zero => obtain rfl : k = 0 := by omega
            exact Nat.le_refl _
  | succ n ih =>
    by_cases e : k = n + 1
    · rw [e]; exact Nat.le_refl _
    · have := ih (by omega)
      rw [Blk.ers_succ]
      split
      · rw [List.length_append]; omega
      · exact this
set_option maxRecDepth 100000 in
set_option maxHeartbeats 1000000 in
theorem locator_any (b cb eb ce n pb q : Nat) (f : Nat → BitVec 8) (er : Nat → Bool) (hn : n ≤ 231) (hq : (Blk.ers er n).length + 2 * q ≤ 8) (w : World) (H : Wd w b cb eb ce n f er) (hpb : pb < w.heap.size) (hps : w.cell? ⟨pb, 0, none⟩ = some (.string ⟨(Gal.coefs f n).reverse.toArray⟩)) :
    Calls Tryz.prog 71 #[.agg #[.slice (some ⟨b, 0, none⟩) n cb, .slice (some ⟨eb, 0, none⟩) n ce], .func (.func 89) #[] #[.pointer (some ⟨pb, 0, none⟩)], .int .i64 (q : Nat)] w (LocP (Gal.coefs f n) er n q w) := by
  have SE := Lib.hid (fun i w1 (B : Below w.heap.size w w1) => syn1_any pb i ⟨(Gal.coefs f n).reverse.toArray⟩ (Gal.coefs f n) rfl (by rw [Gal.coefs_length]; omega) w1 (Nat.lt_of_lt_of_le hpb B.size) ((B.cell (p := ⟨pb, 0, none⟩) hpb).trans hps))
  have HH := Lib.hid H
  have HPB := Lib.hid hpb
  have BA := Lib.hid (ba (Below.refl w.heap.size w) (.cells #[.slice (some ⟨b, 0, none⟩) n cb, .slice (some ⟨eb, 0, none⟩) n ce] 53))
  have BB := Lib.hid (ba BA.out (.cells #[.slice none 0 0] 41))
  have c0 := Lib.hid (show ((w.alloc (.cells #[.slice (some ⟨b, 0, none⟩) n cb, .slice (some ⟨eb, 0, none⟩) n ce] 53)).alloc (.cells #[.slice none 0 0] 41)).cell? ⟨w.heap.size, 0, none⟩ = some (.slice (some ⟨b, 0, none⟩) n cb) by go_simp)
  have c1 := Lib.hid (show ((w.alloc (.cells #[.slice (some ⟨b, 0, none⟩) n cb, .slice (some ⟨eb, 0, none⟩) n ce] 53)).alloc (.cells #[.slice none 0 0] 41)).cell? ⟨w.heap.size, 1, none⟩ = some (.slice (some ⟨eb, 0, none⟩) n ce) by go_simp)
  have cs := Lib.hid (show ((w.alloc (.cells #[.slice (some ⟨b, 0, none⟩) n cb, .slice (some ⟨eb, 0, none⟩) n ce] 53)).alloc (.cells #[.slice none 0 0] 41)).cell? ⟨w.heap.size + 1, 0, none⟩ = some (.slice none 0 0) by go_simp)
  have fs := Lib.hid (show ((w.alloc (.cells #[.slice (some ⟨b, 0, none⟩) n cb, .slice (some ⟨eb, 0, none⟩) n ce] 53)).alloc (.cells #[.slice none 0 0] 41)).frozen? ⟨w.heap.size + 1, 0, none⟩ = false by go_simp)
  have z1 := Lib.hid (show ((w.alloc (.cells #[.slice (some ⟨b, 0, none⟩) n cb, .slice (some ⟨eb, 0, none⟩) n ce] 53)).alloc (.cells #[.slice none 0 0] 41)).heap.size = w.heap.size + 1 + 1 by rw [World.size_alloc, World.size_alloc])
  have hmf : ∀ (fn : Fn) (first cap : Array Value) (w : World), (Instr.makeFunc fn first cap).run Tryz.prog w = .ok (.func fn first cap) w := fun _ _ _ _ => rfl
  have SY0 := Lib.hid (show ∀ i, (fun j => Blk.syn (Gal.coefs f n) j) i = Blk.syn (Gal.coefs f n) i from fun _ => rfl)
  unfold LocP
  obtain ⟨S, hS⟩ : ∃ S, Blk.syn (Gal.coefs f n) = S := ⟨_, rfl⟩
  rw [hS] at SE ⊢
  obtain ⟨bx, hbx⟩ : ∃ bx, w.heap.size = bx := ⟨_, rfl⟩
  have HBX := Lib.hid hbx
  clear H hpb hps hS SY0 hbx
  go_enter Tryz.func71, Tryz.ntmps71
  go_wp2_with fail
  obtain ⟨w1, hw1⟩ : ∃ w1, (w.alloc (.cells #[.slice (some ⟨b, 0, none⟩) n cb, .slice (some ⟨eb, 0, none⟩) n ce] 53)).alloc (.cells #[.slice none 0 0] 41) = w1 := ⟨_, rfl⟩
  rw [hw1] at BB c0 c1 cs fs z1 ⊢
  rw [HBX.out] at c0 c1 cs fs z1 ⊢
  obtain ⟨sb, hsb⟩ : ∃ sb, bx + 1 = sb := ⟨_, rfl⟩
  rw [hsb] at cs fs z1 ⊢
  have HSB := Lib.hid hsb
  clear hw1 hsb
  go_loopw [12] (fun i wr => ∃ (k : Nat) (v : Value), k ≤ 8 ∧ i = .int .i64 (k : Nat) ∧ wr.cell? ⟨sb, 0, none⟩ = some v ∧ wr.frozen? ⟨sb, 0, none⟩ = false ∧ wr.ownsRow w1.heap.size 5 1 v k (vals S k) ∧ But sb w1 wr) (fun i _ => 8 - (intOf i).toNat)
  case atStart => exact ⟨0, .slice none 0 0, Nat.zero_le _, rfl, cs.out, fs.out, World.ownsRow_nil _ _ _ _, But.refl _ _⟩
  case round =>
    obtain ⟨k, v, hk, rfl, hcv, hfv, hown, hB⟩ := hrel
    have HC := Lib.hid hcv
    have HF := Lib.hid hfv
    have HO := Lib.hid hown
    have HB := Lib.hid hB
    have BW := Lib.hid (show Below w.heap.size w wr from BB.out.trans (hB.below.mono (by have := HBX.out; have := HSB.out; omega)))
    have lsb := Lib.hid (show sb < wr.heap.size by have := hB.below.size; have := z1.out; omega)
    clear hcv hfv hown hB
    by_cases hlt : k < 8
    · have EE := Lib.hid (fun w' (b : Below wr.heap.size wr w') => SE.out k w' (bt BW.out b))
      have NS := Lib.hid (vals_succ S k)
      obtain ⟨i0, hi0, hz0, hz1, hz2⟩ := info_parts info_u8
      go_upto_region 5 with fail
      refine lsRegion sb k pb v (S k) lsb.out HC.out EE.out (by kernel_rfl) rfl rfl rfl rfl rfl rfl rfl rfl rfl ?_
      intro v4 w2 B2 F2
      simp only [Act.put, List.setIfInBounds_toArray, List.set_cons_succ, List.set_cons_zero, List.drop_succ_cons, List.drop_zero]
      obtain ⟨Bd, rfl, hcl⟩ := F2.cells
      have HCL := Lib.hid hcl
      have HO2 := Lib.hid (own_below HO.out B2)
      have HB2 := Lib.hid (HB.out.trans (But.of_below B2 (Nat.le_of_lt lsb.out)))
      have C2 := Lib.hid ((B2.cell (p := ⟨sb, 0, none⟩) lsb.out).trans HC.out)
      have FZ2 := Lib.hid ((B2.frozen (p := ⟨sb, 0, none⟩) lsb.out).trans HF.out)
      have L2 := Lib.hid (Nat.lt_of_lt_of_le lsb.out B2.size)
      obtain ⟨u, hu⟩ : ∃ u, (S k).toNat = u := ⟨_, rfl⟩
      rw [hu] at HCL NS
      rw [hu]
      have z2 := Lib.hid (show w1.heap.size ≤ w2.heap.size from HB2.out.below.size)
      have sz1 := Lib.hid (show sb < w1.heap.size by have := z1.out; omega)
      clear hu F2 hcl B2 EE HO HB HC HF
      go_wp2_with (at_builtin; refine wpList_append_own _ rfl _ _ 41 rfl w1.heap.size 5 i0 (.int .u8 0) 1 1 Tryz.underlying41 hi0 hz0 hz1 hz2 rfl (by decide) _ _ _ rfl HO2.out ⟨Bd, 0, none⟩ 1 1 [.int .u8 (u : Int)] rfl rfl HCL.out (by simp [Value.oneCell']) (by unfold maxLen; omega) (by omega) z2.out ?_; intro v' w3 hown3 hgrow3 _; have G3 := (Below.refl w1.heap.size w2).grown hgrow3 z2.out (fun k e => own_block_ge HO2.out e); have c3 := (G3.cell (p := ⟨sb, 0, none⟩) sz1.out).trans C2.out; have f3 := (G3.frozen (p := ⟨sb, 0, none⟩) sz1.out).trans FZ2.out; obtain ⟨g', cap', rfl⟩ := ownsRow_succ hown3; have HO3 := Lib.hid hown3; have HG3 := Lib.hid G3; clear hown3 hgrow3 G3)
      have one := Lib.hid (show ((w3.setCell ⟨sb, 0, none⟩ (.slice (some ⟨g', 0, none⟩) (k + 1) cap')).cell? ⟨sb, 0, none⟩ = some (.slice (some ⟨g', 0, none⟩) (k + 1) cap')) from World.cell?_setCell_same' _ _ _ (by rw [c3]; rfl))
      have two := Lib.hid (show (w3.setCell ⟨sb, 0, none⟩ (.slice (some ⟨g', 0, none⟩) (k + 1) cap')).frozen? ⟨sb, 0, none⟩ = false by rw [World.frozen?_setCell]; exact f3)
      have three := Lib.hid (show (w3.setCell ⟨sb, 0, none⟩ (.slice (some ⟨g', 0, none⟩) (k + 1) cap')).ownsRow w1.heap.size 5 1 (.slice (some ⟨g', 0, none⟩) (k + 1) cap') (k + 1) (vals S (k + 1)) by rw [NS.out]; exact own_set HO3.out sz1.out)
      have four := Lib.hid (show But sb w1 (w3.setCell ⟨sb, 0, none⟩ (.slice (some ⟨g', 0, none⟩) (k + 1) cap')) from But.setCell ⟨HB2.out.below.trans (HG3.out.mono (Nat.le_of_lt sz1.out)), fun b hb hc => (HG3.out.block b hb).trans (HB2.out.rest b hb hc)⟩ 0 _)
      go_roundw
      case rel => exact ⟨k + 1, _, by omega, by go_num, one.out, two.out, three.out, four.out⟩
      case measure => simp [intOf]; omega
    · have HK8 := Lib.hid (show k = 8 by omega)
      have sz1 := Lib.hid (show sb < w1.heap.size by have := z1.out; omega)
      have bsb := Lib.hid (show bx < sb by have := HSB.out; omega)
      have lbx := Lib.hid (show bx < wr.heap.size by have := lsb.out; have := bsb.out; omega)
      have cw0 := Lib.hid (show wr.cell? ⟨bx, 0, none⟩ = some (.slice (some ⟨b, 0, none⟩) n cb) from (World.cell?_of_block (w := w1) (a := ⟨bx, 0, none⟩) (HB.out.rest bx (by have := sz1.out; have := bsb.out; omega) (by have := bsb.out; omega))).trans c0.out)
      have cw1 := Lib.hid (show wr.cell? ⟨bx, 1, none⟩ = some (.slice (some ⟨eb, 0, none⟩) n ce) from (World.cell?_of_block (w := w1) (a := ⟨bx, 1, none⟩) (HB.out.rest bx (by have := sz1.out; have := bsb.out; omega) (by have := bsb.out; omega))).trans c1.out)
      have q1 := cw0.out
      have q2 := cw1.out
      have SW := Lib.hid (show ∀ j, vals S 8 = vals (fun i => Blk.twist (Blk.elem n) (Blk.ers er 0) S ((Blk.ers er 0).length + i)) (8 - (Blk.ers er 0).length) ∨ j = 1 from fun j => .inl (by
        show vals S 8 = vals (fun i => S (0 + i)) 8
        congr 1
        funext i
        rw [Nat.zero_add]))
      have HO0 := Lib.hid (show wr.ownsRow w1.heap.size 5 1 v (8 - (Blk.ers er 0).length) (vals (fun i => Blk.twist (Blk.elem n) (Blk.ers er 0) S ((Blk.ers er 0).length + i)) (8 - (Blk.ers er 0).length)) by
        have h8 := HO.out
        rw [HK8.out] at h8
        rcases SW.out 0 with h | h
        · rw [← h]; exact h8
        · omega)
      rename World => w5
      clear SW
      go_wp2_with fail
      clear q1 q2
      go_loopw [25] (fun i wr => ∃ (k : Nat) (v : Value), k ≤ n ∧ i = .int .i64 (k : Nat) ∧ wr.cell? ⟨sb, 0, none⟩ = some v ∧ wr.frozen? ⟨sb, 0, none⟩ = false ∧ wr.ownsRow w1.heap.size 5 1 v (8 - (Blk.ers er k).length) (vals (fun i => Blk.twist (Blk.elem n) (Blk.ers er k) S ((Blk.ers er k).length + i)) (8 - (Blk.ers er k).length)) ∧ But sb w1 wr) (fun i _ => n - (intOf i).toNat)
      case atStart => exact ⟨0, v, Nat.zero_le _, rfl, HC.out, HF.out, HO0.out, HB.out⟩
      case round =>
        obtain ⟨k, v, hk, rfl, hcv, hfv, hown, hB⟩ := hrel
        have HC := Lib.hid hcv
        have HF := Lib.hid hfv
        have HO := Lib.hid hown
        have HB := Lib.hid hB
        have BW := Lib.hid (show Below w.heap.size w wr from BB.out.trans (hB.below.mono (by have := HBX.out; have := HSB.out; omega)))
        have lsb := Lib.hid (show sb < wr.heap.size by have := hB.below.size; have := z1.out; omega)
        have LK := Lib.hid (ers_len_le er hk)
        have HL8 := Lib.hid hq
        clear hcv hfv hown hB lbx cw0 cw1 HO0
        by_cases hlt : k < n
        · have HW := Lib.hid (HH.out.below BW.out)
          have ck := HW.out.er.cell hlt
          have es := Blk.ers_succ er k
          obtain ⟨vb, hvb⟩ : ∃ v, er k = v := ⟨_, rfl⟩
          rw [hvb] at ck
          cases vb with
          | false =>
            have EN := Lib.hid (show Blk.ers er (k + 1) = Blk.ers er k by rw [es, hvb]; rfl)
            clear es hvb
            go_wp2_with fail
            go_roundw
            case rel => exact ⟨k + 1, v, by omega, by go_num, HC.out, HF.out, by rw [EN.out]; exact HO.out, HB.out⟩
            case measure => simp [intOf]; omega
          | true =>
            have EY := Lib.hid (show Blk.ers er (k + 1) = Blk.ers er k ++ [k] by rw [es, hvb]; rfl)
            have LY := Lib.hid (show (Blk.ers er (k + 1)).length = (Blk.ers er k).length + 1 by rw [EY.out, List.length_append]; rfl)
            have LN := Lib.hid (ers_len_le er (show k + 1 ≤ n by omega))
            obtain ⟨m, hm⟩ : ∃ m, 8 - (Blk.ers er (k + 1)).length = m := ⟨_, rfl⟩
            have hm1 : 8 - (Blk.ers er k).length = m + 1 := by have := LY.out; have := LN.out; omega
            have HO1 := HO.out
            rw [hm1] at HO1
            obtain ⟨g, C, rfl⟩ := ownsRow_succ HO1
            have NM := Lib.hid (own_row HO1)
            have lbx := Lib.hid (show bx < wr.heap.size by have := lsb.out; have := bsb.out; omega)
            have cw0 := Lib.hid (show wr.cell? ⟨bx, 0, none⟩ = some (.slice (some ⟨b, 0, none⟩) n cb) from (World.cell?_of_block (w := w1) (a := ⟨bx, 0, none⟩) (HB.out.rest bx (by have := sz1.out; have := bsb.out; omega) (by have := bsb.out; omega))).trans c0.out)
            have cw1 := Lib.hid (show wr.cell? ⟨bx, 1, none⟩ = some (.slice (some ⟨eb, 0, none⟩) n ce) from (World.cell?_of_block (w := w1) (a := ⟨bx, 1, none⟩) (HB.out.rest bx (by have := sz1.out; have := bsb.out; omega) (by have := bsb.out; omega))).trans c1.out)
            have TS := Lib.hid (show ∀ i, i < m → Gal.mul (Blk.elem n k) (Blk.twist (Blk.elem n) (Blk.ers er k) S ((Blk.ers er k).length + i)) ^^^ Blk.twist (Blk.elem n) (Blk.ers er k) S ((Blk.ers er k).length + (i + 1)) = Blk.twist (Blk.elem n) (Blk.ers er (k + 1)) S ((Blk.ers er (k + 1)).length + i) from fun i hi => by
              rw [LY.out, EY.out, Blk.twist_snoc]
              unfold Blk.tstep Gal.sh
              rw [if_pos (by omega), show (Blk.ers er k).length + 1 + i - 1 = (Blk.ers er k).length + i by omega, show (Blk.ers er k).length + 1 + i = (Blk.ers er k).length + (i + 1) by omega, BitVec.xor_comm])
            have HM := Lib.hid hm
            clear es hvb HO1 hm
            go_upto_region 11 with fail
            refine leRegion sb bx k b cb eb ce n (.slice (some ⟨g, 0, none⟩) (m + 1) C) (by omega) hlt lsb.out HC.out lbx.out cw0.out cw1.out (by kernel_rfl) rfl rfl rfl rfl rfl rfl rfl rfl ?_
            intro w2 B2
            simp only [Act.put, List.setIfInBounds_toArray, List.set_cons_succ, List.set_cons_zero, List.drop_succ_cons, List.drop_zero]
            have N2 := NM.out.below B2
            have WO := Lib.hid (without_any g C (m + 1) m (Blk.elem n k) (fun i => Blk.twist (Blk.elem n) (Blk.ers er k) S ((Blk.ers er k).length + i)) rfl (by omega) w2 N2)
            have C2 := Lib.hid ((B2.cell (p := ⟨sb, 0, none⟩) lsb.out).trans HC.out)
            have FZ2 := Lib.hid ((B2.frozen (p := ⟨sb, 0, none⟩) lsb.out).trans HF.out)
            have HB2 := Lib.hid (HB.out.trans (But.of_below B2 (Nat.le_of_lt lsb.out)))
            have L2 := Lib.hid (Nat.lt_of_lt_of_le lsb.out B2.size)
            obtain ⟨xe, hxe⟩ : ∃ x, (Blk.elem n k).toNat = x := ⟨_, rfl⟩
            rw [hxe] at WO ⊢
            clear hxe B2 N2 NM HO HB HC HF ck cw0 cw1 hm1
            go_wp2_with fail
            (with_reducible refine WO.out.mono ?_)
            rintro e w3 ⟨v3, rfl, ho3, hb3⟩
            have vm : ∃ g3 C3, v3 = .slice g3 m C3 := by
              rcases ho3.2 with ⟨rfl, h⟩ | ⟨g3, C3, _, rfl, _⟩
              · exact ⟨none, 0, by rw [h]⟩
              · exact ⟨_, _, rfl⟩
            obtain ⟨g3, C3, rfl⟩ := vm
            have z2 := Lib.hid (show w1.heap.size ≤ w2.heap.size from HB2.out.below.size)
            have HO3 := Lib.hid (own_mono ho3 z2.out)
            have c3 := (hb3.cell (p := ⟨sb, 0, none⟩) L2.out).trans C2.out
            have f3 := (hb3.frozen (p := ⟨sb, 0, none⟩) L2.out).trans FZ2.out
            have HB3 := Lib.hid (HB2.out.trans (But.of_below hb3 (Nat.le_of_lt L2.out)))
            have one := Lib.hid (show ((w3.setCell ⟨sb, 0, none⟩ (.slice g3 m C3)).cell? ⟨sb, 0, none⟩ = some (.slice g3 m C3)) from World.cell?_setCell_same' _ _ _ (by rw [c3]; rfl))
            have two := Lib.hid (show (w3.setCell ⟨sb, 0, none⟩ (.slice g3 m C3)).frozen? ⟨sb, 0, none⟩ = false by rw [World.frozen?_setCell]; exact f3)
            have three := Lib.hid (show (w3.setCell ⟨sb, 0, none⟩ (.slice g3 m C3)).ownsRow w1.heap.size 5 1 (.slice g3 m C3) (8 - (Blk.ers er (k + 1)).length) (vals (fun i => Blk.twist (Blk.elem n) (Blk.ers er (k + 1)) S ((Blk.ers er (k + 1)).length + i)) (8 - (Blk.ers er (k + 1)).length)) by
              rw [HM.out]
              have := own_set (c := sb) (i := 0) (u := .slice g3 m C3) HO3.out sz1.out
              rwa [show vals (fun i => Gal.mul (Blk.elem n k) (Blk.twist (Blk.elem n) (Blk.ers er k) S ((Blk.ers er k).length + i)) ^^^ Blk.twist (Blk.elem n) (Blk.ers er k) S ((Blk.ers er k).length + (i + 1))) m = vals (fun i => Blk.twist (Blk.elem n) (Blk.ers er (k + 1)) S ((Blk.ers er (k + 1)).length + i)) m from by
                unfold vals
                refine List.map_congr_left (fun i hi => ?_)
                exact congrArg (fun z : BitVec 8 => Value.int .u8 (z.toNat : Nat)) (TS.out i (List.mem_range.1 hi))] at this)
            have four := Lib.hid (show But sb w1 (w3.setCell ⟨sb, 0, none⟩ (.slice g3 m C3)) from HB3.out.setCell 0 _)
            clear ho3 hb3 WO
            go_wp2_with fail
            go_roundw
            case rel => exact ⟨k + 1, _, by omega, by go_num, one.out, two.out, three.out, four.out⟩
            case measure => simp [intOf]; omega
        · obtain rfl : k = n := by omega
          obtain ⟨L, hL⟩ : ∃ L, 8 - (Blk.ers er k).length = L := ⟨_, rfl⟩
          have HO1 := HO.out
          rw [hL] at HO1
          have L2q : 2 * q ≤ L := by have := HL8.out; omega
          have EN := Lib.hid (show ∀ i j w6, i < q → j ≤ q → Below wr.heap.size wr w6 → Calls Tryz.prog 92 (#[] ++ #[.int .i64 (i : Nat), .int .i64 (j : Nat)] ++ #[.pointer (some ⟨sb, 0, none⟩)]) w6 fun e w7 => e = .returned (.int .u8 ((Blk.locB (Blk.twist (Blk.elem k) (Blk.ers er k) S) (Blk.ers er k).length q i j).toNat : Nat)) ∧ Below w6.heap.size w6 w7 from fun i j w6 hi hj hB6 => by
            have e1 : L = (L - 1) + 1 := by omega
            rw [e1] at HO1
            obtain ⟨g, C, rfl⟩ := ownsRow_succ HO1
            have NM := own_row HO1
            rw [← e1] at NM
            have cc := (hB6.cell (p := ⟨sb, 0, none⟩) lsb.out).trans HC.out
            rw [← e1] at cc
            exact loc1_any sb g C L i j (fun i => Blk.twist (Blk.elem k) (Blk.ers er k) S ((Blk.ers er k).length + i)) (by omega) (by omega) w6 cc (NM.below hB6))
          have SV := Lib.hid (solved_any q 92 #[.pointer (some ⟨sb, 0, none⟩)] (Blk.locB (Blk.twist (Blk.elem k) (Blk.ers er k) S) (Blk.ers er k).length q) (by omega) wr (fun args w => by go_simp) EN.out)
          obtain ⟨M, hM⟩ : ∃ M, Blk.locB (Blk.twist (Blk.elem k) (Blk.ers er k) S) (Blk.ers er k).length q = M := ⟨_, rfl⟩
          rw [hM] at SV
          have HMM := Lib.hid hM
          clear HO1 EN hM HO
          go_wp2_with fail
          (with_reducible refine SV.out.mono ?_)
          rintro e w6 ⟨hB6, ⟨g, y, rfl, hg, hN, hS1, hS2⟩ | ⟨hK, p, rfl, hp⟩⟩
          · have HB6 := Lib.hid (BW.out.trans (hB6.mono BW.out.size))
            have HS1 := Lib.hid hS1
            have HS2 := Lib.hid hS2
            have HN6 := Lib.hid hN
            have B7 := Lib.hid (ba HB6.out (.cells #[.int .u8 1] 5))
            have q9 : q ≤ 8 := by omega
            have OL := Lib.hid (show ∀ b, some (⟨g, 0, none⟩ : Addr) = some b → ∀ j u, (vals y q)[j]? = some u → (w6.alloc (.cells #[.int .u8 1] 5)).cell? (b.add j) = some u from fun b hb j u hu => by
              cases hb
              rw [addr_add, Nat.zero_add]
              have hj : j < q := by
                have := (List.getElem?_eq_some_iff.1 hu).1
                simpa [vals] using this
              rw [vals_at y hj] at hu
              cases hu
              exact (HN6.out.alloc _).cell hj)
            have VQ := Lib.hid (show vals y q ++ [.int .u8 1] = vals (fun i => if i < q then y i else 1#8) (q + 1) by
              rw [vals_succ, if_neg (Nat.lt_irrefl q)]
              congr 1
              unfold vals
              refine List.map_congr_left (fun i hi => ?_)
              show Value.int .u8 ((y i).toNat : Nat) = Value.int .u8 ((if i < q then y i else 1#8).toNat : Nat)
              rw [if_pos (List.mem_range.1 hi)])
            obtain ⟨i0, hi0, hz0, hz1, hz2⟩ := info_parts info_u8
            have FIN := Lib.hid (show ∀ w8, Below w.heap.size w w8 → Below w.heap.size w w8 ∧ ((∃ y', Ending.returned (.string ⟨(Gal.coefs (fun i => if i < q then y i else 1#8) (q + 1)).toArray⟩) = .returned (.string ⟨(Blk.locP y' q).toArray⟩) ∧ Blk.Solves M q y' 1#8 ∧ ∀ z, Blk.Solves M q z 1#8 → ∀ r, r < q → z r = y' r) ∨ ((∃ z r, r < q ∧ Blk.Solves M q z 0#8 ∧ z r = 1#8) ∧ ∃ p, Ending.returned (.string ⟨(Gal.coefs (fun i => if i < q then y i else 1#8) (q + 1)).toArray⟩) = .panicked p ∧ Pan p)) from fun w8 h => ⟨h, .inl ⟨y, by rw [Blk.locP_coefs], HS1.out, HS2.out⟩⟩)
            obtain ⟨st, hst⟩ : ∃ s : ByteArray, (⟨(Gal.coefs (fun i => if i < q then y i else 1#8) (q + 1)).toArray⟩ : ByteArray) = s := ⟨_, rfl⟩
            rw [hst] at FIN
            have HST := Lib.hid hst
            clear hB6 hS1 hS2 hN SV hst
            go_wp2_with (at_builtin; refine wpList_append_grows _ rfl _ _ 41 rfl 5 i0 (.int .u8 0) 1 1 Tryz.underlying41 hi0 hz0 hz1 hz2 rfl (by decide) (some ⟨g, 0, none⟩) q q (vals y q) rfl (fun h => by cases h) (by simp [vals]) OL.out ⟨w6.heap.size, 0, none⟩ 1 1 [.int .u8 1] rfl rfl cell_one (by simp [Value.oneCell']) (by omega) (by unfold maxLen; omega) (by omega) ?_; intro v' w8 hown8 hgrow8; rw [VQ.out] at hown8; have CV := own_back hown8; rw [HST.out] at CV; have B8 := Lib.hid (B7.out.grown hgrow8 B7.out.size (fun k e => by cases e)); clear hown8 hgrow8)
            go_ret
            rw [HMM.out]
            exact FIN.out _ B8.out
          · rw [← HMM.out] at hK
            exact ⟨rfl, BW.out.trans (hB6.mono BW.out.size), .inr ⟨hK, p, rfl, hp⟩⟩
end Go.Proofs.YtlpjhmafplljaaaGreatDoor
