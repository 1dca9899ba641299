/- Decoding: what determines its result, and why the equations find it: plain mathematics of layer 5. -/
import Derived.Test.YtlpjhmafplljaaaDoorBlkLoc
namespace Go.Proofs.YtlpjhmafplljaaaDoor
set_option linter.unusedVariables false
namespace Blk
open Gal (mul pown co)
/-- The element of a place. -/
def elem (n p : Nat) : BitVec 8 := Gal.pw (n - 1 - p)
theorem elem_inj {n p q : Nat} (hn : n ≤ 255) (hp : p < n) (hq : q < n) (h : elem n p = elem n q) : p = q := by
  have := pw_inj (by omega) (by omega) h
  omega
theorem elem_pown (n p j : Nat) : pown (elem n p) j = Gal.pw (j * (n - 1 - p)) := by
  unfold elem
  rw [pown_pw, Nat.mul_comm]
theorem xl_rev : ∀ (n : Nat) (g : Nat → BitVec 8), xl (List.range n) g = xl (List.range n) (fun i => g (n - 1 - i))
  | 0, _ => rfl
  | n + 1, g => by
    rw [xl_range_succ, xl_range_front, xl_rev n g, show n + 1 - 1 - 0 = n by omega, BitVec.xor_comm]
    congr 1
    refine xl_congr _ (fun i hi => ?_)
    rw [show n + 1 - 1 - (i + 1) = n - 1 - i by omega]
theorem syn_sum (b : List UInt8) (j : Nat) : syn b j = xl (List.range b.length) (fun p => mul (co b p) (pown (elem b.length p) j)) := by
  unfold syn
  rw [evl_xl, xl_rev]
  refine xl_congr _ (fun p hp => ?_)
  have hp' := List.mem_range.1 hp
  rw [co_reverse b _ (by omega), show b.length - 1 - (b.length - 1 - p) = p by omega, elem_pown, pown_pw]
/-- The differences. -/
def dlt (b c : List UInt8) (p : Nat) : BitVec 8 := co b p ^^^ co c p
theorem syn_diff {b c : List UInt8} (hc : Code c) (hl : c.length = b.length) (j : Nat) (hj : j < 8) : syn b j = xl (List.range b.length) (fun p => mul (dlt b c p) (pown (elem b.length p) j)) := by
  have h := hc.2.2 j hj
  rw [syn_sum, hl] at h
  have e : xl (List.range b.length) (fun p => mul (dlt b c p) (pown (elem b.length p) j)) = xl (List.range b.length) (fun p => mul (co b p) (pown (elem b.length p) j)) ^^^ xl (List.range b.length) (fun p => mul (co c p) (pown (elem b.length p) j)) := by
    rw [← xl_xor]
    refine xl_congr _ (fun p _ => ?_)
    unfold dlt
    rw [Gal.xor_mul]
  rw [e, h, BitVec.xor_zero, ← syn_sum]
/-- The wrong places that are not erased. -/
def wrong (b c : List UInt8) (f : List Nat) : List Nat := (List.range b.length).filter (fun i => decide (co b i ≠ co c i) && !f.contains i)
theorem wrong_length (b c : List UInt8) (f : List Nat) : (wrong b c f).length = besides b c f := rfl
theorem wrong_nodup (b c : List UInt8) (f : List Nat) : (wrong b c f).Nodup := List.nodup_range.filter _
theorem mem_wrong {b c : List UInt8} {f : List Nat} {p : Nat} : p ∈ wrong b c f ↔ p < b.length ∧ co b p ≠ co c p ∧ p ∉ f := by
  unfold wrong
  rw [List.mem_filter, List.mem_range, Bool.and_eq_true, decide_eq_true_eq, Bool.not_eq_true', ← Bool.not_eq_true, List.contains_iff_mem]
/-- The weights of the wrong places. -/
def wgt (b c : List UInt8) (f : List Nat) (p : Nat) : BitVec 8 := mul (dlt b c p) (gam (elem b.length) f p)
theorem twist_pows {b c : List UInt8} {f : List Nat} (hc : Code c) (hl : c.length = b.length) (s : Nat) (hs : f.length + s < 8) :
    twist (elem b.length) f (syn b) (f.length + s) = pows (elem b.length) (wgt b c f) (wrong b c f) s := by
  rw [twist_sums (elem b.length) (List.range b.length) f (syn b) (dlt b c) 0 (fun j _ hj => by rw [syn_diff hc hl j hj, Nat.sub_zero]) (f.length + s) (by omega) hs]
  unfold pows wrong
  rw [xl_filter _ _ _ (fun p hp hq => by
    unfold wgt
    by_cases hf : p ∈ f
    · rw [gam_in _ f hf, Gal.mul_zero, Gal.zero_mul]
    · have : co b p = co c p := by
        have h2 : f.contains p = false := by rw [← Bool.not_eq_true, List.contains_iff_mem]; exact hf
        rw [h2] at hq
        simpa using hq
      unfold dlt
      rw [this, BitVec.xor_self, Gal.zero_mul, Gal.zero_mul])]
  refine xl_congr _ (fun p _ => ?_)
  rw [show f.length + s - (0 + f.length) = s by omega]
  rfl
theorem wgt_ne {b c : List UInt8} {f : List Nat} (hn : b.length ≤ 255) (hf : ∀ q, q ∈ f → q < b.length) {p : Nat} (hp : p ∈ wrong b c f) : wgt b c f p ≠ 0#8 := by
  obtain ⟨h1, h2, h3⟩ := mem_wrong.1 hp
  refine Gal.mul_ne (fun e => h2 (xor_eq_zero.1 e)) (gam_out _ f (fun q hq e => ?_))
  have := elem_inj hn h1 (hf q hq) e
  exact h3 (this ▸ hq)
/-- The equations of the locator: e of them, from the syndromes without the f erased places. -/
def locM (T : Nat → BitVec 8) (k e : Nat) : Nat → Nat → BitVec 8 := fun r c => if c < e then T (k + e + r - 1 - c) else T (k + e + r)
theorem loc_found {b c : List UInt8} {f : List Nat} (hc : Code c) (hl : c.length = b.length) (hn : b.length ≤ 255) (hf : ∀ q, q ∈ f → q < b.length) (he : f.length + 2 * besides b c f ≤ 8) :
    Solves (locM (twist (elem b.length) f (syn b)) f.length (besides b c f)) (besides b c f) (fun i => lam (elem b.length) (wrong b c f) (i + 1)) 1#8 ∧
    ∀ z, Solves (locM (twist (elem b.length) f (syn b)) f.length (besides b c f)) (besides b c f) z 0#8 → ∀ i, i < besides b c f → z i = 0#8 := by
  have key : ∀ (z : Nat → BitVec 8) r, r < besides b c f → xl (List.range (besides b c f)) (fun i => mul (locM (twist (elem b.length) f (syn b)) f.length (besides b c f) r i) (z i)) = xl (List.range (besides b c f)) (fun i => mul (pows (elem b.length) (wgt b c f) (wrong b c f) (besides b c f + r - 1 - i)) (z i)) := by
    intro z r hr
    refine xl_congr _ (fun i hi => ?_)
    have hi' := List.mem_range.1 hi
    unfold locM
    rw [if_pos hi', show f.length + besides b c f + r - 1 - i = f.length + (besides b c f + r - 1 - i) by omega, twist_pows hc hl _ (by omega)]
  have right : ∀ r, r < besides b c f → locM (twist (elem b.length) f (syn b)) f.length (besides b c f) r (besides b c f) = pows (elem b.length) (wgt b c f) (wrong b c f) (besides b c f + r) := by
    intro r hr
    unfold locM
    rw [if_neg (by omega), Nat.add_assoc, twist_pows hc hl _ (by omega)]
  refine ⟨fun r hr => ?_, fun z hz => ?_⟩
  · rw [key _ r hr, right r hr, Gal.mul_one]
    exact loc_solves (elem b.length) (wgt b c f) (wrong b c f) r
  · refine loc_kernel (elem b.length) (wgt b c f) (wrong b c f) (wrong_nodup b c f) (fun i hi j hj e => elem_inj hn (mem_wrong.1 hi).1 (mem_wrong.1 hj).1 e) (fun p hp => wgt_ne hn hf hp) z (fun r hr => ?_)
    have := hz r hr
    rw [key z r hr, Gal.mul_zero] at this
    exact this
/-- The inverse of a place's element. -/
def elemI (n p : Nat) : BitVec 8 := Gal.pwi (-((n : Int) - 1 - (p : Int)))
theorem elem_elemI {n p : Nat} (hp : p < n) : mul (elem n p) (elemI n p) = 1#8 := by
  unfold elem elemI
  rw [← Gal.pwi_nat, Gal.pwi_add, show ((n - 1 - p : Nat) : Int) + -((n : Int) - 1 - (p : Int)) = 0 by omega]
  decide +kernel
theorem root_iff {n p : Nat} (hn : n ≤ 255) (hp : p < n) (E : List Nat) (hE : ∀ q, q ∈ E → q < n) : Gal.evl (lam (elem n) E) (elemI n p) (E.length + 1) = 0#8 ↔ p ∈ E := by
  rw [lam_eval, facs_zero]
  constructor
  · rintro ⟨q, hq, e⟩
    have h1 := elem_elemI hp
    have : mul (elem n q ^^^ elem n p) (elemI n p) = 0#8 := by rw [Gal.xor_mul, e, h1, BitVec.xor_self]
    rcases mul_eq_zero this with h | h
    · have := elem_inj hn (hE q hq) hp (xor_eq_zero.1 h)
      exact this ▸ hq
    · rw [h, Gal.mul_zero] at h1
      exact absurd h1 (by decide)
  · intro h
    exact ⟨p, h, elem_elemI hp⟩
/-- The sum over a list by its places. -/
theorem xl_index (g : Nat → BitVec 8) : ∀ l : List Nat, xl (List.range l.length) (fun k => g (l.getD k 0)) = xl l g
  | [] => rfl
  | a :: l => by
    rw [List.length_cons, xl_range_front, xl_cons, ← xl_index g l]
    rfl
/-- The equations of the wrong bytes at known places. -/
def mendM (b : List UInt8) (l : List Nat) : Nat → Nat → BitVec 8 := fun j k => if k < l.length then pown (elem b.length (l.getD k 0)) j else syn b j
theorem mend_found {b c : List UInt8} {l : List Nat} (hc : Code c) (hl : c.length = b.length) (hn : b.length ≤ 255) (hd : l.Nodup) (hp : ∀ q, q ∈ l → q < b.length) (h8 : l.length ≤ 8) (ho : ∀ p, p < b.length → p ∉ l → co b p = co c p) :
    Solves (mendM b l) l.length (fun k => dlt b c (l.getD k 0)) 1#8 ∧ ∀ z, Solves (mendM b l) l.length z 0#8 → ∀ i, i < l.length → z i = 0#8 := by
  constructor
  · intro j hj
    have right : mendM b l j l.length = syn b j := if_neg (by omega)
    rw [right, Gal.mul_one, syn_diff hc hl j (by omega)]
    have e : xl (List.range l.length) (fun k => mul (mendM b l j k) (dlt b c (l.getD k 0))) = xl l (fun p => mul (dlt b c p) (pown (elem b.length p) j)) := by
      rw [← xl_index (fun p => mul (dlt b c p) (pown (elem b.length p) j)) l]
      refine xl_congr _ (fun k hk => ?_)
      unfold mendM
      rw [if_pos (List.mem_range.1 hk), Gal.mul_comm]
    rw [e]
    -- the places outside count nothing
    have out : xl (List.range b.length) (fun p => mul (dlt b c p) (pown (elem b.length p) j)) = xl ((List.range b.length).filter (fun p => l.contains p)) (fun p => mul (dlt b c p) (pown (elem b.length p) j)) := by
      rw [xl_filter _ _ _ (fun p hp' hq => by
        have : p ∉ l := by rw [← List.contains_iff_mem, hq]; simp
        unfold dlt
        rw [ho p (List.mem_range.1 hp') this, BitVec.xor_self, Gal.zero_mul])]
    rw [out]
    have perm : l.Perm ((List.range b.length).filter (fun p => l.contains p)) := by
      rw [List.perm_ext_iff_of_nodup hd (List.nodup_range.filter _)]
      intro p
      rw [List.mem_filter, List.mem_range, List.contains_iff_mem]
      exact ⟨fun h => ⟨hp p h, h⟩, fun h => h.2⟩
    have xlp : ∀ {l m : List Nat} (g : Nat → BitVec 8), l.Perm m → xl l g = xl m g := by
      intro l m g h
      induction h with
      | nil => rfl
      | cons x _ ih => rw [xl_cons, xl_cons, ih]
      | swap x y l => rw [xl_cons, xl_cons, xl_cons, xl_cons]; ac_rfl
      | trans _ _ h1 h2 => rw [h1, h2]
    exact xlp _ perm
  · intro z hz
    -- the unknowns as a function of the places
    have zp : ∀ p, p ∈ l → z (l.idxOf p) = 0#8 := by
      refine powers_zero (elem b.length) l (fun p => z (l.idxOf p)) hd (fun i hi j hj e => elem_inj hn (hp i hi) (hp j hj) e) (fun j hj => ?_)
      have := hz j hj
      rw [Gal.mul_zero] at this
      rw [← this, ← xl_index (fun p => mul (z (l.idxOf p)) (pown (elem b.length p) j)) l]
      refine xl_congr _ (fun k hk => ?_)
      have hk' := List.mem_range.1 hk
      have e : l.getD k 0 = l[k] := by rw [List.getD_eq_getElem?_getD, List.getElem?_eq_getElem hk', Option.getD_some]
      unfold mendM
      rw [if_pos hk', e, hd.idxOf_getElem k hk', Gal.mul_comm]
    intro i hi
    have := zp l[i] (List.getElem_mem hi)
    rwa [hd.idxOf_getElem i hi] at this
/-- What Decode returns: data, a number, an error. -/
def Dec (b : List UInt8) (f : List Nat) (out : List UInt8) (n e : Int) : Prop :=
  (∃ c, Near b f c ∧ out = c.take (b.length - 8) ∧ n = ((dif b c).length : Int) ∧ e = 0) ∨ ((∀ c, ¬ Near b f c) ∧ out = [] ∧ n = 0 ∧ e = 50)
theorem dec_unique {b : List UInt8} {f : List Nat} {o o' : List UInt8} {n n' e e' : Int} (h : Dec b f o n e) (h' : Dec b f o' n' e') : o = o' ∧ n = n' ∧ e = e' := by
  rcases h with ⟨c, h1, rfl, rfl, rfl⟩ | ⟨h1, rfl, rfl, rfl⟩
  · rcases h' with ⟨c', h2, rfl, rfl, rfl⟩ | ⟨h2, _, _, _⟩
    · obtain rfl := near_unique h1 h2
      exact ⟨rfl, rfl, rfl⟩
    · exact absurd h1 (h2 c)
  · rcases h' with ⟨c', h2, _, _, _⟩ | ⟨_, rfl, rfl, rfl⟩
    · exact absurd h2 (h1 c')
    · exact ⟨rfl, rfl, rfl⟩
/-- A code block that differs in known places alone: the erased ones and as many besides as there may be. -/
theorem near_of_places {b c : List UInt8} {f l : List Nat} (hc : Code c) (hl : c.length = b.length) (e : Nat) (hle : l.length ≤ e) (he : f.length + 2 * e ≤ 8) (ho : ∀ p, p < b.length → co b p ≠ co c p → p ∉ f → p ∈ l) : Near b f c := by
  refine ⟨hc, hl, ?_⟩
  have : besides b c f ≤ l.length := by
    unfold besides
    have h1 := count_or (fun i => decide (co b i ≠ co c i) && !f.contains i) (fun i => l.contains i) (fun _ => false) (List.range b.length) (fun x hx hq => by
      left
      rw [Bool.and_eq_true, decide_eq_true_eq, Bool.not_eq_true', ← Bool.not_eq_true, List.contains_iff_mem] at hq
      exact List.contains_iff_mem.2 (ho x (List.mem_range.1 hx) hq.1 hq.2))
    have h2 := count_in l (List.range b.length) List.nodup_range
    have h3 : ((List.range b.length).filter (fun _ => false)).length = 0 := by simp
    omega
  omega
/-- The set of erased places alone counts. -/
theorem besides_congr {b c : List UInt8} {f g : List Nat} (h : ∀ p, p ∈ f ↔ p ∈ g) : besides b c f = besides b c g := by
  unfold besides
  congr 1
  apply List.filter_congr
  intro i _
  have : f.contains i = g.contains i := by rw [Bool.eq_iff_iff, List.contains_iff_mem, List.contains_iff_mem]; exact h i
  rw [this]
end Blk
end Go.Proofs.YtlpjhmafplljaaaDoor
