/- Layer 8: what MarkerBridges needs: the misses of a stream that is being made, its blocks in memory. -/
import Derived.Test.YtlfnglinalmpjaaMkRows
import Derived.Test.YtlfnglinalmpjaaMkAwake
namespace Go.Proofs.Ytlfnglinalmpjaa
open Go.RowKit
set_option linter.unusedVariables false

/-- The wrong bits of the marker k. -/
def wfz (L : Nat) (zs : List Int) (k : Nat) : Nat := Mk.wrongAt (fz zs) (k * (32 + L)) 32
theorem fz_app (zs ys : List Int) (i : Nat) (h : i < zs.length) : fz (zs ++ ys) i = fz zs i := by
  unfold fz
  rw [List.getD_eq_getElem?_getD, List.getD_eq_getElem?_getD, List.getElem?_append_left h]
theorem fz_app2 (zs ys : List Int) (i : Nat) : fz (zs ++ ys) (zs.length + i) = fz ys i := by
  unfold fz
  rw [List.getD_eq_getElem?_getD, List.getD_eq_getElem?_getD, List.getElem?_append_right (by omega), show zs.length + i - zs.length = i by omega]
theorem block_end {L k i : Nat} (h : k < i) : k * (32 + L) + (32 + L) ≤ i * (32 + L) := by
  have : (k + 1) * (32 + L) ≤ i * (32 + L) := Nat.mul_le_mul_right _ h
  rw [Nat.succ_mul] at this
  exact this
theorem wfz_app (L : Nat) (zs ys : List Int) (i k : Nat) (hz : zs.length = i * (32 + L)) (hk : k < i) : wfz L (zs ++ ys) k = wfz L zs k := by
  have := block_end (L := L) hk
  exact Mk.wrongAt_congr 32 (fun j hj => fz_app zs ys j (by omega))
theorem mis_congr {f g : Nat → Nat} : ∀ k, (∀ j, j < k → f j = g j) → Mk.mis f k = Mk.mis g k
  | 0, _ => rfl
  | k + 1, h => by
    show (if f k ≤ 2 then 0 else Mk.mis f k + 1) = (if g k ≤ 2 then 0 else Mk.mis g k + 1)
    rw [h k (by omega), mis_congr k (fun j hj => h j (by omega))]
/-- A stream of i blocks, m markers missed at its end. -/
structure BrI (L : Nat) (zs : List Int) (i m : Nat) : Prop where
  len : zs.length = i * (32 + L)
  soft : ∀ z ∈ zs, -8 ≤ z ∧ z ≤ 7
  m2 : m ≤ 2
  mis : Mk.mis (wfz L zs) i ≤ m
  all : ∀ k, k ≤ i → Mk.mis (wfz L zs) k ≤ 2
  first : 0 < i → wfz L zs 0 ≤ 2
theorem BrI.start (L : Nat) : BrI L [] 0 0 := ⟨by simp, fun z hz => by simp at hz, by omega, Nat.le_refl _, fun k hk => by
  obtain rfl : k = 0 := by omega
  exact Nat.zero_le _, fun h => by omega⟩
theorem BrI.next {L i m m' : Nat} {zs ss bs : List Int} (h : BrI L zs i m) (h32 : ss.length = 32) (hL : bs.length = L) (hs : ∀ z ∈ ss, -8 ≤ z ∧ z ≤ 7) (hb : ∀ z ∈ bs, -8 ≤ z ∧ z ≤ 7)
    (hm : (0 < i ∧ m < 2 ∧ m' = m + 1) ∨ (m' = 0 ∧ Mk.wrongAt (fz ss) 0 32 ≤ 2)) : BrI L (zs ++ ss ++ bs) (i + 1) m' := by
  have hz := h.len
  have e0 : zs ++ ss ++ bs = zs ++ (ss ++ bs) := List.append_assoc ..
  have same : ∀ k, k < i → wfz L (zs ++ ss ++ bs) k = wfz L zs k := fun k hk => by rw [e0]; exact wfz_app L zs _ i k hz hk
  have last : wfz L (zs ++ ss ++ bs) i = Mk.wrongAt (fz ss) 0 32 := by
    unfold wfz
    rw [e0, ← hz]
    refine wrongAt_shift 32 (fun j hj => ?_)
    rw [fz_app2, Nat.zero_add]
    exact fz_app ss bs j (by omega)
  have mi : Mk.mis (wfz L (zs ++ ss ++ bs)) i = Mk.mis (wfz L zs) i := mis_congr i same
  have ml : Mk.mis (wfz L (zs ++ ss ++ bs)) (i + 1) ≤ m' ∧ m' ≤ 2 := by
    show (if wfz L (zs ++ ss ++ bs) i ≤ 2 then 0 else Mk.mis (wfz L (zs ++ ss ++ bs)) i + 1) ≤ m' ∧ m' ≤ 2
    rw [mi, last]
    have := h.mis
    rcases hm with ⟨g1, g2, rfl⟩ | ⟨rfl, g⟩
    · refine ⟨?_, by omega⟩
      split <;> omega
    · rw [if_pos g]
      omega
  refine ⟨?_, fun z q => ?_, ml.2, ml.1, fun k hk => ?_, fun _ => ?_⟩
  · rw [List.length_append, List.length_append, h32, hL, hz, Nat.succ_mul]
    omega
  · rcases List.mem_append.1 q with q | q
    · rcases List.mem_append.1 q with q | q
      · exact h.soft z q
      · exact hs z q
    · exact hb z q
  · by_cases e : k = i + 1
    · rw [e]
      omega
    · rw [mis_congr k (fun j hj => same j (by omega))]
      exact h.all k (by omega)
  · by_cases g : 0 < i
    · rw [same 0 g]
      exact h.first g
    · obtain rfl : i = 0 := by omega
      rw [last]
      rcases hm with ⟨g1, _⟩ | ⟨_, g⟩
      · omega
      · exact g
/-- A marker with two bits inverted at the most. -/
theorem few_wrong {v : Nat → Int} {p a b : Nat} {fl : Nat → Bool} (hf : ∀ j, j < 32 → fl j = true → j = a ∨ j = b) (hv : ∀ j, j < 32 → (0 ≤ v (p + j) ↔ (if fl j = true then 1 - Mk.mbit j else Mk.mbit j) = 1)) : ∀ k, k ≤ 32 → Mk.wrongAt v p k ≤ (if a < k then 1 else 0) + (if b < k then 1 else 0)
  | 0, _ => Nat.zero_le _
  | k + 1, hk => by
    have ih := few_wrong hf hv k (by omega)
    have m2 : Mk.mbit k < 2 := Nat.mod_lt _ (by decide)
    have hvk := hv k (by omega)
    show Mk.wrongAt v p k + _ ≤ _
    by_cases f : fl k = true
    · have hab := hf k (by omega) f
      split
      · split at ih <;> split at ih <;> split <;> split <;> omega
      · split at ih <;> split at ih <;> split <;> split <;> omega
    · rw [if_neg f] at hvk
      rw [if_pos (decide_eq_decide.2 hvk)]
      split at ih <;> split at ih <;> split <;> split <;> omega
/-- The bytes of a marker that is being made. -/
def flb (fl : Nat → Bool) (j : Nat) : Nat := if fl j = true then 1 - mkb j else mkb j
theorem flb_lt (fl : Nat → Bool) (j : Nat) : flb fl j < 2 := by
  have := mkb_lt j
  unfold flb
  split <;> omega
def fls (fl : Nat → Bool) (k j : Nat) : Nat := if j < k then flb fl j else mkb j
def flv (fl : Nat → Bool) (j : Nat) : BitVec 8 := BitVec.ofNat 8 (flb fl j)
theorem flv_nat (fl : Nat → Bool) (j : Nat) : (flv fl j).toNat = flb fl j := by
  have := flb_lt fl j
  unfold flv
  rw [BitVec.toNat_ofNat]
  omega
def flS (fl : Nat → Bool) : ByteArray := ⟨(Gal.coefs (flv fl) 32).toArray⟩
theorem flS_size (fl : Nat → Bool) : (flS fl).size = 32 := coefs_size _ _
theorem flS_co (fl : Nat → Bool) (j : Nat) (hj : j < 32) : (Gal.co (flS fl).data.toList j).toNat = flb fl j := by
  unfold flS
  show (Gal.co (Gal.coefs _ _) j).toNat = _
  rw [Gal.co_coefs, if_pos hj, flv_nat]
theorem flS_ok (fl : Nat → Bool) : listOk (flS fl).data.toList = true := by
  rw [listOk_iff]
  intro i hi
  rw [ls, flS_size] at hi
  rw [flS_co fl i hi]
  exact flb_lt fl i
/-- Its values. -/
def flZ (fl : Nat → Bool) : List Int := zof (sft (flS fl).data.toList) 32
theorem flZ_len (fl : Nat → Bool) : (flZ fl).length = 32 := zof_len _ _
theorem flZ_at (fl : Nat → Bool) (j : Nat) (hj : j < 32) : fz (flZ fl) j = 14 * (flb fl j : Int) - 7 := by
  unfold fz flZ
  rw [zof_get _ _ _ hj]
  unfold sft
  rw [flS_co fl j hj]
theorem flZ_soft (fl : Nat → Bool) : ∀ z ∈ flZ fl, -8 ≤ z ∧ z ≤ 7 := by
  intro z hz
  unfold flZ zof at hz
  obtain ⟨j, hj, rfl⟩ := List.mem_map.1 hz
  have hj' : j < 32 := by simpa using hj
  have := flb_lt fl j
  unfold sft
  rw [flS_co fl j hj']
  omega
theorem flZ_few {a b : Nat} {fl : Nat → Bool} (hf : ∀ j, j < 32 → fl j = true → j = a ∨ j = b) : Mk.wrongAt (fz (flZ fl)) 0 32 ≤ 2 := by
  have := few_wrong (v := fz (flZ fl)) (p := 0) hf (fun j hj => by
    rw [Nat.zero_add, flZ_at fl j hj]
    have := flb_lt fl j
    have e : (if fl j = true then 1 - Mk.mbit j else Mk.mbit j) = flb fl j := rfl
    rw [e]
    omega) 32 (Nat.le_refl _)
  split at this <;> split at this <;> omega
/-- Rows of numbers of one's own, in a list; none of them lies where av lies. -/
def BlkL (w : World) (n0 L : Nat) (zs : List Int) (av : Value) (i : Nat) (cs : List Value) : Prop :=
  ∀ j, j < i → ∃ sv, cs[j]? = some sv ∧ w.ownsRow n0 3 1 sv L ((seg zs (j * (32 + L) + 32) L).map (Value.int .i64)) ∧ ∀ k, sv.ownBlock = some k → av.ownBlock ≠ some k
theorem seg_app (zs ys : List Int) (p k : Nat) (h : p + k ≤ zs.length) : seg (zs ++ ys) p k = seg zs p k := by
  unfold seg
  rw [List.drop_append_of_le_length (by omega), List.take_append_of_le_length (by rw [List.length_drop]; omega)]
theorem seg_app2 (zs ys : List Int) (k : Nat) (h : ys.length = k) : seg (zs ++ ys) zs.length k = ys := by
  unfold seg
  rw [List.drop_left, List.take_of_length_le (by omega)]
theorem apart_ty {w : World} {b1 b2 e1 e2 s1 s2 n1 n2 : Nat} {v1 v2 : Value} {xs1 xs2 : List Value} (h1 : w.ownsRow b1 e1 s1 v1 n1 xs1) (h2 : w.ownsRow b2 e2 s2 v2 n2 xs2) (he : e1 ≠ e2) : ∀ k, v1.ownBlock = some k → v2.ownBlock ≠ some k := by
  intro k hk q
  rcases h1.2 with ⟨rfl, _⟩ | ⟨g, c, cur, rfl, _, hg, _⟩
  · cases hk
  · rcases h2.2 with ⟨rfl, _⟩ | ⟨g', c', cur', rfl, _, hg', _⟩
    · cases q
    · cases hk
      cases q
      rw [hg] at hg'
      simp only [Option.some.injEq, Obj.cells.injEq] at hg'
      exact he hg'.2.1
theorem info_ints : (Try.prog.info? 29).map (fun i => (i.zero, i.size, i.bytes)) = some (some (.slice none 0 0), 1, 24) := by kernel_rfl
/-- What the loop over the blocks has in memory. -/
structure BrM (w wr : World) (L : Nat) (zs : List Int) (av bv : Value) (i : Nat) (cs : List Value) : Prop where
  all : wr.ownsRow w.heap.size 3 1 av zs.length (zs.map (Value.int .i64))
  row : wr.ownsRow w.heap.size 29 1 bv i cs
  blk : BlkL wr w.heap.size L zs av i cs
  bel : Below w.heap.size w wr
theorem BrM.next {w wr w5 w6 w7 w8 w9 : World} {L i : Nat} {zs ss bs : List Int} {av bv bv' v1 v2 sv : Value} {cs : List Value} (h : BrM w wr L zs av bv i cs) (zl : zs.length = i * (32 + L)) (hss : ss.length = 32) (hbs : bs.length = L)
    (B5 : Below wr.heap.size wr w5) (R5 : w5.ownsRow wr.heap.size 3 1 sv L (bs.map (Value.int .i64)))
    (G6 : w5.grownBy w6 av.ownBlock) (K6 : v1.ownBlock = av.ownBlock ∨ v1.ownBlock = some w5.heap.size)
    (O7 : w7.ownsRow w.heap.size 3 1 v2 (zs.length + 32 + L) (zs.map (Value.int .i64) ++ ss.map (Value.int .i64) ++ bs.map (Value.int .i64))) (G7 : w6.grownBy w7 v1.ownBlock) (K7 : v2.ownBlock = v1.ownBlock ∨ v2.ownBlock = some w6.heap.size)
    (B8 : Below w7.heap.size w7 w8) (O9 : w9.ownsRow w.heap.size 29 1 bv' (i + 1) (cs ++ [sv])) (G9 : w8.grownBy w9 bv.ownBlock) : BrM w w9 L (zs ++ ss ++ bs) v2 bv' (i + 1) (cs ++ [sv]) := by
  have s0 := h.bel.size
  have s5 := B5.size
  have s6 := G6.size
  have s7 := G7.size
  have s8 := B8.size
  have al : ∀ k, av.ownBlock = some k → w.heap.size ≤ k ∧ k < wr.heap.size := fun k hk => h.all.lt k hk
  have bl : ∀ k, bv.ownBlock = some k → w.heap.size ≤ k ∧ k < wr.heap.size := fun k hk => h.row.lt k hk
  have sl : ∀ k, sv.ownBlock = some k → wr.heap.size ≤ k ∧ k < w5.heap.size := fun k hk => R5.lt k hk
  have v1n : ∀ k, v1.ownBlock = some k → av.ownBlock = some k ∨ k = w5.heap.size := fun k hk => by
    rcases K6 with e | e
    · exact .inl (e ▸ hk)
    · have h3 : some k = some w5.heap.size := hk.symm.trans e
      simp only [Option.some.injEq] at h3
      exact .inr h3
  have v2n : ∀ k, v2.ownBlock = some k → v1.ownBlock = some k ∨ k = w6.heap.size := fun k hk => by
    rcases K7 with e | e
    · exact .inl (e ▸ hk)
    · have h3 : some k = some w6.heap.size := hk.symm.trans e
      simp only [Option.some.injEq] at h3
      exact .inr h3
  have abt := apart_ty h.all h.row (by decide)
  -- a block of w5 that is neither the stream's nor the list's stays
  have stay : ∀ k, k < w5.heap.size → av.ownBlock ≠ some k → bv.ownBlock ≠ some k → w9.heap[k]? = w5.heap[k]? := fun k hk ha hb => by
    have e6 := G6.block k hk (fun e => ha e.symm)
    have e7 := G7.block k (by omega) (fun e => by
      rcases v1n k e.symm with q | q
      · exact ha q
      · omega)
    have e8 := B8.block k (by omega)
    have e9 := G9.block k (by omega) (fun e => hb e.symm)
    exact e9.trans (e8.trans (e7.trans e6))
  have svnb : ∀ k, sv.ownBlock = some k → bv.ownBlock ≠ some k := fun k hk e => by
    have := sl k hk
    have := bl k e
    omega
  have svna : ∀ k, sv.ownBlock = some k → av.ownBlock ≠ some k := fun k hk e => by
    have := sl k hk
    have := al k e
    omega
  have bel5 : Below w.heap.size w w5 := bt h.bel B5
  have bel6 : Below w.heap.size w w6 := bel5.grown G6 (by omega) (fun k e => (al k e).1)
  have bel7 : Below w.heap.size w w7 := bel6.grown G7 (by omega) (fun k e => by
    rcases v1n k e with q | q
    · exact (al k q).1
    · omega)
  have bel8 := bt bel7 B8
  have bel9 : Below w.heap.size w w9 := bel8.grown G9 (by omega) (fun k e => (bl k e).1)
  refine ⟨?_, O9, fun j hj => ?_, bel9⟩
  · have o := own_keep (w' := w9) O7 (fun g hg hl => (G9.block g (by omega) (fun e => by
      have := bl g e.symm
      rcases v2n g hg with q | q
      · rcases v1n g q with r | r
        · exact abt g r e.symm
        · omega
      · omega)).trans (B8.block g hl))
    rw [show (zs ++ ss ++ bs).length = zs.length + 32 + L by rw [List.length_append, List.length_append, hss, hbs], List.map_append, List.map_append]
    exact o
  · by_cases e : j < i
    · obtain ⟨x, hx, ho, ha⟩ := h.blk j e
      have be := block_end (L := L) e
      have ox := own_below ho B5
      have xl : ∀ k, x.ownBlock = some k → k < wr.heap.size := fun k hk => (ho.lt k hk).2
      refine ⟨x, by rw [List.getElem?_append_left (by have := (List.getElem?_eq_some_iff.1 hx).1; exact this)]; exact hx, ?_, fun k hk q => ?_⟩
      · rw [List.append_assoc, seg_app _ _ _ _ (by omega)]
        exact own_keep ox (fun g hg hl => stay g hl (ha g hg) (apart_ty ho h.row (by decide) g hg))
      · have := xl k hk
        rcases v2n k q with r | r
        · rcases v1n k r with r' | r'
          · exact ha k hk r'
          · omega
        · omega
    · obtain rfl : j = i := by omega
      have cl : cs.length = j := by have := h.row.1; omega
      refine ⟨sv, by rw [← cl]; simp, ?_, fun k hk q => ?_⟩
      · have sg : seg (zs ++ ss ++ bs) (j * (32 + L) + 32) L = bs := by
          have := seg_app2 (zs ++ ss) bs L hbs
          rwa [List.length_append, hss, zl] at this
        rw [sg]
        exact own_mono (own_keep R5 (fun g hg hl => stay g hl (svna g hg) (svnb g hg))) s0
      · have := sl k hk
        rcases v2n k q with r | r
        · rcases v1n k r with r' | r'
          · exact svna k hk r'
          · omega
        · omega
/-- The list of blocks behind the two appends to the stream. -/
theorem BrM.row8 {w wr w5 w6 w7 w8 : World} {L i n1 : Nat} {zs : List Int} {av bv v1 : Value} {cs xs : List Value} (h : BrM w wr L zs av bv i cs) (B5 : Below wr.heap.size wr w5) (G6 : w5.grownBy w6 av.ownBlock) (O6 : w6.ownsRow w.heap.size 3 1 v1 n1 xs) (G7 : w6.grownBy w7 v1.ownBlock) (B8 : Below w7.heap.size w7 w8) : w8.ownsRow w.heap.size 29 1 bv i cs := by
  have r5 := own_below h.row B5
  have r6 := own_keep r5 (fun g hg hl => G6.block g hl (fun e => apart_ty h.all h.row (by decide) g e.symm hg))
  have r7 := own_keep r6 (fun g hg hl => G7.block g hl (fun e => apart_ty O6 r6 (by decide) g e.symm hg))
  exact own_below r7 B8
end Go.Proofs.Ytlfnglinalmpjaa
