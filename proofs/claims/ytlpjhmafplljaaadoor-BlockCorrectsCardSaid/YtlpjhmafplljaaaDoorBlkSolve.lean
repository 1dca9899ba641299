/- The contract of perigeeref05's solve over this program. -/
import Derived.Test.YtlpjhmafplljaaaDoorBlkSolveR
import Derived.Test.YtlpjhmafplljaaaDoorBlkGauss
namespace Go.Proofs.YtlpjhmafplljaaaDoor
open Go.RowKit
set_option linter.unusedVariables false

/-- A [][]byte of n rows of N bytes: the cells of the block R are slices of the blocks β, which may be written. -/
structure Mat (w : World) (base R n N : Nat) (β γ : Nat → Nat) (m : Nat → Nat → BitVec 8) : Prop where
  top : base ≤ R
  tl : R < w.heap.size
  row : ∀ i, i < n → w.cell? ⟨R, i, none⟩ = some (.slice (some ⟨β i, 0, none⟩) N (γ i))
  free : ∀ i, i < n → w.frozen? ⟨R, i, none⟩ = false
  blk : ∀ i, i < n → base ≤ β i ∧ β i ≠ R
  inj : ∀ i j, i < n → j < n → β i = β j → i = j
  num : ∀ i, i < n → NumsK .u8 w (β i) N (fun c => (m i c).toNat)
namespace Mat
variable {w w' : World} {base R n N : Nat} {β γ : Nat → Nat} {m m' : Nat → Nat → BitVec 8}
theorem below (h : Mat w base R n N β γ m) (hb : Below w.heap.size w w') : Mat w' base R n N β γ m :=
  ⟨h.top, Nat.lt_of_lt_of_le h.tl hb.size, fun i hi => (hb.cell (p := ⟨R, i, none⟩) h.tl).trans (h.row i hi), fun i hi => (hb.frozen (p := ⟨R, i, none⟩) h.tl).trans (h.free i hi), h.blk, h.inj, fun i hi => (h.num i hi).below hb⟩
theorem congr (h : Mat w base R n N β γ m) (e : ∀ r c, r < n → c < N → m r c = m' r c) : Mat w base R n N β γ m' :=
  ⟨h.top, h.tl, h.row, h.free, h.blk, h.inj, fun i hi => (h.num i hi).congr (fun j hj => by rw [e i j hi hj])⟩
theorem put (h : Mat w base R n N β γ m) (r c x : Nat) (hr : r < n) (hc : c < N) (h1 : (m' r c).toNat = x) (h2 : ∀ r' c', r' < n → c' < N → ¬ (r' = r ∧ c' = c) → m' r' c' = m r' c') : Mat (w.setCell ⟨β r, c, none⟩ (.int .u8 (x : Nat))) base R n N β γ m' := by
  have ne := (h.blk r hr).2
  refine ⟨h.top, by rw [World.size_setCell]; exact h.tl, fun i hi => ?_, fun i hi => by rw [World.frozen?_setCell]; exact h.free i hi, h.blk, h.inj, fun i hi => ?_⟩
  · rw [World.cell?_setCell_other (h := fun e => ne (congrArg Addr.block e))]
    exact h.row i hi
  · by_cases e : i = r
    · subst e
      exact (h.num i hi).set c x hc h1 (fun j hj hjc => by rw [h2 i j hi hj (fun q => hjc q.2)])
    · refine NumsK.congr ((h.num i hi).setOther (c := β r) (i := c) (fun q => e (h.inj i r hi hr q.symm)) _) (fun j hj => ?_)
      rw [h2 i j hi hj (fun q => e q.1)]
/-- Two places of a function change. -/
def sw {α : Type} (f : Nat → α) (i k : Nat) : Nat → α := fun r => if r = i then f k else if r = k then f i else f r
theorem sw_lt {i k r : Nat} (hi : i < n) (hk : k < n) (hr : r < n) : sw id i k r < n := by
  unfold sw
  split
  · exact hk
  · split
    · exact hi
    · exact hr
theorem sw_id {α : Type} (f : Nat → α) (i k r : Nat) : sw f i k r = f (sw id i k r) := by
  unfold sw
  split
  · rfl
  · split <;> rfl
theorem sw_inj {i k r r' : Nat} (h : sw id i k r = sw id i k r') : r = r' := by
  simp only [sw, id] at h
  by_cases a1 : r = i <;> by_cases a2 : r = k <;> by_cases b1 : r' = i <;> by_cases b2 : r' = k <;> simp only [a1, a2, b1, b2, if_true, if_false] at h <;> (try split at h) <;> omega
theorem swap (h : Mat w base R n N β γ m) {i k : Nat} (hi : i < n) (hk : k < n) :
    Mat ((w.setCell ⟨R, i, none⟩ (.slice (some ⟨β k, 0, none⟩) N (γ k))).setCell ⟨R, k, none⟩ (.slice (some ⟨β i, 0, none⟩) N (γ i))) base R n N (sw β i k) (sw γ i k) (Blk.gswap m i k) := by
  have hg : ∀ r c, Blk.gswap m i k r c = m (sw id i k r) c := fun r c => by
    unfold Blk.gswap sw
    split
    · rfl
    · split <;> rfl
  refine ⟨h.top, by rw [World.size_setCell, World.size_setCell]; exact h.tl, fun r hr => ?_, fun r hr => by rw [World.frozen?_setCell, World.frozen?_setCell]; exact h.free r hr, fun r hr => ?_, fun r r' hr hr' e => ?_, fun r hr => ?_⟩
  · by_cases e : r = k
    · subst e
      obtain ⟨u, hu⟩ := swap_cell (v := .slice (some ⟨β r, 0, none⟩) N (γ r)) i (h.row r hr)
      rw [World.cell?_setCell_same' _ _ _ (by rw [hu]; rfl)]
      unfold sw
      by_cases q : r = i
      · rw [if_pos q, if_pos q, q]
      · rw [if_neg q, if_neg q, if_pos rfl, if_pos rfl]
    · rw [World.cell?_setCell_other (h := addr_off (fun x => e x.symm))]
      by_cases q : r = i
      · subst q
        rw [World.cell?_setCell_same' _ _ _ (by rw [h.row r hr]; rfl)]
        unfold sw
        rw [if_pos rfl, if_pos rfl]
      · rw [World.cell?_setCell_other (h := addr_off (fun x => q x.symm)), h.row r hr]
        unfold sw
        rw [if_neg q, if_neg q, if_neg e, if_neg e]
  · rw [sw_id β]
    exact h.blk _ (sw_lt hi hk hr)
  · rw [sw_id β, sw_id β i k r'] at e
    exact sw_inj (h.inj _ _ (sw_lt hi hk hr) (sw_lt hi hk hr') e)
  · rw [sw_id β]
    have ne := fun r hr => (h.blk r hr).2
    exact NumsK.congr (((h.num _ (sw_lt hi hk hr)).setOther (c := R) (i := i) (fun q => ne _ (sw_lt hi hk hr) q.symm) _).setOther (c := R) (i := k) (fun q => ne _ (sw_lt hi hk hr) q.symm) _) (fun j hj => by rw [hg])
end Mat
namespace Blk
/-- The row i times f, up to the column c. -/
def scl (m : Nat → Nat → BitVec 8) (i c : Nat) (f : BitVec 8) : Nat → Nat → BitVec 8 := fun r c' => if r = i ∧ c' < c then Gal.mul (m r c') f else m r c'
theorem scl_zero (m : Nat → Nat → BitVec 8) (i : Nat) (f : BitVec 8) : scl m i 0 f = m := by
  funext r c
  unfold scl
  rw [if_neg (by omega)]
theorem scl_at (m : Nat → Nat → BitVec 8) (i c : Nat) (f : BitVec 8) : scl m i c f i c = m i c := if_neg (by omega)
theorem scl_new (m : Nat → Nat → BitVec 8) (i c : Nat) (f : BitVec 8) : scl m i (c + 1) f i c = Gal.mul (m i c) f := if_pos (by omega)
theorem scl_other (m : Nat → Nat → BitVec 8) (i c : Nat) (f : BitVec 8) {r c' : Nat} (h : ¬ (r = i ∧ c' = c)) : scl m i (c + 1) f r c' = scl m i c f r c' := by
  unfold scl
  by_cases e : r = i ∧ c' < c
  · rw [if_pos e, if_pos (by omega)]
  · rw [if_neg e, if_neg (by omega)]
theorem scl_all (m : Nat → Nat → BitVec 8) (i : Nat) (f : BitVec 8) {N r c : Nat} (h : c < N) : scl m i N f r c = gscale m i f r c := by
  unfold scl gscale
  by_cases e : r = i
  · rw [if_pos ⟨e, h⟩, if_pos e]
  · rw [if_neg (fun q => e q.1), if_neg e]
/-- f times the row i into the row r0, up to the column c. -/
def les (m : Nat → Nat → BitVec 8) (i r0 c : Nat) (f : BitVec 8) : Nat → Nat → BitVec 8 := fun r c' => if r = r0 ∧ c' < c then m r c' ^^^ Gal.mul f (m i c') else m r c'
theorem les_zero (m : Nat → Nat → BitVec 8) (i r0 : Nat) (f : BitVec 8) : les m i r0 0 f = m := by
  funext r c
  unfold les
  rw [if_neg (by omega)]
theorem les_at (m : Nat → Nat → BitVec 8) (i r0 c : Nat) (f : BitVec 8) : les m i r0 c f r0 c = m r0 c := if_neg (by omega)
theorem les_i (m : Nat → Nat → BitVec 8) {i r0 : Nat} (c : Nat) (f : BitVec 8) (h : r0 ≠ i) (c' : Nat) : les m i r0 c f i c' = m i c' := if_neg (by omega)
theorem les_new (m : Nat → Nat → BitVec 8) (i r0 c : Nat) (f : BitVec 8) : les m i r0 (c + 1) f r0 c = m r0 c ^^^ Gal.mul f (m i c) := if_pos (by omega)
theorem les_other (m : Nat → Nat → BitVec 8) (i r0 c : Nat) (f : BitVec 8) {r c' : Nat} (h : ¬ (r = r0 ∧ c' = c)) : les m i r0 (c + 1) f r c' = les m i r0 c f r c' := by
  unfold les
  by_cases e : r = r0 ∧ c' < c
  · rw [if_pos e, if_pos (by omega)]
  · rw [if_neg e, if_neg (by omega)]
theorem les_all (m : Nat → Nat → BitVec 8) (i r0 : Nat) (f : BitVec 8) {N r c : Nat} (h : c < N) : les m i r0 N f r c = gadd m i r0 f r c := by
  unfold les gadd
  by_cases e : r = r0
  · rw [if_pos ⟨e, h⟩, if_pos e]
  · rw [if_neg (fun q => e q.1), if_neg e]
theorem gsome_at (m : Nat → Nat → BitVec 8) (i r c : Nat) : gsome m i r r c = m r c := if_neg (by omega)
theorem gsome_all (m : Nat → Nat → BitVec 8) (i : Nat) {n r : Nat} (h : r < n) (c : Nat) : gsome m i n r c = gelim m i r c := by
  unfold gsome gelim
  by_cases e : r = i
  · rw [if_neg (fun q => q.1 e), if_pos e]
  · rw [if_pos ⟨e, h⟩, if_neg e]
end Blk
/-- What solve does. -/
def Solved (base w0 n : Nat) (M : Nat → Nat → BitVec 8) (w : World) (e : Ending) (w' : World) : Prop :=
  Below base w w' ∧ ((∃ v M' b0, w0 ≤ b0 ∧ e = .returned (.tuple #[v, .bool true]) ∧ Blk.UnitTo M' n n ∧ Blk.Equiv n M M' ∧ w'.ownsRow b0 5 1 v n (vals (fun r => M' r n) n)) ∨
    (∃ M' i, i < n ∧ e = .returned (.tuple #[.slice none 0 0, .bool false]) ∧ Blk.Equiv n M M' ∧ Blk.UnitTo M' n i ∧ ∀ r, i ≤ r → r < n → M' r i = 0#8))
theorem u8_one : ((1#8 : BitVec 8).toNat : Int) = 1 := rfl
end Go.Proofs.YtlpjhmafplljaaaDoor
