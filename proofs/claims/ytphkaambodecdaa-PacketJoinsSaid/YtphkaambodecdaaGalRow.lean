/- Bytes in memory: blocks of bytes, worlds that differ in one block alone; exclusive or of bytes. -/
import Derived.Test.YtphkaambodecdaaCrcRow
import Derived.Test.YtphkaambodecdaaGalPoly
namespace Go.Proofs.Ytphkaambodecdaa
open Go.RowKit
set_option linter.unusedVariables false

theorem xor8 (x y : BitVec 8) : bits .xor .u8 (x.toNat : Int) (y.toNat : Int) = ((x ^^^ y).toNat : Int) := by
  rw [u8_xor_nat _ _ x.isLt y.isLt, BitVec.toNat_xor]
theorem shl8 (x : BitVec 8) (k : Nat) : IntKind.u8.wrap ((x.toNat : Int) * 2 ^ k) = ((x <<< k).toNat : Int) := by
  rw [IntKind.wrap_u8, BitVec.toNat_shiftLeft, Nat.shiftLeft_eq]
  simp
/-- The worlds are the same but for the block c and new ones. -/
structure But (c : Nat) (w w' : World) : Prop where
  below : Below c w w'
  rest : ∀ b, b < w.heap.size → b ≠ c → w'.heap[b]? = w.heap[b]?
namespace But
variable {c : Nat} {w w1 w2 : World}
theorem refl (c : Nat) (w : World) : But c w w := ⟨Below.refl _ _, fun _ _ _ => rfl⟩
theorem trans (h : But c w w1) (k : But c w1 w2) : But c w w2 :=
  ⟨h.below.trans k.below, fun b hb hc => (k.rest b (Nat.lt_of_lt_of_le hb h.below.size) hc).trans (h.rest b hb hc)⟩
theorem of_below (h : Below w.heap.size w w1) (hc : c ≤ w.heap.size) : But c w w1 := ⟨h.mono hc, fun b hb _ => h.block b hb⟩
theorem setCell (h : But c w w1) (i : Nat) (v : Value) : But c w (w1.setCell ⟨c, i, none⟩ v) :=
  ⟨h.below.setCell (p := ⟨c, i, none⟩) (Nat.le_refl _) v, fun b hb hc => by
    rw [Below.heap_setCell _ _ _ _ (show b ≠ c from hc)]
    exact h.rest b hb hc⟩
theorem drew (h : But c w w1) : But c w w1.drew := ⟨h.below.drew, h.rest⟩
theorem row {k : IntKind} {n b : Nat} {t : TypeId} {f : Nat → Nat} (h : But c w w1) (R : RowK k n t w b f) (hb : b ≠ c) : RowK k n t w1 b f := by
  unfold RowK
  rw [h.rest b R.lt hb]
  exact R
end But
theorem addr_off {b o b' o' : Nat} (h : o ≠ o') : (⟨b, o, none⟩ : Addr) ≠ ⟨b', o', none⟩ := fun e => h (congrArg Addr.off e)
/-- The block b holds m numbers, and they may be written. -/
def NumsK (k : IntKind) (W : World) (b m : Nat) (f : Nat → Nat) : Prop := b < W.heap.size ∧ ∀ j, j < m → W.cell? ⟨b, j, none⟩ = some (.int k (f j : Nat)) ∧ W.frozen? ⟨b, j, none⟩ = false
namespace NumsK
variable {k : IntKind} {W W' : World} {b m : Nat} {f g : Nat → Nat}
theorem cell (h : NumsK k W b m f) {j : Nat} (hj : j < m) : W.cell? ⟨b, j, none⟩ = some (.int k (f j : Nat)) := (h.2 j hj).1
theorem frozen (h : NumsK k W b m f) {j : Nat} (hj : j < m) : W.frozen? ⟨b, j, none⟩ = false := (h.2 j hj).2
theorem congr (h : NumsK k W b m f) (e : ∀ j, j < m → f j = g j) : NumsK k W b m g := ⟨h.1, fun j hj => by rw [← e j hj]; exact h.2 j hj⟩
theorem set (h : NumsK k W b m f) (i x : Nat) (hi : i < m) (hx : g i = x) (hg : ∀ j, j < m → j ≠ i → g j = f j) : NumsK k (W.setCell ⟨b, i, none⟩ (.int k x)) b m g := by
  refine ⟨by rw [World.size_setCell]; exact h.1, fun j hj => ?_⟩
  obtain ⟨h1, h2⟩ := h.2 j hj
  refine ⟨?_, by rw [World.frozen?_setCell]; exact h2⟩
  by_cases e : j = i
  · subst e
    rw [World.cell?_setCell_same' _ _ _ (by rw [h1]; rfl), hx]
  · rw [World.cell?_setCell_other (h := addr_off (fun x => e x.symm)), hg j hj e]
    exact h1
theorem setOther (h : NumsK k W b m f) {c i : Nat} (hc : c ≠ b) (v : Value) : NumsK k (W.setCell ⟨c, i, none⟩ v) b m f := by
  refine ⟨by rw [World.size_setCell]; exact h.1, fun j hj => ?_⟩
  obtain ⟨h1, h2⟩ := h.2 j hj
  exact ⟨by rw [World.cell?_setCell_other (h := fun e => hc (congrArg Addr.block e))]; exact h1, by rw [World.frozen?_setCell]; exact h2⟩
theorem of_block (h : NumsK k W b m f) (e : W'.heap[b]? = W.heap[b]?) : NumsK k W' b m f := by
  refine ⟨?_, fun j hj => ?_⟩
  · apply Nat.lt_of_not_le
    intro hh
    rw [Array.getElem?_eq_none hh, Array.getElem?_eq_getElem h.1] at e
    cases e
  · obtain ⟨h1, h2⟩ := h.2 j hj
    exact ⟨(World.cell?_of_block (w := W) (a := ⟨b, j, none⟩) e).trans h1, (World.frozen?_of_block (w := W) (a := ⟨b, j, none⟩) e).trans h2⟩
theorem below (h : NumsK k W b m f) (hb : Below W.heap.size W W') : NumsK k W' b m f := h.of_block (hb.block b h.1)
theorem alloc (h : NumsK k W b m f) (o : Obj) : NumsK k (W.alloc o) b m f := h.of_block (Below.heap_alloc _ _ _ h.1)
theorem but {c : Nat} (h : NumsK k W b m f) (hb : But c W W') (hc : b ≠ c) : NumsK k W' b m f := h.of_block (hb.rest b h.1 hc)
end NumsK
theorem madeNums {k : IntKind} {w : World} {base b e n cap : Nat} (h : w.ownsRow base e 1 (.slice (some ⟨b, 0, none⟩) n cap) n (madeCells (Value.int k 0).cells (n * 1)).toList) : NumsK k w b n (fun _ => 0) := by
  obtain ⟨hl, h⟩ := h
  rcases h with ⟨hv, _⟩ | ⟨g, c, cur, hv, hb, hg, hnc, hm, hsz, ht⟩
  · simp at hv
  · simp only [Value.slice.injEq, Option.some.injEq, Addr.mk.injEq] at hv
    obtain ⟨⟨rfl, _, _⟩, _, rfl⟩ := hv
    refine ⟨(Array.getElem?_eq_some_iff.1 hg).1, fun j hj => ?_⟩
    have e1 : w.cell? ⟨b, j, none⟩ = cur[j]? := by
      unfold World.cell?
      rw [hg]
      simp
    have e2 : (cur.toList.take (n * 1))[j]? = cur[j]? := by
      rw [List.getElem?_take_of_lt (by omega)]
      simp
    refine ⟨?_, ?_⟩
    · rw [e1, ← e2, ht]
      unfold madeCells
      simp [Value.cells, hj, Nat.mod_one]
    · unfold World.frozen?
      rw [hg]
      simp
theorem byte_get (s : ByteArray) (i : Nat) (h : i < s.size) : s.data.toList[i]'(by simpa using h) = s[i] := by
  simp only [Array.getElem_toList]; rfl
theorem byte_at (s : ByteArray) (i : Nat) (h : i < s.size) : s.data.toList.getD i 0 = s[i] := by
  have h' : i < s.data.toList.length := by simpa using h
  rw [List.getD_eq_getElem?_getD, List.getElem?_eq_getElem h', Option.getD_some]
  exact byte_get s i h
theorem byte_co (s : ByteArray) (i : Nat) (h : i < s.size) : s[i].toNat = (Gal.co s.data.toList i).toNat := by rw [Gal.co_nat, byte_at s i h]
/-- A []byte made of a string. -/
theorem nums_new (s : ByteArray) (cap e : Nat) (w : World) : NumsK .u8 (w.alloc (.cells (bytesRow s cap) e ((bytesRow s cap).size, (bytesRow s cap).size + 1))) w.heap.size s.size (fun j => (Gal.co s.data.toList j).toNat) := by
  refine ⟨by rw [World.size_alloc]; omega, fun j h => ?_⟩
  have h' : j < s.data.size := by simpa using h
  refine ⟨?_, ?_⟩
  · rw [World.cell?_alloc_mark, bytesRow_at s cap j h']
    show some (Value.int .u8 (s[j].toNat : Int)) = some (Value.int .u8 ((Gal.co s.data.toList j).toNat : Nat))
    rw [byte_co s j h]
  · rw [World.frozen?_alloc_mark]
    have hz : (bytesRow s cap).size = s.data.size + (cap - s.size) := by unfold bytesRow; simp
    have : ¬ (bytesRow s cap).size ≤ j := by rw [hz]; omega
    simp [this]
/-- A string made of a []byte. -/
theorem nums_back {w : World} {b n : Nat} (cap : Nat) {f : Nat → BitVec 8} (h : NumsK .u8 w b n (fun j => (f j).toNat)) : (convert 73 9 (.slice (some ⟨b, 0, none⟩) n cap)).run Try.prog w = .ok (.string ⟨(Gal.coefs f n).toArray⟩) w := by
  have hl := Gal.coefs_length f n
  have := run_convert_bytes_back (P := Try.prog) w 73 9 5 ⟨b, 0, none⟩ cap (Gal.coefs f n) Try.underlying73 Try.underlying5 Try.underlying9 (fun j hj => by
    have e : (⟨b, 0, none⟩ : Addr).add j = ⟨b, j, none⟩ := by unfold Addr.add; split <;> simp_all
    rw [hl] at hj
    rw [e, h.cell hj]
    simp [Gal.coefs])
  rwa [hl] at this
theorem bytes_self (s : ByteArray) : (⟨s.data.toList.toArray⟩ : ByteArray) = s := by
  apply ByteArray.ext
  simp
theorem beq_no {s t : ByteArray} (h : s ≠ t) : (s == t) = false := by
  rw [Bool.eq_false_iff]
  intro e
  exact h (by
    have : s.data == t.data := e
    cases s
    cases t
    simp_all)
theorem take_bytes (s : ByteArray) (n : Nat) : (s.extract 0 n).data.toList = s.data.toList.take n := by
  simp
end Go.Proofs.Ytphkaambodecdaa
