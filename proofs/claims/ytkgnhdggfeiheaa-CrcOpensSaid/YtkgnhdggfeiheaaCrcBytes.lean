/- Bytes of strings in memory, and one bit of them inverted. -/
import Derived.Test.YtkgnhdggfeiheaaCrcPick
import Derived.Test.YtkgnhdggfeiheaaCrcBits
import Derived.Lib.QuoteBits
namespace Go.Proofs.Ytkgnhdggfeiheaa
open Go.RowKit
set_option linter.unusedVariables false
theorem byte_at (s : ByteArray) (i : Nat) (h : i < s.size) : s.data.toList.getD i 0 = s[i] := by
  have h' : i < s.data.toList.length := by simpa using h
  rw [List.getD_eq_getElem?_getD, List.getElem?_eq_getElem h', Option.getD_some]
  exact byte_get s i h
theorem holds_new (s : ByteArray) (cap e : Nat) (w : World) : Holds (w.alloc (.cells (bytesRow s cap) e ((bytesRow s cap).size, (bytesRow s cap).size + 1))) w.heap.size s.data.toList := by
  intro j h
  have h' : j < s.data.size := by simpa using h
  refine ⟨?_, ?_⟩
  · rw [World.cell?_alloc_mark, bytesRow_at s cap j h', byte_at s j h']
    rfl
  · rw [World.frozen?_alloc_mark]
    have hz : (bytesRow s cap).size = s.data.size + (cap - s.size) := by unfold bytesRow; simp
    have : ¬ (bytesRow s cap).size ≤ j := by rw [hz]; omega
    simp [this]
theorem Holds.back {w : World} {b cap : Nat} {l : List UInt8} (h : Holds w b l) : (convert 38 9 (.slice (some ⟨b, 0, none⟩) l.length cap)).run Try.prog w = .ok (.string ⟨l.toArray⟩) w := back_bytes w b cap l (fun j hj => (h j hj).1)
theorem Holds.keep {w w' : World} {b : Nat} {l : List UInt8} (h : Holds w b l) (hb : Below w.heap.size w w') (hl : b < w.heap.size) : Holds w' b l := fun j hj =>
  ⟨(hb.cell (p := ⟨b, j, none⟩) hl).trans (h j hj).1, (hb.frozen (p := ⟨b, j, none⟩) hl).trans (h j hj).2⟩
theorem Holds.inv {w : World} {b : Nat} {l : List UInt8} (h : Holds w b l) (i d v : Nat) (hi : i < l.length) (hd : d < 8) (hv : (l.getD i 0).toNat ^^^ 2 ^ d = v) : Holds (w.setCell ⟨b, i, none⟩ (.int .u8 (v : Nat))) b (Crc.inv l i d) := by
  intro j hj
  rw [Crc.inv_length] at hj
  obtain ⟨h1, h2⟩ := h j hj
  refine ⟨?_, by rw [World.frozen?_setCell]; exact h2⟩
  by_cases e : j = i
  · subst e
    rw [World.cell?_setCell_same' _ _ _ (by rw [h1]; rfl), Crc.inv_at l j d hi hd, hv]
  · rw [World.cell?_setCell_other (h := addr_off (fun x => e x.symm)), Crc.inv_off l j i d e]
    exact h1
theorem Holds.other {w : World} {b c i : Nat} {l : List UInt8} (h : Holds w b l) (hc : c ≠ b) (v : Value) : Holds (w.setCell ⟨c, i, none⟩ v) b l := fun j hj => by
  obtain ⟨h1, h2⟩ := h j hj
  exact ⟨by rw [World.cell?_setCell_other (h := fun e => hc (congrArg Addr.block e))]; exact h1, by rw [World.frozen?_setCell]; exact h2⟩
end Go.Proofs.Ytkgnhdggfeiheaa
