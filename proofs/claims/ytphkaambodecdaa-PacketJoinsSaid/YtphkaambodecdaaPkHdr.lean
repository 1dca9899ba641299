/- Layer 9, the landed program: the fields of a header, as what Unpack reads and Pack writes. Plain mathematics. -/
import Derived.Test.YtphkaambodecdaaPkMath
import Derived.Test.YtphkaambodecdaaF2e
namespace Go.Proofs.Ytphkaambodecdaa
set_option linter.unusedVariables false
set_option maxRecDepth 100000

namespace Fld
theorem num_add (l : List UInt8) (p w : Nat) : ∀ v, num l p (w + v) = num l p w * 2 ^ v + num l (p + w) v
  | 0 => by simp [num]
  | v + 1 => by
    show 2 * num l p (w + v) + bit l (p + (w + v)) = num l p w * 2 ^ (v + 1) + (2 * num l (p + w) v + bit l (p + w + v))
    rw [num_add l p w v, Nat.pow_succ, show p + (w + v) = p + w + v by omega, Nat.mul_add, ← Nat.mul_assoc, ← Nat.mul_assoc, Nat.mul_comm 2 (num l p w), Nat.mul_assoc (num l p w) 2, Nat.mul_comm 2 (2 ^ v), Nat.mul_assoc]
    omega
theorem num_byte (l : List UInt8) (j a : Nat) : ∀ w, a + w ≤ 8 → num l (8 * j + a) w = (l.getD j 0).toNat / 2 ^ (8 - a - w) % 2 ^ w
  | 0, _ => by simp [num, Nat.mod_one]
  | w + 1, h => by
    have i := num_byte l j a w (by omega)
    have b := bit_of l j (a + w) (by omega)
    show 2 * num l (8 * j + a) w + bit l (8 * j + a + w) = _
    rw [i, Nat.add_assoc, b]
    obtain ⟨x, hx⟩ : ∃ x, (l.getD j 0).toNat = x := ⟨_, rfl⟩
    obtain ⟨m, hm⟩ : ∃ m, 2 ^ (7 - (a + w)) = m := ⟨_, rfl⟩
    have e1 : 2 ^ (8 - a - w) = m * 2 := by rw [← hm, ← Nat.pow_succ]; congr 1; omega
    have e2 : 2 ^ (8 - a - (w + 1)) = m := by rw [← hm, show 8 - a - (w + 1) = 7 - (a + w) by omega]
    rw [hx, hm, e1, e2, ← Nat.div_div_eq_div_mul, Nat.pow_succ, Nat.mul_comm (2 ^ w) 2, Nat.mod_mul]
    omega
end Fld

namespace Pk
/-- The widths of a header's fields. -/
def wid : List Int := [3, 1, 1, 11, 2, 14, 16]
/-- The numbers of a header's fields. -/
def flds (l : List UInt8) : List Nat := [nb l 0 / 32, nb l 0 / 16 % 2, nb l 0 / 8 % 2, nb l 0 % 8 * 256 + nb l 1, nb l 2 / 64, nb l 2 % 64 * 256 + nb l 3, nb l 4 * 256 + nb l 5]
theorem nats_wid : Fld.nats wid = [3, 1, 1, 11, 2, 14, 16] := rfl
theorem allW_wid : Fld.allW wid = true := by decide
theorem tot_wid : Fld.tot (Fld.nats wid) = 48 := rfl
theorem num_nb (l : List UInt8) (j a w : Nat) (h : a + w ≤ 8) : Fld.num l (8 * j + a) w = nb l j / 2 ^ (8 - a - w) % 2 ^ w := by
  rw [Fld.num_byte l j a w h, nb_get]
theorem unp_six {l : List UInt8} (h : l.length = 6) : Fld.unpE wid l = 0 ∧ Fld.unpV wid l = flds l := by
  have e : Fld.unpE wid l = 0 := by
    unfold Fld.unpE
    rw [if_pos allW_wid, if_pos ⟨by rw [h, tot_wid], (Fld.restB_iff _ _).2 (fun i h1 h2 => by rw [tot_wid] at h1; omega)⟩]
  refine ⟨e, ?_⟩
  unfold Fld.unpV
  rw [if_pos e, nats_wid]
  have b0 := nb_lt l 0
  have b1 := nb_lt l 1
  have b2 := nb_lt l 2
  have b3 := nb_lt l 3
  have b4 := nb_lt l 4
  have b5 := nb_lt l 5
  show [Fld.num l 0 3, Fld.num l 3 1, Fld.num l 4 1, Fld.num l 5 11, Fld.num l 16 2, Fld.num l 18 14, Fld.num l 32 16] = flds l
  have n0 := num_nb l 0 0 3 (by omega)
  have n1 := num_nb l 0 3 1 (by omega)
  have n2 := num_nb l 0 4 1 (by omega)
  have n3 := num_nb l 0 5 3 (by omega)
  have n4 := num_nb l 1 0 8 (by omega)
  have n5 := num_nb l 2 0 2 (by omega)
  have n6 := num_nb l 2 2 6 (by omega)
  have n7 := num_nb l 3 0 8 (by omega)
  have n8 := num_nb l 4 0 8 (by omega)
  have n9 := num_nb l 5 0 8 (by omega)
  have a1 := Fld.num_add l 5 3 8
  have a2 := Fld.num_add l 18 6 8
  have a3 := Fld.num_add l 32 8 8
  simp only [Nat.mul_zero, Nat.zero_add, Nat.add_zero, Nat.reduceMul, Nat.reduceAdd, Nat.reduceSub, Nat.reducePow, Nat.div_one] at n0 n1 n2 n3 n4 n5 n6 n7 n8 n9 a1 a2 a3
  unfold flds
  rw [a1, a2, a3, n0, n1, n2, n3, n4, n5, n6, n7, n8, n9]
  clear a1 a2 a3 n0 n1 n2 n3 n4 n5 n6 n7 n8 n9 e
  simp only [List.cons.injEq, and_true]
  refine ⟨?_, ?_, ?_, ?_, ?_, ?_, ?_⟩ <;> first | trivial | omega
theorem pack_six {l : List UInt8} (h : l.length = 6) : Fld.packE wid (flds l) = 0 ∧ Fld.packV wid (flds l) = l := by
  have u := unp_six h
  have p := Fld.pack_unp wid l u.1
  rwa [u.2] at p
/-- The numbers that a packet's header is made of. -/
def hnum (p : Pkt) : List Nat := [0, if p.cmd = true then 1 else 0, 0, p.ap.toNat, p.fl.toNat, p.ct.toNat, p.da.size - 1]
/-- Its six bytes. -/
def hdr (p : Pkt) : List UInt8 := six (fst p) (snd p) (p.da.size - 1) []
theorem hdr_len (p : Pkt) : (hdr p).length = 6 := rfl
theorem hdr_enc (p : Pkt) : enc p = hdr p ++ p.da.data.toList := rfl
theorem flds_hdr {p : Pkt} (h : Ok p) : flds (hdr p) = hnum p := by
  have f := fst_lt h
  have s := snd_lt h
  obtain ⟨⟨a0, a1⟩, ⟨f0, f1⟩, ⟨c0, c1⟩, d0, d1⟩ := h
  obtain ⟨h0, h1, h2, h3, h4, h5⟩ := six_at (fst p) (snd p) (p.da.size - 1) [] (by omega) s (by omega)
  unfold flds hdr
  rw [h0, h1, h2, h3, h4, h5]
  unfold hnum fst snd
  simp only [List.cons.injEq, and_true]
  split <;> omega
theorem pack_hdr {p : Pkt} (h : Ok p) : Fld.packE wid (hnum p) = 0 ∧ Fld.packV wid (hnum p) = hdr p := by
  have := pack_six (hdr_len p)
  rwa [flds_hdr h] at this
/-- Whether six bytes are a valid header. -/
def good (l : List UInt8) : Bool := decide (nb l 0 / 32 = 0) && (decide (nb l 0 / 8 % 2 = 0) && decide (nb l 4 * 256 + nb l 5 + 1 ≤ 1024))
/-- What six bytes say of a packet. -/
def headed (l : List UInt8) : Pkt := ⟨decide (nb l 0 / 16 % 2 = 1), ((nb l 0 % 8 * 256 + nb l 1 : Nat) : Int), ((nb l 2 / 64 : Nat) : Int), ((nb l 2 % 64 * 256 + nb l 3 : Nat) : Int), ⟨#[]⟩⟩
/-- The first six bytes, behind which bytes 0 come. -/
def pad (l : List UInt8) : List UInt8 := l.take 6 ++ List.replicate (6 - l.length) 0
theorem pad_len (l : List UInt8) : (pad l).length = 6 := by
  unfold pad
  simp
  omega
theorem nb_out {l : List UInt8} {i : Nat} (h : l.length ≤ i) : nb l i = 0 := by
  rw [nb_get, List.getD_eq_getElem?_getD, List.getElem?_eq_none h]
  rfl
theorem pad_nb (l : List UInt8) (i : Nat) (h : i < 6) : nb (pad l) i = nb l i := by
  by_cases g : i < l.length
  · rw [nb_get, nb_get]
    unfold pad
    rw [List.getD_eq_getElem?_getD, List.getElem?_append_left (by simp; omega), List.getElem?_take, if_pos h, ← List.getD_eq_getElem?_getD]
  · rw [nb_out (l := l) (by omega), nb_get]
    unfold pad
    rw [List.getD_eq_getElem?_getD, List.getElem?_append_right (by simp; omega), List.getElem?_replicate]
    split <;> rfl
theorem pad_good (l : List UInt8) : good (pad l) = true ↔ ¬ Bad l := by
  have b0 := nb_lt l 0
  have b4 := nb_lt l 4
  have b5 := nb_lt l 5
  unfold good Bad
  rw [pad_nb l 0 (by omega), pad_nb l 4 (by omega), pad_nb l 5 (by omega)]
  simp only [Bool.and_eq_true, decide_eq_true_eq]
  by_cases g0 : 0 < l.length
  · by_cases g4 : 4 < l.length
    · omega
    · have := nb_out (l := l) (i := 4) (by omega)
      have := nb_out (l := l) (i := 5) (by omega)
      omega
  · have := nb_out (l := l) (i := 0) (by omega)
    have := nb_out (l := l) (i := 4) (by omega)
    have := nb_out (l := l) (i := 5) (by omega)
    omega
theorem headed_pkt {l : List UInt8} (h : ¬ Bad l) (h6 : 6 ≤ l.length) : { headed (pad l) with da := ⟨((l.take (len l)).drop 6).toArray⟩ } = pkt l := by
  have b0 := nb_lt l 0
  have b2 := nb_lt l 2
  have b3 := nb_lt l 3
  have g : nb l 0 < 32 ∧ nb l 0 / 8 % 2 = 0 := by unfold Bad at h; omega
  unfold headed pkt thd
  rw [pad_nb l 0 (by omega), pad_nb l 1 (by omega), pad_nb l 2 (by omega), pad_nb l 3 (by omega)]
  simp only [Pkt.mk.injEq, and_true]
  refine ⟨?_, trivial, ?_, ?_⟩
  · apply decide_eq_decide.2
    omega
  · omega
  · omega
end Pk
end Go.Proofs.Ytphkaambodecdaa
