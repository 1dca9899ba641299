/- TmBack -/
import Derived.Test.YtchfkncbemjepaaGreatTmRef
/- Layer 10: the reference's number. -/
namespace Go.Proofs.YtchfkncbemjepaaGreat
open Go.RowKit
set_option linter.unusedVariables false

/-- The number that two bytes are. -/
def Tm.num (l : List UInt8) (i : Nat) : Nat := Pk.nb l i * 256 + Pk.nb l (i + 1)
theorem Tm.num_lt (l : List UInt8) (i : Nat) : Tm.num l i < 65536 := by
  have := Pk.nb_lt l i
  have := Pk.nb_lt l (i + 1)
  unfold Tm.num
  omega
end Go.Proofs.YtchfkncbemjepaaGreat
/- Layer 10: the reference's Get. -/
namespace Go.Proofs.YtchfkncbemjepaaGreat
open Go.RowKit
set_option linter.unusedVariables false
set_option maxRecDepth 100000

/-- The frame of nothing. -/
def tm0 : Tmf := ⟨0, 0, 0, 0, 0, ⟨#[]⟩, 0⟩
namespace Tm
/-- What the bytes say. -/
def dec (l : List UInt8) : Tmf :=
  ⟨(num l 0 / 64 : Nat), (num l 0 / 8 % 8 : Nat), (Pk.nb l 2 : Nat), (Pk.nb l 3 : Nat), (num l 4 : Nat), ⟨((l.drop 6).take (l.length - 12)).toArray⟩, num l (l.length - 6) * 65536 + num l (l.length - 4)⟩
/-- What Get returns. -/
def get (l : List UInt8) : Tmf × Int :=
  if l.length < 44 ∨ 212 < l.length then (tm0, 6)
  else if num l (l.length - 2) ≠ (Crc.sum16 (l.take (l.length - 2))).toNat then (tm0, 100)
  else if Ok (dec l) ∧ enc (dec l) = l then (dec l, 0)
  else (tm0, 6)
end Tm
/-- A new frame. -/
def AlT (n0 : Nat) (v : Value) (w : World) : Prop := ∃ g, v = .pointer (some ⟨g, 0, none⟩) ∧ n0 ≤ g ∧ Cel w g 7 (tmCel tm0)
theorem AlT.mono {n0 : Nat} {v : Value} {w w' : World} (h : AlT n0 v w) (hb : Below w.heap.size w w') : AlT n0 v w' := by
  obtain ⟨g, e, h1, h2⟩ := h
  exact ⟨g, e, h1, h2.below hb⟩
theorem alloc_tm {ev : Operand → Value} {o : Oper} {w : World} (h : o.op = .alloc 100) : (execOp ev o).run Tryz.prog w = .ok (.value (.pointer (some ⟨w.heap.size, 0, none⟩))) (w.alloc (.cells #[.int .i64 0, .int .i64 0, .int .i64 0, .int .i64 0, .int .i64 0, .string ⟨#[]⟩, .int .u32 0] 100)) := by
  simp only [execOp, h]; go_simp
end Go.Proofs.YtchfkncbemjepaaGreat
/- Layer 10: the reference's Get. -/
namespace Go.Proofs.YtchfkncbemjepaaGreat
open Go.RowKit
set_option linter.unusedVariables false
set_option maxRecDepth 100000

theorem ext_list (b : ByteArray) (i j : Nat) (h : i ≤ j) : (b.extract i j).data.toList = (b.data.toList.take j).drop i := by
  have e : i + (j - i) = j := by omega
  simp [ByteArray.data_extract, List.take_drop, e]
end Go.Proofs.YtchfkncbemjepaaGreat
/- Layer 10, pure: a frame is got from its encoding. -/
namespace Go.Proofs.YtchfkncbemjepaaGreat.Tm
set_option linter.unusedVariables false

theorem nb_six_add (a b c : Nat) (d : List UInt8) (i : Nat) : Pk.nb (Pk.six a b c d) (6 + i) = Pk.nb d i := by
  rw [Pk.nb_get, Pk.nb_get, List.getD_eq_getElem?_getD, List.getD_eq_getElem?_getD, ← List.getElem?_drop, Pk.six_drop]
theorem nb_app_add (l x : List UInt8) (i : Nat) : Pk.nb (l ++ x) (l.length + i) = Pk.nb x i := by
  rw [Pk.nb_get, Pk.nb_get, List.getD_eq_getElem?_getD, List.getD_eq_getElem?_getD, List.getElem?_append_right (by omega), Nat.add_sub_cancel_left]
theorem num_hd (n : Nat) (h : n < 65536) (x : List UInt8) : num (Pk.hd n ++ x) 0 = n := by
  unfold num
  rw [Pk.nb_app (by rw [Pk.hd_len]; omega), Pk.nb_app (by rw [Pk.hd_len]; omega), Pk.hd_0 n h, Pk.hd_1 n]
  omega
theorem num_app (l x : List UInt8) {i k : Nat} (h : i = l.length + k) : num (l ++ x) i = num x k := by
  subst h
  unfold num
  rw [nb_app_add, Nat.add_assoc, nb_app_add]
theorem num_six (a b c : Nat) (d : List UInt8) {i k : Nat} (h : i = 6 + k) : num (Pk.six a b c d) i = num d k := by
  subst h
  unfold num
  rw [nb_six_add, Nat.add_assoc, nb_six_add]
/-- The checksum of a frame. -/
def sm (f : Tmf) : Nat := (Crc.sum16 (body f)).toNat
theorem sm_lt (f : Tmf) : sm f < 65536 := (Crc.sum16 (body f)).isLt
theorem enc_flat (f : Tmf) : enc f = Pk.six (f.cr.toNat * 64 + f.ch.toNat * 8) (f.ma.toNat * 256 + f.ct.toNat) f.fi.toNat (f.da.data.toList ++ (Pk.hd (f.wo / 65536) ++ (Pk.hd (f.wo % 65536) ++ Pk.hd (sm f)))) := by
  unfold enc
  show body f ++ Pk.hd (sm f) = _
  conv => lhs; unfold body
  unfold Pk.six
  simp only [List.append_assoc]
theorem take_body (f : Tmf) : (enc f).take ((enc f).length - 2) = body f := by
  rw [enc_len]
  unfold enc
  rw [show f.da.size + 12 - 2 = (body f).length by rw [body_len]; omega, List.take_left]
section
variable {f : Tmf} (ok : Ok f) (hw : f.wo < 4294967296)
include ok hw
theorem at_enc : num (enc f) 0 = f.cr.toNat * 64 + f.ch.toNat * 8 ∧ Pk.nb (enc f) 2 = f.ma.toNat ∧ Pk.nb (enc f) 3 = f.ct.toNat ∧ num (enc f) 4 = f.fi.toNat ∧
    num (enc f) (f.da.size + 6) = f.wo / 65536 ∧ num (enc f) (f.da.size + 8) = f.wo % 65536 ∧ num (enc f) (f.da.size + 10) = sm f := by
  obtain ⟨⟨⟨a0, a1⟩, ⟨a2, a3⟩, ⟨a4, a5⟩, ⟨a6, a7⟩, a8, a9⟩, a10⟩ := ok
  obtain ⟨b0, b1, b2, b3, b4, b5⟩ := Pk.six_at (f.cr.toNat * 64 + f.ch.toNat * 8) (f.ma.toNat * 256 + f.ct.toNat) f.fi.toNat (f.da.data.toList ++ (Pk.hd (f.wo / 65536) ++ (Pk.hd (f.wo % 65536) ++ Pk.hd (sm f)))) (by omega) (by omega) (by omega)
  rw [← enc_flat] at b0 b1 b2 b3 b4 b5
  have dl : f.da.data.toList.length = f.da.size := ls f.da
  refine ⟨by unfold num; rw [b0, b1]; omega, by rw [b2]; omega, by rw [b3]; omega, by unfold num; rw [b4, b5]; omega, ?_, ?_, ?_⟩
  · rw [enc_flat, num_six _ _ _ _ (k := f.da.size) (by omega), num_app _ _ (k := 0) (by omega), num_hd _ (by omega)]
  · rw [enc_flat, num_six _ _ _ _ (k := f.da.size + 2) (by omega), num_app _ _ (k := 2) (by omega), num_app _ _ (k := 0) (by rw [Pk.hd_len]), num_hd _ (by omega)]
  · rw [enc_flat, num_six _ _ _ _ (k := f.da.size + 4) (by omega), num_app _ _ (k := 4) (by omega), num_app _ _ (k := 2) (by rw [Pk.hd_len]), num_app _ _ (k := 0) (by rw [Pk.hd_len])]
    have := num_hd (sm f) (sm_lt f) []
    rwa [List.append_nil] at this
theorem dec_enc : dec (enc f) = f := by
  obtain ⟨h0, h1, h2, h3, h4, h5, h6⟩ := at_enc ok hw
  have el := enc_len f
  obtain ⟨⟨⟨a0, a1⟩, ⟨a2, a3⟩, ⟨a4, a5⟩, ⟨a6, a7⟩, a8, a9⟩, a10⟩ := ok
  have dl : f.da.data.toList.length = f.da.size := ls f.da
  have hda : ((enc f).drop 6).take (f.da.size + 12 - 12) = f.da.data.toList := by
    rw [enc_flat, Pk.six_drop, show f.da.size + 12 - 12 = f.da.data.toList.length by omega, List.take_left]
  unfold dec
  rw [el, h0, h1, h2, h3, show f.da.size + 12 - 6 = f.da.size + 6 by omega, show f.da.size + 12 - 4 = f.da.size + 8 by omega, h4, h5, hda]
  have c1 : (((f.cr.toNat * 64 + f.ch.toNat * 8) / 64 : Nat) : Int) = f.cr := by omega
  have c2 : (((f.cr.toNat * 64 + f.ch.toNat * 8) / 8 % 8 : Nat) : Int) = f.ch := by omega
  have c3 : (f.ma.toNat : Int) = f.ma := by omega
  have c4 : (f.ct.toNat : Int) = f.ct := by omega
  have c5 : (f.fi.toNat : Int) = f.fi := by omega
  have c6 : (⟨f.da.data.toList.toArray⟩ : ByteArray) = f.da := bs_self f.da
  have c7 : f.wo / 65536 * 65536 + f.wo % 65536 = f.wo := by omega
  rw [c1, c2, c3, c4, c5, c6, c7]
/-- Get inverts Put. -/
theorem get_enc : get (enc f) = (f, 0) := by
  obtain ⟨h0, h1, h2, h3, h4, h5, h6⟩ := at_enc ok hw
  have el := enc_len f
  have hd := dec_enc ok hw
  have sz := ok.1.2.2.2.2
  unfold get
  rw [if_neg (by omega), if_neg (by rw [take_body, el, show f.da.size + 12 - 2 = f.da.size + 10 by omega, h6]; exact fun q => q rfl), hd, if_pos ⟨ok, rfl⟩]
end
/-- What Get accepts is the encoding of the result. -/
theorem get_ok {l : List UInt8} (h : (get l).2 = 0) : Ok (get l).1 ∧ enc (get l).1 = l := by
  unfold get at *
  split at h
  · cases h
  · rename_i g1
    rw [if_neg g1]
    split at h
    · cases h
    · rename_i g2
      rw [if_neg g2]
      split at h
      · rename_i g3
        rw [if_pos g3]
        exact g3
      · cases h
end Go.Proofs.YtchfkncbemjepaaGreat.Tm
