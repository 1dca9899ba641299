/- perigeelaw03.awake over this program returns true: some results are as the document says. -/
import Derived.Test.YtkgnhdggfeiheaaCrcJoin
namespace Go.Proofs.Ytkgnhdggfeiheaa
open Go.RowKit
set_option linter.unusedVariables false

theorem wsum16A (w : World) : Calls Try.prog 10 #[.string { data := #[49, 50, 51, 52, 53] }] w fun e w' => e = .returned (.int .u16 17760) ∧ Below w.heap.size w w' := by
  have h := sum16_any { data := #[49, 50, 51, 52, 53] } (by decide) w
  rw [show (Crc.sum16 (ByteArray.mk #[49, 50, 51, 52, 53]).data.toList).toNat = 17760 by decide +kernel] at h
  exact h
theorem wsum16B (w : World) : Calls Try.prog 10 #[.string { data := #[54, 55, 56, 57] }] w fun e w' => e = .returned (.int .u16 58563) ∧ Below w.heap.size w w' := by
  have h := sum16_any { data := #[54, 55, 56, 57] } (by decide) w
  rw [show (Crc.sum16 (ByteArray.mk #[54, 55, 56, 57]).data.toList).toNat = 58563 by decide +kernel] at h
  exact h
theorem wsum16C (w : World) : Calls Try.prog 10 #[.string { data := #[49, 50, 51, 52, 53, 54, 55, 56, 57] }] w fun e w' => e = .returned (.int .u16 10673) ∧ Below w.heap.size w w' := by
  have h := sum16_any { data := #[49, 50, 51, 52, 53, 54, 55, 56, 57] } (by decide) w
  rw [show (Crc.sum16 (ByteArray.mk #[49, 50, 51, 52, 53, 54, 55, 56, 57]).data.toList).toNat = 10673 by decide +kernel] at h
  exact h
theorem wsum32A (w : World) : Calls Try.prog 12 #[.string { data := #[49, 50, 51, 52, 53] }] w fun e w' => e = .returned (.int .u32 3421846044) ∧ Below w.heap.size w w' := by
  have h := sum32_any { data := #[49, 50, 51, 52, 53] } (by decide) w
  rw [show (Crc.sum32 (ByteArray.mk #[49, 50, 51, 52, 53]).data.toList).toNat = 3421846044 by decide +kernel] at h
  exact h
theorem wsum32B (w : World) : Calls Try.prog 12 #[.string { data := #[54, 55, 56, 57] }] w fun e w' => e = .returned (.int .u32 2646261639) ∧ Below w.heap.size w w' := by
  have h := sum32_any { data := #[54, 55, 56, 57] } (by decide) w
  rw [show (Crc.sum32 (ByteArray.mk #[54, 55, 56, 57]).data.toList).toNat = 2646261639 by decide +kernel] at h
  exact h
theorem wsum32C (w : World) : Calls Try.prog 12 #[.string { data := #[49, 50, 51, 52, 53, 54, 55, 56, 57] }] w fun e w' => e = .returned (.int .u32 3421780262) ∧ Below w.heap.size w w' := by
  have h := sum32_any { data := #[49, 50, 51, 52, 53, 54, 55, 56, 57] } (by decide) w
  rw [show (Crc.sum32 (ByteArray.mk #[49, 50, 51, 52, 53, 54, 55, 56, 57]).data.toList).toNat = 3421780262 by decide +kernel] at h
  exact h
theorem wjoin16 (w : World) : Calls Try.prog 18 #[.int .u16 17760, .int .u16 58563, .int .i64 4] w fun e w' => e = .returned (.tuple #[.int .u16 10673, .int .i64 0]) ∧ Below w.heap.size w w' := by
  have h := join16_any 17760#16 58563#16 4 w
  rw [show (Crc.joinV16 17760#16 58563#16 4).toNat = 10673 by decide +kernel, show Crc.joinE 4 = 0 by decide] at h
  exact h
theorem wjoin32 (w : World) : Calls Try.prog 20 #[.int .u32 3421846044, .int .u32 2646261639, .int .i64 4] w fun e w' => e = .returned (.tuple #[.int .u32 3421780262, .int .i64 0]) ∧ Below w.heap.size w w' := by
  have h := join32_any 3421846044#32 2646261639#32 4 w
  rw [show (Crc.joinV32 3421846044#32 2646261639#32 4).toNat = 3421780262 by decide +kernel, show Crc.joinE 4 = 0 by decide] at h
  exact h
theorem wnext16 (w : World) : Calls Try.prog 14 #[.int .u16 0, .string { data := #[1] }] w fun e w' => e = .returned (.int .u16 4129) ∧ Below w.heap.size w w' := by
  have h := next16_any 0#16 { data := #[1] } 1 rfl (by decide) w
  rw [show (Crc.next16 0#16 (ByteArray.mk #[1]).data.toList).toNat = 4129 by decide +kernel] at h
  exact h
theorem wnext32 (w : World) : Calls Try.prog 16 #[.int .u32 0, .string { data := #[] }] w fun e w' => e = .returned (.int .u32 0) ∧ Below w.heap.size w w' := by
  have h := next32_any 0#32 { data := #[] } 0 rfl (by decide) w
  rw [show (Crc.next32 0#32 (ByteArray.mk #[]).data.toList).toNat = 0 by decide +kernel] at h
  exact h
theorem wopen16 (w : World) : Calls Try.prog 24 #[.string { data := #[255, 255] }] w fun e w' => e = .returned (.tuple #[.string { data := #[] }, .int .i64 0]) ∧ Below w.heap.size w w' := by
  have h := open16_any { data := #[255, 255] } (by decide) w
  rw [show Crc.openV (ByteArray.mk #[255, 255]).data.toList = [] by decide +kernel, show Crc.openE (ByteArray.mk #[255, 255]).data.toList = 0 by decide +kernel] at h
  exact h
theorem wclose16 (w : World) : Calls Try.prog 23 #[.string { data := #[] }] w fun e w' => e = .returned (.string { data := #[255, 255] }) ∧ Below w.heap.size w w' := by
  have h := close16_any { data := #[] } (by decide) w
  rw [show Crc.close (ByteArray.mk #[]).data.toList = [255, 255] by decide +kernel] at h
  exact h

set_option maxRecDepth 100000 in
/-- perigeelaw03.awake -/
theorem awake_any (w : World) : Calls Try.prog 9 #[] w fun e w' => e = .returned (.bool true) ∧ Below w.heap.size w w' := by
  go_enter Try.func9, Try.ntmps9
  go_wp2_with fail
  (with_reducible refine (wsum16A _).mono ?_)
  rintro e w1 ⟨rfl, h1⟩
  have H1 := Lib.hid (h1)
  clear h1
  go_wp2_with fail
  (with_reducible refine (wsum16B _).mono ?_)
  rintro e w2 ⟨rfl, h2⟩
  have H2 := Lib.hid (bt H1.out h2)
  clear h2 H1
  go_wp2_with fail
  (with_reducible refine (wjoin16 _).mono ?_)
  rintro e w3 ⟨rfl, h3⟩
  have H3 := Lib.hid (bt H2.out h3)
  clear h3 H2
  go_wp2_with fail
  (with_reducible refine (wsum32A _).mono ?_)
  rintro e w4 ⟨rfl, h4⟩
  have H4 := Lib.hid (bt H3.out h4)
  clear h4 H3
  go_wp2_with fail
  (with_reducible refine (wsum32B _).mono ?_)
  rintro e w5 ⟨rfl, h5⟩
  have H5 := Lib.hid (bt H4.out h5)
  clear h5 H4
  go_wp2_with fail
  (with_reducible refine (wjoin32 _).mono ?_)
  rintro e w6 ⟨rfl, h6⟩
  have H6 := Lib.hid (bt H5.out h6)
  clear h6 H5
  go_wp2_with fail
  (with_reducible refine (wopen16 _).mono ?_)
  rintro e w7 ⟨rfl, h7⟩
  have H7 := Lib.hid (bt H6.out h7)
  clear h7 H6
  go_wp2_with fail
  (with_reducible refine (wsum16C _).mono ?_)
  rintro e w8 ⟨rfl, h8⟩
  have H8 := Lib.hid (bt H7.out h8)
  clear h8 H7
  go_wp2_with fail
  (with_reducible refine (wsum32C _).mono ?_)
  rintro e w9 ⟨rfl, h9⟩
  have H9 := Lib.hid (bt H8.out h9)
  clear h9 H8
  go_wp2_with fail
  (with_reducible refine (wnext16 _).mono ?_)
  rintro e w10 ⟨rfl, h10⟩
  have H10 := Lib.hid (bt H9.out h10)
  clear h10 H9
  go_wp2_with fail
  (with_reducible refine (wnext32 _).mono ?_)
  rintro e w11 ⟨rfl, h11⟩
  have H11 := Lib.hid (bt H10.out h11)
  clear h11 H10
  go_wp2_with fail
  (with_reducible refine (wclose16 _).mono ?_)
  rintro e w12 ⟨rfl, h12⟩
  have H12 := Lib.hid (bt H11.out h12)
  clear h12 H11
  go_wp2_with fail
  go_ret
  exact ⟨rfl, H12.out⟩
end Go.Proofs.Ytkgnhdggfeiheaa
