/- The contracts of perigeeref03's times16, times32 over this program, and of its region that draws its order. -/
import Derived.Test.YtkgnhdggfeiheaaRegG
import Derived.Test.YtkgnhdggfeiheaaCrcMat
import Derived.Test.YtkgnhdggfeiheaaCrcRef
namespace Go.Proofs.Ytkgnhdggfeiheaa
open Go.RowKit
set_option linter.unusedVariables false
theorem zero16xW (w : World) : Sem.run Try.prog (zeroValue 67) w = .ok (.agg (arrK .u16 16 (fun _ => 0))) w := by rw [arrK_zero]; kernel_rfl
theorem u16xW : Try.prog.underlying 67 = some (.array 16 22) := by kernel_rfl
theorem i16xW (f : Nat → Nat) : (Try.prog.info? 67).map (·.size) = some (arrK .u16 16 f).size := by rw [arrK_size]; kernel_rfl
abbrev Cols16 := RowK .u16 16 67
theorem rtimes16_any (c : Nat → BitVec 16) (r : BitVec 16) (w : World) :
    Calls Try.prog 44 #[.agg (arrK .u16 16 (fun j => (c j).toNat)), .int .u16 (r.toNat : Nat)] w fun e w' => e = .returned (.int .u16 ((Crc.img c r 16).toNat : Nat)) ∧ Below w.heap.size w w' := by
  have HR := Lib.hid (RowK.new w .u16 16 67 (fun j => (c j).toNat))
  have HB := Lib.hid (ba (Below.refl w.heap.size w) (.cells (arrK .u16 16 (fun j => (c j).toNat)) 67))
  obtain ⟨X, hX⟩ : ∃ X, r.toNat = X := ⟨_, rfl⟩
  have hx : X < 65536 := by rw [← hX]; exact r.isLt
  rw [hX]
  have HX := Lib.hid hX
  clear hX
  go_enter Try.func44, Try.ntmps44
  go_wp2_with fail
  trace_state
  obtain ⟨W, hW⟩ : ∃ W, w.alloc (.cells (arrK .u16 16 (fun j => (c j).toNat)) 67) = W := ⟨_, rfl⟩
  rw [hW] at HR HB ⊢
  go_loop [5, 6] (fun s i => ∃ k : Nat, k ≤ 16 ∧ i = .int .i64 k ∧ s = .int .u16 ((Crc.img c r k).toNat : Nat)) (fun _ i => 16 - (intOf i).toNat)
  case atStart => exact ⟨0, Nat.zero_le _, rfl, rfl⟩
  case round =>
    obtain ⟨k, hk, rfl, rfl⟩ := hrel
    by_cases hlt : k < 16
    · have ck := HR.out.cell hlt
      have ab := (bit_int X k).symm
      have bd := bit_div r k
      rw [HX.out] at bd
      have S : Crc.img c r (k + 1) = if r.getLsbD k then Crc.img c r k ^^^ c k else Crc.img c r k := rfl
      rw [bd] at S
      obtain ⟨u, hu⟩ : ∃ u, Crc.img c r k = u := ⟨_, rfl⟩
      rw [hu] at S ⊢
      have ex := xor16 u (c k)
      obtain ⟨ckn, hckn⟩ : ∃ u, c k = u := ⟨_, rfl⟩
      rw [hckn] at S ck ex
      obtain ⟨t, ht⟩ : ∃ t, X / 2 ^ k % 2 = t := ⟨_, rfl⟩
      rw [ht] at S ab
      by_cases g : t = 1
      · subst g
        rw [if_pos (by simp)] at S
        rw [← S] at ex
        obtain ⟨z, hz⟩ : ∃ u, Crc.img c r (k + 1) = u := ⟨_, rfl⟩
        rw [hz] at ex
        have HZ := Lib.hid hz
        rw [show ((1 : Nat) : Int) = 1 from rfl] at ab
        clear S hu hckn hz bd ht hx hW
        go_wp2_with fail
        go_round
        case rel => exact ⟨k + 1, by omega, by go_num, by rw [HZ.out]⟩
        case measure => simp [intOf]; omega
      · rw [if_neg (by simpa using g)] at S
        have t0 : t = 0 := by omega
        subst t0
        rw [show ((0 : Nat) : Int) = 0 from rfl] at ab
        have HZ := Lib.hid S
        clear S hu hckn bd ht ex hx g hW
        go_wp2_with fail
        go_round
        case rel => exact ⟨k + 1, by omega, by go_num, by rw [HZ.out]⟩
        case measure => simp [intOf]; omega
    · obtain rfl : k = 16 := by omega
      clear hW
      go_wp2_with fail
      go_ret
      exact ⟨rfl, HB.out⟩
theorem zero32xW (w : World) : Sem.run Try.prog (zeroValue 74) w = .ok (.agg (arrK .u32 32 (fun _ => 0))) w := by rw [arrK_zero]; kernel_rfl
theorem u32xW : Try.prog.underlying 74 = some (.array 32 23) := by kernel_rfl
theorem i32xW (f : Nat → Nat) : (Try.prog.info? 74).map (·.size) = some (arrK .u32 32 f).size := by rw [arrK_size]; kernel_rfl
abbrev Cols32 := RowK .u32 32 74
theorem rtimes32_any (c : Nat → BitVec 32) (r : BitVec 32) (w : World) :
    Calls Try.prog 48 #[.agg (arrK .u32 32 (fun j => (c j).toNat)), .int .u32 (r.toNat : Nat)] w fun e w' => e = .returned (.int .u32 ((Crc.img c r 32).toNat : Nat)) ∧ Below w.heap.size w w' := by
  have HR := Lib.hid (RowK.new w .u32 32 74 (fun j => (c j).toNat))
  have HB := Lib.hid (ba (Below.refl w.heap.size w) (.cells (arrK .u32 32 (fun j => (c j).toNat)) 74))
  obtain ⟨X, hX⟩ : ∃ X, r.toNat = X := ⟨_, rfl⟩
  have hx : X < 4294967296 := by rw [← hX]; exact r.isLt
  rw [hX]
  have HX := Lib.hid hX
  clear hX
  go_enter Try.func48, Try.ntmps48
  go_wp2_with fail
  trace_state
  obtain ⟨W, hW⟩ : ∃ W, w.alloc (.cells (arrK .u32 32 (fun j => (c j).toNat)) 74) = W := ⟨_, rfl⟩
  rw [hW] at HR HB ⊢
  go_loop [5, 6] (fun s i => ∃ k : Nat, k ≤ 32 ∧ i = .int .i64 k ∧ s = .int .u32 ((Crc.img c r k).toNat : Nat)) (fun _ i => 32 - (intOf i).toNat)
  case atStart => exact ⟨0, Nat.zero_le _, rfl, rfl⟩
  case round =>
    obtain ⟨k, hk, rfl, rfl⟩ := hrel
    by_cases hlt : k < 32
    · have ck := HR.out.cell hlt
      have ab := (bit_int X k).symm
      have bd := bit_div r k
      rw [HX.out] at bd
      have S : Crc.img c r (k + 1) = if r.getLsbD k then Crc.img c r k ^^^ c k else Crc.img c r k := rfl
      rw [bd] at S
      obtain ⟨u, hu⟩ : ∃ u, Crc.img c r k = u := ⟨_, rfl⟩
      rw [hu] at S ⊢
      have ex := xor32 u (c k)
      obtain ⟨ckn, hckn⟩ : ∃ u, c k = u := ⟨_, rfl⟩
      rw [hckn] at S ck ex
      obtain ⟨t, ht⟩ : ∃ t, X / 2 ^ k % 2 = t := ⟨_, rfl⟩
      rw [ht] at S ab
      by_cases g : t = 1
      · subst g
        rw [if_pos (by simp)] at S
        rw [← S] at ex
        obtain ⟨z, hz⟩ : ∃ u, Crc.img c r (k + 1) = u := ⟨_, rfl⟩
        rw [hz] at ex
        have HZ := Lib.hid hz
        rw [show ((1 : Nat) : Int) = 1 from rfl] at ab
        clear S hu hckn hz bd ht hx hW
        go_wp2_with fail
        go_round
        case rel => exact ⟨k + 1, by omega, by go_num, by rw [HZ.out]⟩
        case measure => simp [intOf]; omega
      · rw [if_neg (by simpa using g)] at S
        have t0 : t = 0 := by omega
        subst t0
        rw [show ((0 : Nat) : Int) = 0 from rfl] at ab
        have HZ := Lib.hid S
        clear S hu hckn bd ht ex hx g hW
        go_wp2_with fail
        go_round
        case rel => exact ⟨k + 1, by omega, by go_num, by rw [HZ.out]⟩
        case measure => simp [intOf]; omega
    · obtain rfl : k = 32 := by omega
      clear hW
      go_wp2_with fail
      go_ret
      exact ⟨rfl, HB.out⟩
end Go.Proofs.Ytkgnhdggfeiheaa
