/- The contracts of crc's Join16, Join32, Close16, Open16 over this program. -/
import Derived.Test.YtkgnhdggfeiheaaCrcMat
import Derived.Test.YtkgnhdggfeiheaaCrcRef
namespace Go.Proofs.Ytkgnhdggfeiheaa
open Go.RowKit
set_option linter.unusedVariables false

theorem isLength_any (n : Int) (w : World) :
    Calls Try.prog 34 #[.int .i64 n] w fun e w' => e = .returned (.bool (decide (0 ≤ n ∧ n ≤ 1073741824))) ∧ w = w' := by
  by_cases h0 : 0 ≤ n
  · by_cases h1 : n ≤ 1073741824
    · rw [decide_eq_true ⟨h0, h1⟩]
      have t1 : decide (n ≤ 1073741824) = true := by simpa using h1
      go_enter Try.func34, Try.ntmps34
      go_wp2_with fail
      go_ret
      exact ⟨rfl, rfl⟩
    · rw [decide_eq_false (fun h => h1 h.2)]
      have t1 : decide (n ≤ 1073741824) = false := by simpa using h1
      go_enter Try.func34, Try.ntmps34
      go_wp2_with fail
      go_ret
      exact ⟨rfl, rfl⟩
  · rw [decide_eq_false (fun h => h0 h.1)]
    have t1 : decide (0 ≤ n) = false := by simpa using h0
    go_enter Try.func34, Try.ntmps34
    go_wp2_with fail
    go_ret
    exact ⟨rfl, rfl⟩
namespace Crc
def joinE (n : Int) : Int := if 0 ≤ n ∧ n ≤ 1073741824 then 0 else 2
def joinV16 (x y : BitVec 16) (n : Int) : BitVec 16 := if 0 ≤ n ∧ n ≤ 1073741824 then join16 x y n.toNat else 0#16
def joinV32 (x y : BitVec 32) (n : Int) : BitVec 32 := if 0 ≤ n ∧ n ≤ 1073741824 then join32 x y n.toNat else 0#32
end Crc
theorem join16_any (x y : BitVec 16) (n : Int) (w : World) :
    Calls Try.prog 18 #[.int .u16 (x.toNat : Nat), .int .u16 (y.toNat : Nat), .int .i64 n] w fun e w' => e = .returned (.tuple #[.int .u16 ((Crc.joinV16 x y n).toNat : Nat), .int .i64 (Crc.joinE n)]) ∧ Below w.heap.size w w' := by
  have L := Lib.hid (fun w => isLength_any n w)
  by_cases h : 0 ≤ n ∧ n ≤ 1073741824
  · have e1 : Crc.joinE n = 0 := if_pos h
    have e2 : Crc.joinV16 x y n = Crc.join16 x y n.toNat := if_pos h
    rw [e1, e2]
    rw [decide_eq_true h] at L
    obtain ⟨m, rfl⟩ : ∃ m : Nat, n = (m : Int) := ⟨n.toNat, by omega⟩
    rw [Int.toNat_natCast] at e2 ⊢
    have Z := Lib.hid (fun w => zeros16_any (x ^^^ 0xffff#16) m (by omega) w)
    have ex := xor16 x 0xffff#16
    rw [show ((0xffff#16).toNat : Int) = 65535 from rfl] at ex
    have ey := xor16 y (Crc.it Crc.Z16 m (x ^^^ 0xffff#16))
    rw [show y ^^^ Crc.it Crc.Z16 m (x ^^^ 0xffff#16) = Crc.join16 x y m from rfl] at ey
    obtain ⟨x2, hx2⟩ : ∃ q, x ^^^ 0xffff#16 = q := ⟨_, rfl⟩
    rw [hx2] at ex ey Z
    obtain ⟨z, hz⟩ : ∃ q, Crc.it Crc.Z16 m x2 = q := ⟨_, rfl⟩
    obtain ⟨v, hv⟩ : ∃ q, Crc.join16 x y m = q := ⟨_, rfl⟩
    rw [hz] at Z ey
    rw [hv] at ey ⊢
    clear e1 e2 hx2 hz hv h
    go_enter Try.func18, Try.ntmps18
    go_wp2_with fail
    (with_reducible refine (L.out _).mono ?_)
    rintro e w' ⟨rfl, rfl⟩
    go_wp2_with fail
    (with_reducible refine (Z.out _).mono ?_)
    rintro e w1 ⟨rfl, hB⟩
    have HB := Lib.hid hB
    clear hB
    go_wp2_with fail
    go_ret2
    exact ⟨rfl, HB.out⟩
  · have e1 : Crc.joinE n = 2 := if_neg h
    have e2 : Crc.joinV16 x y n = 0#16 := if_neg h
    rw [e1, e2]
    rw [decide_eq_false h] at L
    have B := Lib.hid (Below.refl w.heap.size w)
    clear e1 e2 h
    go_enter Try.func18, Try.ntmps18
    go_wp2_with fail
    (with_reducible refine (L.out _).mono ?_)
    rintro e w' ⟨rfl, rfl⟩
    go_wp2_with fail
    go_ret2
    exact ⟨rfl, B.out⟩
theorem join32_any (x y : BitVec 32) (n : Int) (w : World) :
    Calls Try.prog 20 #[.int .u32 (x.toNat : Nat), .int .u32 (y.toNat : Nat), .int .i64 n] w fun e w' => e = .returned (.tuple #[.int .u32 ((Crc.joinV32 x y n).toNat : Nat), .int .i64 (Crc.joinE n)]) ∧ Below w.heap.size w w' := by
  have L := Lib.hid (fun w => isLength_any n w)
  by_cases h : 0 ≤ n ∧ n ≤ 1073741824
  · have e1 : Crc.joinE n = 0 := if_pos h
    have e2 : Crc.joinV32 x y n = Crc.join32 x y n.toNat := if_pos h
    rw [e1, e2]
    rw [decide_eq_true h] at L
    obtain ⟨m, rfl⟩ : ∃ m : Nat, n = (m : Int) := ⟨n.toNat, by omega⟩
    rw [Int.toNat_natCast] at e2 ⊢
    have Z := Lib.hid (fun w => zeros32_any x m (by omega) w)
    have ey := xor32 y (Crc.it Crc.Z32 m x)
    rw [show y ^^^ Crc.it Crc.Z32 m x = Crc.join32 x y m from rfl] at ey
    obtain ⟨x2, hx2⟩ : ∃ q, x = q := ⟨_, rfl⟩
    obtain ⟨z, hz⟩ : ∃ q, Crc.it Crc.Z32 m x = q := ⟨_, rfl⟩
    obtain ⟨v, hv⟩ : ∃ q, Crc.join32 x y m = q := ⟨_, rfl⟩
    rw [hz] at Z ey
    rw [hv] at ey ⊢
    clear e1 e2 hx2 hz hv h
    go_enter Try.func20, Try.ntmps20
    go_wp2_with fail
    (with_reducible refine (L.out _).mono ?_)
    rintro e w' ⟨rfl, rfl⟩
    go_wp2_with fail
    (with_reducible refine (Z.out _).mono ?_)
    rintro e w1 ⟨rfl, hB⟩
    have HB := Lib.hid hB
    clear hB
    go_wp2_with fail
    go_ret2
    exact ⟨rfl, HB.out⟩
  · have e1 : Crc.joinE n = 2 := if_neg h
    have e2 : Crc.joinV32 x y n = 0#32 := if_neg h
    rw [e1, e2]
    rw [decide_eq_false h] at L
    have B := Lib.hid (Below.refl w.heap.size w)
    clear e1 e2 h
    go_enter Try.func20, Try.ntmps20
    go_wp2_with fail
    (with_reducible refine (L.out _).mono ?_)
    rintro e w' ⟨rfl, rfl⟩
    go_wp2_with fail
    go_ret2
    exact ⟨rfl, B.out⟩
namespace Crc
/-- What Close16 returns. -/
def close (l : List UInt8) : List UInt8 := l ++ [UInt8.ofNat ((sum16 l).toNat / 256), UInt8.ofNat ((sum16 l).toNat % 256)]
theorem close_length (l : List UInt8) : (close l).length = l.length + 2 := by simp [close]
end Crc
/-- The block b holds the bytes l. -/
def Holds (W : World) (b : Nat) (l : List UInt8) : Prop := ∀ j, j < l.length → W.cell? ⟨b, j, none⟩ = some (.int .u8 ((l.getD j 0).toNat : Nat)) ∧ W.frozen? ⟨b, j, none⟩ = false
theorem back_bytes (w : World) (b cap : Nat) (l : List UInt8) (h : ∀ j, j < l.length → w.cell? ⟨b, j, none⟩ = some (.int .u8 ((l.getD j 0).toNat : Nat))) : (convert 38 9 (.slice (some ⟨b, 0, none⟩) l.length cap)).run Try.prog w = .ok (.string ⟨l.toArray⟩) w :=
  run_convert_bytes_back w 38 9 5 ⟨b, 0, none⟩ cap l Try.underlying38 Try.underlying5 Try.underlying9 (fun j hj => by
    have e : (⟨b, 0, none⟩ : Addr).add j = ⟨b, j, none⟩ := by unfold Addr.add; split <;> simp_all
    rw [e, h j hj]
    simp [List.getD_eq_getElem?_getD, List.getElem?_eq_getElem hj])

theorem pair_bytes (w : World) (h l : Nat) (h8 : h < 256) (l8 : l < 256) :
    (convert 38 9 (.slice (some ⟨w.heap.size, 0, none⟩) 2 2)).run Try.prog (w.alloc (.cells #[.int .u8 (h : Nat), .int .u8 (l : Nat)] 5)) = .ok (.string ⟨#[UInt8.ofNat h, UInt8.ofNat l]⟩) (w.alloc (.cells #[.int .u8 (h : Nat), .int .u8 (l : Nat)] 5)) := by
  have c0 : (w.alloc (.cells #[.int .u8 (h : Nat), .int .u8 (l : Nat)] 5)).cell? ⟨w.heap.size, 0, none⟩ = some (.int .u8 (h : Nat)) := World.cell?_alloc_new w _ _ 0
  have c1 : (w.alloc (.cells #[.int .u8 (h : Nat), .int .u8 (l : Nat)] 5)).cell? ⟨w.heap.size, 1, none⟩ = some (.int .u8 (l : Nat)) := World.cell?_alloc_new w _ _ 1
  exact back_bytes _ w.heap.size 2 [UInt8.ofNat h, UInt8.ofNat l] (fun j hj => by
    match j, hj with
    | 0, _ => rw [c0]; simp [Nat.mod_eq_of_lt h8]
    | 1, _ => rw [c1]; simp [Nat.mod_eq_of_lt l8])
theorem add_bytes (s : ByteArray) (l : List UInt8) : s ++ (⟨l.toArray⟩ : ByteArray) = ⟨(s.data.toList ++ l).toArray⟩ := by
  apply ByteArray.ext
  simp
theorem take_bytes (s : ByteArray) (n : Nat) : (s.extract 0 n).data.toList = s.data.toList.take n := by
  simp
theorem bytes_self (s : ByteArray) : (⟨s.data.toList.toArray⟩ : ByteArray) = s := by
  apply ByteArray.ext
  simp
theorem beq_no {s t : ByteArray} (h : s ≠ t) : (s == t) = false := by
  rw [Bool.eq_false_iff]
  intro e
  exact h (by
    have : s.data == t.data := e
    cases s
    cases t
    simp_all)
namespace Crc
/-- What Open16 returns. -/
def openE (l : List UInt8) : Int := if l.length < 2 ∨ close (l.take (l.length - 2)) ≠ l then 6 else 0
def openV (l : List UInt8) : List UInt8 := if openE l = 0 then l.take (l.length - 2) else []
end Crc
theorem close16_any (s : ByteArray) (hs : s.size ≤ 70000) (w : World) :
    Calls Try.prog 23 #[.string s] w fun e w' => e = .returned (.string ⟨(Crc.close s.data.toList).toArray⟩) ∧ Below w.heap.size w w' := by
  have N := Lib.hid (fun w => sum16_any s hs w)
  obtain ⟨r, hr⟩ : ∃ r, Crc.sum16 s.data.toList = r := ⟨_, rfl⟩
  rw [hr] at N
  have hlt : r.toNat < 65536 := r.isLt
  obtain ⟨X, hX⟩ : ∃ X, r.toNat = X := ⟨_, rfl⟩
  rw [hX] at N hlt
  obtain ⟨h, hh⟩ : ∃ h, X / 256 = h := ⟨_, rfl⟩
  obtain ⟨l, hl⟩ : ∃ h, X % 256 = h := ⟨_, rfl⟩
  have e1 : (X : Int) / 256 = (h : Int) := by omega
  have e2 : (X : Int) % 256 = (l : Int) := by omega
  have h8 : h < 256 := by omega
  have l8 : l < 256 := by omega
  have Q := Lib.hid (show s ++ (⟨#[UInt8.ofNat h, UInt8.ofNat l]⟩ : ByteArray) = ⟨(Crc.close s.data.toList).toArray⟩ by
    rw [← hh, ← hl, ← hX, ← hr]
    exact add_bytes s _)
  clear hr hX hh hl hlt
  go_enter Try.func23, Try.ntmps23
  go_wp2_with fail
  (with_reducible refine (N.out _).mono ?_)
  rintro e w1 ⟨rfl, hB⟩
  have B1 := Lib.hid (ba hB (.cells #[.int .u8 (h : Nat), .int .u8 (l : Nat)] 5))
  have CV := Lib.hid (pair_bytes w1 h l h8 l8)
  clear hB
  go_wp2_with (simp only [CV.out])
  go_ret
  exact ⟨by rw [← Q.out]; rfl, B1.out⟩
theorem rclose16_any (s : ByteArray) (hs : s.size ≤ 70000) (w : World) :
    Calls Try.prog 26 #[.string s] w fun e w' => e = .returned (.string ⟨(Crc.close s.data.toList).toArray⟩) ∧ Below w.heap.size w w' := by
  have N := Lib.hid (fun w => rsum16_any s hs w)
  obtain ⟨r, hr⟩ : ∃ r, Crc.sum16 s.data.toList = r := ⟨_, rfl⟩
  rw [hr] at N
  have hlt : r.toNat < 65536 := r.isLt
  obtain ⟨X, hX⟩ : ∃ X, r.toNat = X := ⟨_, rfl⟩
  rw [hX] at N hlt
  obtain ⟨h, hh⟩ : ∃ h, X / 256 = h := ⟨_, rfl⟩
  obtain ⟨l, hl⟩ : ∃ h, X % 256 = h := ⟨_, rfl⟩
  have e1 : (X : Int) / 256 = (h : Int) := by omega
  have e2 : (X : Int) % 256 = (l : Int) := by omega
  have h8 : h < 256 := by omega
  have l8 : l < 256 := by omega
  have Q := Lib.hid (show s ++ (⟨#[UInt8.ofNat h, UInt8.ofNat l]⟩ : ByteArray) = ⟨(Crc.close s.data.toList).toArray⟩ by
    rw [← hh, ← hl, ← hX, ← hr]
    exact add_bytes s _)
  clear hr hX hh hl hlt
  go_enter Try.func26, Try.ntmps26
  go_wp2_with fail
  (with_reducible refine (N.out _).mono ?_)
  rintro e w1 ⟨rfl, rfl⟩
  have B1 := Lib.hid (ba (Below.refl w.heap.size w) (.cells #[.int .u8 (h : Nat), .int .u8 (l : Nat)] 5))
  have CV := Lib.hid (pair_bytes w h l h8 l8)
  skip
  go_wp2_with (simp only [CV.out])
  go_ret
  exact ⟨by rw [← Q.out]; rfl, B1.out⟩
theorem open16_any (s : ByteArray) (hs : s.size ≤ 70000) (w : World) :
    Calls Try.prog 24 #[.string s] w fun e w' => e = .returned (.tuple #[.string ⟨(Crc.openV s.data.toList).toArray⟩, .int .i64 (Crc.openE s.data.toList)]) ∧ Below w.heap.size w w' := by
  have ls : s.data.toList.length = s.size := by simp
  by_cases h2 : s.size < 2
  · have e : Crc.openE s.data.toList = 6 := if_pos (.inl (by rw [ls]; exact h2))
    have ev : Crc.openV s.data.toList = [] := if_neg (by rw [e]; omega)
    rw [e, ev]
    have B := Lib.hid (Below.refl w.heap.size w)
    clear e ev ls
    go_enter Try.func24, Try.ntmps24
    go_wp2_with fail
    go_ret2
    exact ⟨rfl, B.out⟩
  · have C := Lib.hid (fun w => close16_any (s.extract 0 (s.size - 2)) (by simp; omega) w)
    rw [take_bytes] at C
    by_cases g : Crc.close (s.data.toList.take (s.size - 2)) = s.data.toList
    · have e : Crc.openE s.data.toList = 0 := if_neg (by rw [ls]; intro h; rcases h with h | h; exact h2 h; exact h g)
      have ev : Crc.openV s.data.toList = s.data.toList.take (s.size - 2) := by unfold Crc.openV; rw [if_pos e, ls]
      rw [e, ev]
      rw [g, bytes_self] at C
      have EX := Lib.hid (show (⟨(s.data.toList.take (s.size - 2)).toArray⟩ : ByteArray) = s.extract 0 (s.size - 2) by rw [← take_bytes, bytes_self])
      have q1 : (s == s) = true := by show (s.data == s.data) = true; simp
      clear e ev ls g
      go_enter Try.func24, Try.ntmps24
      go_wp2_with fail
      (with_reducible refine (C.out _).mono ?_)
      rintro e w1 ⟨rfl, hB⟩
      have HB := Lib.hid hB
      clear hB
      go_wp2_with fail
      go_ret2
      exact ⟨by rw [EX.out]; rfl, HB.out⟩
    · have e : Crc.openE s.data.toList = 6 := if_pos (.inr (by rw [ls]; exact g))
      have ev : Crc.openV s.data.toList = [] := if_neg (by rw [e]; omega)
      rw [e, ev]
      obtain ⟨t, ht⟩ : ∃ t : ByteArray, (⟨(Crc.close (s.data.toList.take (s.size - 2))).toArray⟩ : ByteArray) = t := ⟨_, rfl⟩
      rw [ht] at C
      have ne : t ≠ s := by
        intro h
        exact g (congrArg (fun q : ByteArray => q.data.toList) (ht.trans h))
      have q1 := beq_no ne
      have q2 : (t.toList == s.toList) = false := by rw [← beq_toListBytes, q1]
      clear e ev ls g ht ne
      go_enter Try.func24, Try.ntmps24
      go_wp2_with fail
      (with_reducible refine (C.out _).mono ?_)
      rintro e w1 ⟨rfl, hB⟩
      have HB := Lib.hid hB
      clear hB
      go_wp2_with fail
      go_ret2
      exact ⟨rfl, HB.out⟩
theorem ropen16_any (s : ByteArray) (hs : s.size ≤ 70000) (w : World) :
    Calls Try.prog 25 #[.string s] w fun e w' => e = .returned (.tuple #[.string ⟨(Crc.openV s.data.toList).toArray⟩, .int .i64 (Crc.openE s.data.toList)]) ∧ Below w.heap.size w w' := by
  have ls : s.data.toList.length = s.size := by simp
  by_cases h2 : s.size < 2
  · have e : Crc.openE s.data.toList = 6 := if_pos (.inl (by rw [ls]; exact h2))
    have ev : Crc.openV s.data.toList = [] := if_neg (by rw [e]; omega)
    rw [e, ev]
    have B := Lib.hid (Below.refl w.heap.size w)
    clear e ev ls
    go_enter Try.func25, Try.ntmps25
    go_wp2_with fail
    go_ret2
    exact ⟨rfl, B.out⟩
  · have C := Lib.hid (fun w => rclose16_any (s.extract 0 (s.size - 2)) (by simp; omega) w)
    rw [take_bytes] at C
    by_cases g : Crc.close (s.data.toList.take (s.size - 2)) = s.data.toList
    · have e : Crc.openE s.data.toList = 0 := if_neg (by rw [ls]; intro h; rcases h with h | h; exact h2 h; exact h g)
      have ev : Crc.openV s.data.toList = s.data.toList.take (s.size - 2) := by unfold Crc.openV; rw [if_pos e, ls]
      rw [e, ev]
      rw [g, bytes_self] at C
      have EX := Lib.hid (show (⟨(s.data.toList.take (s.size - 2)).toArray⟩ : ByteArray) = s.extract 0 (s.size - 2) by rw [← take_bytes, bytes_self])
      have q1 : (s == s) = true := by show (s.data == s.data) = true; simp
      clear e ev ls g
      go_enter Try.func25, Try.ntmps25
      go_wp2_with fail
      (with_reducible refine (C.out _).mono ?_)
      rintro e w1 ⟨rfl, hB⟩
      have HB := Lib.hid hB
      clear hB
      go_wp2_with fail
      go_ret2
      exact ⟨by rw [EX.out]; rfl, HB.out⟩
    · have e : Crc.openE s.data.toList = 6 := if_pos (.inr (by rw [ls]; exact g))
      have ev : Crc.openV s.data.toList = [] := if_neg (by rw [e]; omega)
      rw [e, ev]
      obtain ⟨t, ht⟩ : ∃ t : ByteArray, (⟨(Crc.close (s.data.toList.take (s.size - 2))).toArray⟩ : ByteArray) = t := ⟨_, rfl⟩
      rw [ht] at C
      have ne : t ≠ s := by
        intro h
        exact g (congrArg (fun q : ByteArray => q.data.toList) (ht.trans h))
      have q1 := beq_no ne
      have q2 : (t.toList == s.toList) = false := by rw [← beq_toListBytes, q1]
      clear e ev ls g ht ne
      go_enter Try.func25, Try.ntmps25
      go_wp2_with fail
      (with_reducible refine (C.out _).mono ?_)
      rintro e w1 ⟨rfl, hB⟩
      have HB := Lib.hid hB
      clear hB
      go_wp2_with fail
      go_ret2
      exact ⟨rfl, HB.out⟩
end Go.Proofs.Ytkgnhdggfeiheaa
