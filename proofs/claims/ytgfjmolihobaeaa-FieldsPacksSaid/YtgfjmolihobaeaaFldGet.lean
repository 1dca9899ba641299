/- The contracts of package fields' functions on one field over this program. -/
import Derived.Test.YtgfjmolihobaeaaFldWrite
import Derived.Test.YtgfjmolihobaeaaLen
import Derived.Handy
import Derived.Laws.IdiomStrings
import Derived.Below
namespace Go.Proofs.Ytgfjmolihobaeaa
open Go.RowKit Go.Shelf
set_option linter.unusedVariables false

namespace Fld
def isW (wd : Int) : Bool := decide (1 ≤ wd) && decide (wd ≤ 64)
theorem isW_iff (wd : Int) : isW wd = true ↔ 1 ≤ wd ∧ wd ≤ 64 := by unfold isW; simp
theorem isW_not (wd : Int) : isW wd = false ↔ ¬ (1 ≤ wd ∧ wd ≤ 64) := by rw [← isW_iff]; simp
def ok (n : Nat) (p wd : Int) : Prop := (1 ≤ wd ∧ wd ≤ 64) ∧ 0 ≤ p ∧ p ≤ 8 * (n : Int) - wd
instance (n : Nat) (p wd : Int) : Decidable (ok n p wd) := by unfold ok; infer_instance
/-- What is wrong with a place of a string of n bytes. -/
def chk (n : Nat) (p wd : Int) : Int := if 65536 < n then 3 else if ok n p wd then 0 else 2
theorem chk_long {n : Nat} {p wd : Int} (h : 65536 < n) : chk n p wd = 3 := if_pos h
theorem chk_ok {n : Nat} {p wd : Int} (h : ¬ 65536 < n) (k : ok n p wd) : chk n p wd = 0 := by unfold chk; rw [if_neg h, if_pos k]
theorem chk_bad {n : Nat} {p wd : Int} (h : ¬ 65536 < n) (k : ¬ ok n p wd) : chk n p wd = 2 := by unfold chk; rw [if_neg h, if_neg k]
end Fld
theorem ret_int {k : IntKind} {a b : Int} (h : a = b) : Ending.returned (.int k a) = .returned (.int k b) := by rw [h]

theorem isWidth_any (wd : Int) (w : World) : Calls Try.prog 48 #[.int .i64 wd] w fun e w' => e = .returned (.bool (Fld.isW wd)) ∧ w = w' := by
  by_cases h : 1 ≤ wd
  · go_enter Try.func48, Try.ntmps48
    go_wp2
    go_ret
    exact ⟨by unfold Fld.isW; simp [h], rfl⟩
  · have h' : decide (1 ≤ wd) = false := by simpa using h
    go_enter Try.func48, Try.ntmps48
    go_wp2
    go_ret
    exact ⟨by unfold Fld.isW; simp [h'], rfl⟩

set_option maxHeartbeats 1000000 in
theorem check_any (s : ByteArray) (p wd : Int) (hs : s.size ≤ 70000) (w : World) :
    Calls Try.prog 29 #[.string s, .int .i64 p, .int .i64 wd] w fun e w' => e = .returned (.int .i64 (Fld.chk s.size p wd)) ∧ w = w' := by
  by_cases h : 65536 < s.size
  · go_enter Try.func29, Try.ntmps29
    go_wp2
    go_ret
    exact ⟨ret_int (Fld.chk_long h).symm, rfl⟩
  · by_cases k : Fld.isW wd = true
    · have k' := (Fld.isW_iff wd).1 k
      obtain ⟨k1, k2⟩ := k'
      by_cases m : p < 0
      · have e : Fld.chk s.size p wd = 2 := Fld.chk_bad h (fun x => by unfold Fld.ok at x; omega)
        rw [e]
        clear e
        go_enter Try.func29, Try.ntmps29
        go_wp2_with (go_at_call 48; refine (isWidth_any _ _).mono ?_; rintro e w' ⟨rfl, rfl⟩)
        go_ret
        exact ⟨rfl, rfl⟩
      · have m' : decide (p < 0) = false := by simpa using m
        by_cases q : 8 * (s.size : Int) - wd < p
        · have e : Fld.chk s.size p wd = 2 := Fld.chk_bad h (fun x => by unfold Fld.ok at x; omega)
          rw [e]
          clear e
          go_enter Try.func29, Try.ntmps29
          go_wp2_with (go_at_call 48; refine (isWidth_any _ _).mono ?_; rintro e w' ⟨rfl, rfl⟩)
          go_ret
          exact ⟨rfl, rfl⟩
        · have e : Fld.chk s.size p wd = 0 := Fld.chk_ok h (by unfold Fld.ok; omega)
          rw [e]
          clear e
          go_enter Try.func29, Try.ntmps29
          go_wp2_with (go_at_call 48; refine (isWidth_any _ _).mono ?_; rintro e w' ⟨rfl, rfl⟩)
          go_ret
          exact ⟨rfl, rfl⟩
    · have k0 : Fld.isW wd = false := by simpa using k
      have e : Fld.chk s.size p wd = 2 := Fld.chk_bad h (fun x => by have := (Fld.isW_not wd).1 k0; unfold Fld.ok at x; exact this x.1)
      rw [e]
      clear e k
      go_enter Try.func29, Try.ntmps29
      go_wp2_with (go_at_call 48; refine (isWidth_any _ _).mono ?_; rintro e w' ⟨rfl, rfl⟩)
      go_ret
      exact ⟨rfl, rfl⟩

theorem read_any (s : ByteArray) (p wd : Nat) (hs : s.size ≤ 70000) (hin : p + wd ≤ 8 * s.size) (hwd : wd ≤ 64) (w : World) :
    Calls Try.prog 30 #[.string s, .int .i64 p, .int .i64 wd] w fun e W' => e = .returned (.int .u64 (Fld.num s.data.toList p wd : Nat)) ∧ Below w.heap.size w W' :=
  callsIn_wide.1 (read_in Fence.wide 3 trivial trivial trivial rfl (by omega) s p wd hs hin hwd w)

namespace Fld
def getV (l : List UInt8) (p wd : Int) : Nat := if chk l.length p wd = 0 then num l p.toNat wd.toNat else 0
end Fld

set_option maxHeartbeats 1000000 in
theorem get_any (s : ByteArray) (p wd : Int) (hs : s.size ≤ 70000) (w : World) :
    Calls Try.prog 10 #[.string s, .int .i64 p, .int .i64 wd] w fun e w' => e = .returned (.tuple #[.int .u64 (Fld.getV s.data.toList p wd : Nat), .int .i64 (Fld.chk s.size p wd)]) ∧ Below w.heap.size w w' := by
  have hl : s.data.toList.length = s.size := by simp
  have C := Lib.hid (check_any s p wd hs)
  unfold Fld.getV
  rw [hl]
  by_cases h : Fld.chk s.size p wd = 0
  · rw [h] at C ⊢
    rw [if_pos rfl]
    have k : Fld.ok s.size p wd ∧ ¬ 65536 < s.size := by
      unfold Fld.chk at h
      split at h
      · cases h
      · split at h
        · exact ⟨‹_›, ‹_›⟩
        · cases h
    obtain ⟨⟨⟨k1, k2⟩, k3, k4⟩, k5⟩ := k
    obtain ⟨a, rfl⟩ := Int.eq_ofNat_of_zero_le k3
    obtain ⟨b, rfl⟩ := Int.eq_ofNat_of_zero_le (show 0 ≤ wd by omega)
    have R := Lib.hid (read_any s a b hs (by omega) (by omega))
    clear h hl
    show Calls _ _ _ _ fun e w' => e = .returned (.tuple #[.int .u64 (Fld.num s.data.toList a b : Nat), .int .i64 0]) ∧ _
    go_enter Try.func10, Try.ntmps10
    go_wp2_with fail
    refine (C.out _).mono ?_
    rintro e w' ⟨rfl, rfl⟩
    go_wp2_with fail
    refine (R.out _).mono ?_
    rintro e w' ⟨rfl, hB⟩
    go_wp2_with fail
    go_ret2
    exact ⟨rfl, hB⟩
  · rw [if_neg h]
    obtain ⟨c, hc⟩ : ∃ c, Fld.chk s.size p wd = c := ⟨_, rfl⟩
    rw [hc] at C h ⊢
    have h' : (c == 0) = false := by simpa using h
    have h'' : (c != 0) = true := by simpa using h
    have B := Below.refl w.heap.size w
    clear h hl hc
    go_enter Try.func10, Try.ntmps10
    go_wp2_with fail
    refine (C.out _).mono ?_
    rintro e w' ⟨rfl, rfl⟩
    go_wp2_with fail
    go_ret2
    exact ⟨rfl, B⟩
end Go.Proofs.Ytgfjmolihobaeaa
