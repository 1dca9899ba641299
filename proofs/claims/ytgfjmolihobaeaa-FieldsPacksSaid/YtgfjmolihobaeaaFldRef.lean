/- The contracts of the reference's functions on one field over this program. -/
import Derived.Test.YtgfjmolihobaeaaFldPut
namespace Go.Proofs.Ytgfjmolihobaeaa
open Go.RowKit Go.Shelf
set_option linter.unusedVariables false

theorem rlong_any (s : ByteArray) (hs : s.size ≤ 70000) (w : World) : Calls Try.prog 31 #[.string s] w fun e w' => e = .returned (.bool (decide (65536 < s.size))) ∧ w = w' := by
  go_enter Try.func31, Try.ntmps31
  go_wp2
  go_ret
  refine ⟨?_, rfl⟩
  have e : decide ((65536 : Int) < (s.size : Int)) = decide (65536 < s.size) := by rw [decide_eq_decide]; omega
  rw [← e]
  rfl

namespace Fld
def okB (n : Nat) (p wd : Int) : Bool := decide (ok n p wd)
theorem okB_yes {n : Nat} {p wd : Int} (h : ok n p wd) : okB n p wd = true := decide_eq_true h
theorem okB_no {n : Nat} {p wd : Int} (h : ¬ ok n p wd) : okB n p wd = false := decide_eq_false h
end Fld
theorem rfield_any (s : ByteArray) (p wd : Int) (hs : s.size ≤ 70000) (w : World) : Calls Try.prog 32 #[.string s, .int .i64 p, .int .i64 wd] w fun e w' => e = .returned (.bool (Fld.okB s.size p wd)) ∧ w = w' := by
  by_cases h1 : 1 ≤ wd
  · by_cases h2 : wd ≤ 64
    · by_cases h3 : 0 ≤ p
      · by_cases h4 : p ≤ 8 * (s.size : Int) - wd
        · rw [Fld.okB_yes (show Fld.ok s.size p wd from ⟨⟨h1, h2⟩, h3, h4⟩)]
          go_enter Try.func32, Try.ntmps32
          go_wp2
          go_ret
          exact ⟨by simp, rfl⟩
        · rw [Fld.okB_no (fun (x : Fld.ok s.size p wd) => h4 x.2.2)]
          have h4' : decide (p ≤ 8 * (s.size : Int) - wd) = false := by simpa using h4
          go_enter Try.func32, Try.ntmps32
          go_wp2
          go_ret
          exact ⟨by simp, rfl⟩
      · rw [Fld.okB_no (fun (x : Fld.ok s.size p wd) => h3 x.2.1)]
        have h3' : decide (0 ≤ p) = false := by simpa using h3
        go_enter Try.func32, Try.ntmps32
        go_wp2
        go_ret
        exact ⟨rfl, rfl⟩
    · rw [Fld.okB_no (fun (x : Fld.ok s.size p wd) => h2 x.1.2)]
      have h2' : decide (wd ≤ 64) = false := by simpa using h2
      go_enter Try.func32, Try.ntmps32
      go_wp2
      go_ret
      exact ⟨rfl, rfl⟩
  · rw [Fld.okB_no (fun (x : Fld.ok s.size p wd) => h1 x.1.1)]
    have h1' : decide (1 ≤ wd) = false := by simpa using h1
    go_enter Try.func32, Try.ntmps32
    go_wp2
    go_ret
    exact ⟨rfl, rfl⟩

theorem rbit_walk (s : ByteArray) (i : Nat) (h : i / 8 < s.size) : (IntKind.u64.wrap (s[i / 8].toNat : Int) / 2 ^ (7 - i % 8)).tmod 2 = (Fld.bit s.data.toList i : Int) := by
  have b : s[i / 8].toNat < 256 := s[i / 8].toNat_lt
  unfold Fld.bit
  rw [byte_at s _ h]
  generalize s[i / 8].toNat = y at *
  have e : IntKind.u64.wrap (y : Int) = (y : Int) := by rw [IntKind.wrap_u64]; omega
  rw [e]
  have e2 : ((y : Int) / 2 ^ (7 - i % 8)) = ((y / 2 ^ (7 - i % 8) : Nat) : Int) := by simp
  rw [e2]
  rfl

theorem rbit_any (s : ByteArray) (i : Nat) (hs : s.size ≤ 70000) (hi : i < 8 * s.size) (w : World) : Calls Try.prog 45 #[.string s, .int .i64 i] w fun e w' => e = .returned (.int .u64 (Fld.bit s.data.toList i : Nat)) ∧ w = w' := by
  have q1 : i / 8 < s.size := by omega
  have RW := Lib.hid (rbit_walk s i q1)
  go_enter Try.func45, Try.ntmps45
  go_wp2
  rw [RW.out]
  go_ret
  exact ⟨rfl, rfl⟩

set_option maxHeartbeats 1000000 in
theorem rnumber_any (s : ByteArray) (p wd : Nat) (hs : s.size ≤ 70000) (hin : p + wd ≤ 8 * s.size) (hwd : wd ≤ 64) (w : World) :
    Calls Try.prog 33 #[.string s, .int .i64 p, .int .i64 wd] w fun e w' => e = .returned (.int .u64 (Fld.num s.data.toList p wd : Nat)) ∧ w = w' := by
  have B := Lib.hid (fun i (hi : i < 8 * s.size) w => rbit_any s i hs hi w)
  go_enter Try.func33, Try.ntmps33
  go_wp2
  go_loop [7, 8] (fun n i => ∃ k : Nat, k ≤ wd ∧ i = .int .i64 k ∧ n = .int .u64 (Fld.num s.data.toList p k : Nat)) (fun _ i => wd - (intOf i).toNat)
  case atStart => exact ⟨0, Nat.zero_le _, rfl, rfl⟩
  case round =>
    obtain ⟨k, hk, rfl, rfl⟩ := hrel
    by_cases hlt : k < wd
    · have b1 := Fld.num_lt s.data.toList p k
      have b2 := Fld.pow_le_64 (show k + 1 ≤ 64 by omega)
      have b3 : 2 * Fld.num s.data.toList p k + Fld.bit s.data.toList (p + k) < 18446744073709551616 := by
        have := Fld.num_lt s.data.toList p (k + 1)
        unfold Fld.num at this
        omega
      have b4 : Fld.num s.data.toList p (k + 1) = 2 * Fld.num s.data.toList p k + Fld.bit s.data.toList (p + k) := rfl
      obtain ⟨m1, hm1⟩ : ∃ m1, Fld.num s.data.toList p (k + 1) = m1 := ⟨_, rfl⟩
      rw [hm1] at b4
      have M1 := Lib.hid hm1
      clear hm1
      generalize Fld.num s.data.toList p k = m at *
      have C := Lib.hid (B.out (p + k) (by omega))
      generalize Fld.bit s.data.toList (p + k) = x at *
      have b5 : (m : Int) * 2 + (x : Int) < 18446744073709551616 := by omega
      have B4 := Lib.hid b4
      clear b1 b2 b3 b4
      go_wp2_with fail
      refine (C.out _).mono ?_
      rintro e w' ⟨rfl, rfl⟩
      go_wp2_with fail
      go_round
      case rel => exact ⟨k + 1, by omega, by go_num, by have := B4.out; rw [M1.out, show (m : Int) * 2 + (x : Int) = (m1 : Int) by omega]⟩
      case measure => simp [intOf]; omega
    · obtain rfl : k = wd := by omega
      go_wp2_with fail
      go_ret
      exact ⟨rfl, rfl⟩

theorem rtwo_any (v wd : Nat) (h1 : 1 ≤ wd) (h2 : wd ≤ 64) (hv : v < 2 ^ wd) (w : World) :
    Calls Try.prog 34 #[.int .u64 v, .int .i64 wd] w fun e w' => e = .returned (.int .i64 (Fld.two v wd)) ∧ w = w' := by
  have hv' : v < 18446744073709551616 := Nat.lt_of_lt_of_le hv (Fld.pow_le_64 h2)
  by_cases c : wd < 64
  · by_cases d : v < 2 ^ (wd - 1)
    · have e : v / 2 ^ (wd - 1) = 0 := Nat.div_eq_of_lt d
      have e' : (v : Int) / 2 ^ (wd - 1) = 0 := by
        have := congrArg (Nat.cast (R := Int)) e
        simpa using this
      have t : Fld.two v wd = v := if_pos d
      have v63 : v < 9223372036854775808 := by
        have := Nat.pow_le_pow_right (n := 2) (by omega) (show wd - 1 ≤ 63 by omega)
        have z : (2 : Nat) ^ 63 = 9223372036854775808 := by decide
        omega
      rw [t]
      clear hv d e t
      go_enter Try.func34, Try.ntmps34
      go_wp2
      go_ret
      exact ⟨rfl, rfl⟩
    · have e : v / 2 ^ (wd - 1) = 1 := by
        have z : 2 ^ wd = 2 * 2 ^ (wd - 1) := by rw [← Nat.pow_succ', Nat.succ_eq_add_one, Nat.sub_add_cancel h1]
        have p0 : 0 < 2 ^ (wd - 1) := Nat.pow_pos (by omega)
        generalize 2 ^ (wd - 1) = P at *
        have a1 : 1 ≤ v / P := (Nat.le_div_iff_mul_le p0).2 (by omega)
        have a2 : v / P < 2 := (Nat.div_lt_iff_lt_mul p0).2 (by omega)
        omega
      have e' : (v : Int) / 2 ^ (wd - 1) = 1 := by
        have := congrArg (Nat.cast (R := Int)) e
        simpa using this
      have t : Fld.two v wd = (v : Int) - 2 ^ wd := if_neg d
      have z63 : 2 ^ wd ≤ 2 ^ 63 := Nat.pow_le_pow_right (by omega) (by omega)
      have z := show (2 : Nat) ^ 63 = 9223372036854775808 by decide
      have v63 : v < 9223372036854775808 := by omega
      have e2 : ((2 : Int) ^ wd) = ((2 ^ wd : Nat) : Int) := by simp
      have W := Lib.hid (show wrap64 ((v : Int) - wrap64 (2 ^ wd)) = (v : Int) - 2 ^ wd by
        rw [e2]
        have d2 : 2 ^ wd ≤ 2 * v := by
          have z : 2 ^ wd = 2 * 2 ^ (wd - 1) := by rw [← Nat.pow_succ', Nat.succ_eq_add_one, Nat.sub_add_cancel h1]
          omega
        generalize 2 ^ wd = P at *
        unfold wrap64
        omega)
      rw [t]
      clear hv d e t z63 z e2
      go_enter Try.func34, Try.ntmps34
      go_wp2
      rw [W.out]
      go_ret
      exact ⟨rfl, rfl⟩
  · obtain rfl : wd = 64 := by omega
    go_enter Try.func34, Try.ntmps34
    go_wp2
    go_ret
    refine ⟨ret_int ?_, rfl⟩
    unfold Fld.two wrap64
    rw [show (2 : Nat) ^ (64 - 1) = 9223372036854775808 by decide, show (2 : Int) ^ 64 = 18446744073709551616 by decide]
    split <;> omega

theorem rfits_any (v wd : Nat) (hv : v < 18446744073709551616) (h2 : wd ≤ 64) (w : World) :
    Calls Try.prog 37 #[.int .u64 v, .int .i64 wd] w fun e w' => e = .returned (.bool (Fld.fitsB v wd)) ∧ w = w' := by
  by_cases c : wd < 64
  · by_cases d : v < 2 ^ wd
    · have e : v / 2 ^ wd = 0 := Nat.div_eq_of_lt d
      have e' : (v : Int) / 2 ^ wd = 0 := by
        have := congrArg (Nat.cast (R := Int)) e
        simpa using this
      have t : Fld.fitsB v wd = true := decide_eq_true d
      rw [t]
      clear d e t
      go_enter Try.func37, Try.ntmps37
      go_wp2
      go_ret
      exact ⟨rfl, rfl⟩
    · have t : Fld.fitsB v wd = false := decide_eq_false d
      have e : 1 ≤ v / 2 ^ wd := (Nat.le_div_iff_mul_le (Nat.pow_pos (by omega))).2 (by omega)
      obtain ⟨q, hq⟩ : ∃ q : Nat, v / 2 ^ wd = q := ⟨_, rfl⟩
      have e' : (v : Int) / 2 ^ wd = (q : Int) := by
        have := congrArg (Nat.cast (R := Int)) hq
        simpa using this
      have q0 : ((q : Int) == 0) = false := by rw [hq] at e; simp; omega
      rw [t]
      clear d e t hq
      go_enter Try.func37, Try.ntmps37
      go_wp2
      go_ret
      refine ⟨?_, rfl⟩
      have c' : (wd : Int) < 64 := by omega
      simp [c']
  · obtain rfl : wd = 64 := by omega
    have t : Fld.fitsB v 64 = true := decide_eq_true (by omega)
    rw [t]
    go_enter Try.func37, Try.ntmps37
    go_wp2
    go_ret
    exact ⟨rfl, rfl⟩

theorem Holds.setCell {W : World} {b : Nat} {m : List UInt8} (h : Holds W b m) (j c : Nat) (hj : j < m.length) (hc : c < 256) : Holds (W.setCell ⟨b, j, none⟩ (.int .u8 c)) b (m.set j (UInt8.ofNat c)) := by
  intro i hi
  rw [List.length_set] at hi
  obtain ⟨h1, h2⟩ := h i hi
  refine ⟨?_, by rw [World.frozen?_setCell]; exact h2⟩
  by_cases e : i = j
  · subst e
    rw [World.cell?_setCell_same' _ _ _ (by rw [h1]; rfl), List.getD_eq_getElem?_getD, List.getElem?_set_self hj]
    simp only [Option.getD_some]
    rw [UInt8.toNat_ofNat_of_lt' hc]
  · rw [World.cell?_setCell_other (h := addr_ne_off (fun x => e x.symm)), List.getD_eq_getElem?_getD, List.getElem?_set_ne (fun x => e x.symm), ← List.getD_eq_getElem?_getD]
    exact h1

theorem rset_math : ∀ y, y < 256 → ∀ d, d < 8 → (y ||| 2 ^ d) = Fld.setB y d 1 ∧ ((y ||| 2 ^ d) ^^^ 2 ^ d) = Fld.setB y d 0 ∧ Fld.setB y d 1 < 256 ∧ Fld.setB y d 0 < 256 := by decide +kernel
theorem pow_u8 (d : Nat) (hd : d ≤ 7) : (2 : Int) ^ d % 256 = ((2 ^ d : Nat) : Int) ∧ 2 ^ d < 256 := by
  have p1 : 2 ^ d ≤ 2 ^ 7 := Nat.pow_le_pow_right (by omega) hd
  have e0 : ((2 : Int) ^ d) = ((2 ^ d : Nat) : Int) := by simp
  rw [e0]
  generalize 2 ^ d = t at *
  omega
theorem rset_or (y d : Nat) (hy : y < 256) (hd : d ≤ 7) : bits .or .u8 (y : Int) (2 ^ d % 256) = (Fld.setB y d 1 : Int) := by
  obtain ⟨e, l⟩ := pow_u8 d hd
  rw [e, u8_or_nat _ _ hy l, (rset_math y hy d (by omega)).1]
theorem rset_xor (y d : Nat) (hy : y < 256) (hd : d ≤ 7) : bits .xor .u8 (Fld.setB y d 1 : Int) (2 ^ d % 256) = (Fld.setB y d 0 : Int) := by
  obtain ⟨e, l⟩ := pow_u8 d hd
  have m := rset_math y hy d (by omega)
  rw [e, u8_xor_nat _ _ m.2.2.1 l, ← m.2.1, m.1]

set_option maxRecDepth 100000 in
set_option maxHeartbeats 2000000 in
theorem rset_any (s : ByteArray) (p wd v : Nat) (hs : s.size ≤ 70000) (hin : p + wd ≤ 8 * s.size) (hwd : wd ≤ 64) (hv : v < 18446744073709551616) (w : World) :
    Calls Try.prog 38 #[.string s, .int .i64 p, .int .i64 wd, .int .u64 v] w fun e W' => e = .returned (.string ⟨(Fld.put s.data.toList p wd v wd).toArray⟩) ∧ Below w.heap.size w W' := by
  have hconv := run_bytes_of_string (P := Try.prog) w 9 59 5 s Try.underlying9 Try.underlying59 Try.underlying5
  obtain ⟨cap, hcap⟩ : ∃ cap, grownCap w s.size 0 5 = cap := ⟨_, rfl⟩
  rw [hcap] at hconv
  have H := Lib.hid (holds_new s cap 5 w.drew)
  obtain ⟨C, hC⟩ : ∃ C, bytesRow s cap = C := ⟨_, rfl⟩
  rw [hC] at hconv H
  have B := Lib.hid (((Below.refl w.heap.size w).drew).alloc (Nat.le_refl _) (.cells C 5 (C.size, C.size + 1)))
  clear hC hcap
  go_enter Try.func38, Try.ntmps38
  go_wp2_with fail
  go_loopw [10] (fun i wr => ∃ k : Nat, k ≤ wd ∧ i = .int .i64 k ∧ Holds wr w.heap.size (Fld.put s.data.toList p wd v k) ∧ Below w.heap.size w wr) (fun i _ => wd - (intOf i).toNat)
  case atStart => exact ⟨0, Nat.zero_le _, rfl, H.out, B.out⟩
  case round =>
    obtain ⟨k, hk, rfl, hh, hB⟩ := hrel
    by_cases hlt : k < wd
    · obtain ⟨q, hq⟩ : ∃ q, p + k = q := ⟨_, rfl⟩
      have q1 : q / 8 < s.size := by omega
      have ml : (Fld.put s.data.toList p wd v k).length = s.size := by rw [Fld.put_length]; simp
      have st : Fld.put s.data.toList p wd v (k + 1) = Fld.set (Fld.put s.data.toList p wd v k) q (v / 2 ^ (wd - 1 - k) % 2) := by rw [← hq]; rfl
      obtain ⟨m1, hm1⟩ : ∃ m, Fld.put s.data.toList p wd v (k + 1) = m := ⟨_, rfl⟩
      obtain ⟨m, hm⟩ : ∃ m, Fld.put s.data.toList p wd v k = m := ⟨_, rfl⟩
      rw [hm1, hm] at st
      rw [hm] at hh ml
      obtain ⟨c3, f3⟩ := hh (q / 8) (by omega)
      obtain ⟨d, hd⟩ : ∃ d : Nat, 7 - q % 8 = d := ⟨_, rfl⟩
      obtain ⟨j, hj⟩ : ∃ j : Nat, q / 8 = j := ⟨_, rfl⟩
      obtain ⟨y, hy⟩ : ∃ y : Nat, (m.getD (q / 8) 0).toNat = y := ⟨_, rfl⟩
      have y8 : y < 256 := by rw [← hy]; exact UInt8.toNat_lt _
      unfold Fld.set at st
      rw [hy, hd] at st
      rw [hy] at c3
      rw [hj] at c3 f3 st
      have hd7 : d ≤ 7 := by omega
      have e2 : 7 - (q : Int) % 8 = (d : Int) := by omega
      have e3 : (q : Int) / 8 = (j : Int) := by omega
      have e4 : (p : Int) + (k : Int) = (q : Int) := by omega
      have jl : j < s.size := by omega
      have o1 := rset_or y d y8 hd7
      have o2 := rset_xor y d y8 hd7
      have u1 := (rset_math y y8 d (by omega)).2.2
      obtain ⟨z1, hz1⟩ : ∃ z : Nat, Fld.setB y d 1 = z := ⟨_, rfl⟩
      obtain ⟨z0, hz0⟩ : ∃ z : Nat, Fld.setB y d 0 = z := ⟨_, rfl⟩
      rw [hz1] at o1 o2 u1
      rw [hz0] at o2 u1
      obtain ⟨r, hr⟩ : ∃ r : Nat, wd - 1 - k = r := ⟨_, rfl⟩
      have e5 : (wd : Int) - 1 - (k : Int) = (r : Int) := by omega
      rw [hr] at st
      have r64 : r < 64 := by omega
      obtain ⟨x, hx⟩ : ∃ x : Nat, v / 2 ^ r % 2 = x := ⟨_, rfl⟩
      rw [hx] at st
      have x2 : x < 2 := by omega
      have e6 : ((v : Int) / 2 ^ r).tmod 2 = (x : Int) := by
        rw [← hx]
        have e7 : ((v : Int) / 2 ^ r) = ((v / 2 ^ r : Nat) : Int) := by simp
        rw [e7]
        rfl
      have h1 := hh.setCell j z1 (by omega) u1.1
      have h2 := h1.setCell j z0 (by simp; omega) u1.2
      rw [List.set_set] at h2
      have HQ := Lib.hid hq
      have HM1 := Lib.hid hm1
      have ST := Lib.hid st
      have H1 := Lib.hid h1
      have H2 := Lib.hid h2
      have HZ1 := Lib.hid hz1
      have HZ0 := Lib.hid hz0
      have HB := Lib.hid hB
      clear hq hm1 st h1 h2 hz1 hz0 hB hx hr hd hj hy hm ml
      by_cases hb : x = 0
      · subst hb
        go_wp2_with fail
        go_roundw
        case rel => exact ⟨k + 1, by omega, by go_num, by rw [HM1.out, ST.out, HZ0.out]; exact H2.out, (HB.out.setCell (p := ⟨w.heap.size, j, none⟩) (Nat.le_refl _) _).setCell (p := ⟨w.heap.size, j, none⟩) (Nat.le_refl _) _⟩
        case measure => simp [intOf]; omega
      · obtain rfl : x = 1 := by omega
        go_wp2_with fail
        go_roundw
        case rel => exact ⟨k + 1, by omega, by go_num, by rw [HM1.out, ST.out, HZ1.out]; exact H1.out, HB.out.setCell (p := ⟨w.heap.size, j, none⟩) (Nat.le_refl _) _⟩
        case measure => simp [intOf]; omega
    · obtain rfl : k = wd := by omega
      have bb := back_bytes wr w.heap.size cap _ hh
      rw [Fld.put_length, show s.data.toList.length = s.size by simp] at bb
      have HB := Lib.hid hB
      clear hB hh
      go_wp2_with fail
      go_ret
      exact ⟨rfl, HB.out⟩
end Go.Proofs.Ytgfjmolihobaeaa
