/- The contracts of package fields' Signed, fits, replaced, Put, PutSigned, Flip over this program. -/
import Derived.Test.YtgfjmolihobaeaaFldGet
import Derived.Lib.ItoaNum
namespace Go.Proofs.Ytgfjmolihobaeaa
open Go.RowKit Go.Shelf
set_option linter.unusedVariables false

namespace Fld
theorem chk_cases {n : Nat} {p wd : Int} (h : chk n p wd = 0) : ok n p wd ∧ ¬ 65536 < n := by
  unfold chk at h
  split at h
  · cases h
  · split at h
    · exact ⟨‹_›, ‹_›⟩
    · cases h
/-- A number of so many bits in two's complement. -/
def two (v wd : Nat) : Int := if v < 2 ^ (wd - 1) then v else (v : Int) - 2 ^ wd
def getS (l : List UInt8) (p wd : Int) : Int := if chk l.length p wd = 0 then two (num l p.toNat wd.toNat) wd.toNat else 0
end Fld

theorem two_walk (v b : Nat) (h1 : 1 ≤ b) (h2 : b ≤ 64) (hv : v < 2 ^ b) : wrap64 (IntKind.u64.wrap ((v : Int) * 2 ^ (64 - b))) / 2 ^ (64 - b) = Fld.two v b := by
  obtain ⟨P, hP⟩ : ∃ P : Nat, 2 ^ (64 - b) = P := ⟨_, rfl⟩
  obtain ⟨H, hH⟩ : ∃ H : Nat, 2 ^ (b - 1) = H := ⟨_, rfl⟩
  have e1 : 2 ^ b = 2 * H := by rw [← hH, ← Nat.pow_succ', Nat.succ_eq_add_one, Nat.sub_add_cancel h1]
  have e2 : H * P = 9223372036854775808 := by rw [← hH, ← hP, ← Nat.pow_add, show b - 1 + (64 - b) = 63 by omega]
  have p0 : 0 < P := by rw [← hP]; exact Nat.pow_pos (by omega)
  have c : ((2 : Int) ^ (64 - b)) = (P : Int) := by rw [← hP]; simp
  have c2 : ((2 : Int) ^ b) = ((2 * H : Nat) : Int) := by rw [← e1]; simp
  rw [c, ← Int.natCast_mul]
  unfold Fld.two
  rw [hH, c2]
  have m : v * P < 2 * H * P := Nat.mul_lt_mul_of_pos_right (by rw [← e1]; exact hv) p0
  have m2 : 2 * H * P = 18446744073709551616 := by rw [Nat.mul_assoc, e2]
  have u : IntKind.u64.wrap ((v * P : Nat) : Int) = ((v * P : Nat) : Int) := by
    generalize v * P = t at *
    rw [IntKind.wrap_u64]; omega
  rw [u]
  by_cases hlt : v < H
  · rw [if_pos hlt]
    have m3 : v * P < H * P := Nat.mul_lt_mul_of_pos_right hlt p0
    have x : wrap64 ((v * P : Nat) : Int) = ((v * P : Nat) : Int) := by
      generalize v * P = t at *
      unfold wrap64; omega
    rw [x, Int.natCast_mul, Int.mul_ediv_cancel _ (by omega)]
  · rw [if_neg hlt]
    have m3 : H * P ≤ v * P := Nat.mul_le_mul_right P (by omega)
    have x : wrap64 ((v * P : Nat) : Int) = ((v : Int) - ((2 * H : Nat) : Int)) * (P : Int) := by
      rw [Int.sub_mul, ← Int.natCast_mul, ← Int.natCast_mul, m2]
      generalize v * P = t at *
      unfold wrap64; omega
    rw [x, Int.mul_ediv_cancel _ (by omega)]

set_option maxHeartbeats 1000000 in
theorem signed_any (s : ByteArray) (p wd : Int) (hs : s.size ≤ 70000) (w : World) :
    Calls Try.prog 12 #[.string s, .int .i64 p, .int .i64 wd] w fun e w' => e = .returned (.tuple #[.int .i64 (Fld.getS s.data.toList p wd), .int .i64 (Fld.chk s.size p wd)]) ∧ Below w.heap.size w w' := by
  have hl : s.data.toList.length = s.size := by simp
  have G := Lib.hid (get_any s p wd hs)
  unfold Fld.getS
  unfold Fld.getV at G
  rw [hl] at G ⊢
  by_cases h : Fld.chk s.size p wd = 0
  · rw [h] at G ⊢
    rw [if_pos rfl] at G ⊢
    obtain ⟨⟨⟨k1, k2⟩, k3, k4⟩, k5⟩ := Fld.chk_cases h
    obtain ⟨a, rfl⟩ := Int.eq_ofNat_of_zero_le k3
    obtain ⟨b, rfl⟩ := Int.eq_ofNat_of_zero_le (show 0 ≤ wd by omega)
    have lt := Fld.num_lt s.data.toList a b
    simp only [Int.toNat_natCast] at G ⊢
    generalize Fld.num s.data.toList a b = v at *
    clear h hl
    go_enter Try.func12, Try.ntmps12
    go_wp2_with fail
    refine (G.out _).mono ?_
    rintro e w' ⟨rfl, hB⟩
    have TW := Lib.hid (two_walk v b (by omega) (by omega) lt)
    go_wp2_with fail
    rw [TW.out]
    go_ret2
    exact ⟨rfl, hB⟩
  · rw [if_neg h] at G ⊢
    obtain ⟨c, hc⟩ : ∃ c, Fld.chk s.size p wd = c := ⟨_, rfl⟩
    rw [hc] at G h ⊢
    have h' : (c == 0) = false := by simpa using h
    have h'' : (c != 0) = true := by simpa using h
    clear h hl hc
    go_enter Try.func12, Try.ntmps12
    go_wp2_with fail
    refine (G.out _).mono ?_
    rintro e w' ⟨rfl, hB⟩
    go_wp2_with fail
    go_ret2
    exact ⟨rfl, hB⟩

theorem bitLen_lt (v k : Nat) (hv : v < 18446744073709551616) (hk : k ≤ 64) : Lib.bitLen v ≤ k ↔ v < 2 ^ k := by
  constructor
  · intro h
    by_cases z : v = 0
    · subst z; exact Nat.pow_pos (by omega)
    · have := (Lib.bitLenAux_bounds 64 v (by simpa using hv) z).2.2
      exact Nat.lt_of_lt_of_le this (Nat.pow_le_pow_right (by omega) h)
  · exact Lib.bitLen_le v k hk

namespace Fld
def fitsB (v wd : Nat) : Bool := decide (v < 2 ^ wd)
end Fld
theorem fits_any (v wd : Nat) (hv : v < 18446744073709551616) (hk : wd ≤ 64) (w : World) :
    Calls Try.prog 35 #[.int .u64 v, .int .i64 wd] w fun e w' => e = .returned (.bool (Fld.fitsB v wd)) ∧ w = w' := by
  have e : Fld.fitsB v wd = decide (Lib.bitLen v ≤ wd) := by unfold Fld.fitsB; rw [decide_eq_decide]; exact (bitLen_lt v wd hv hk).symm
  have L := Lib.hid (fun w => len64_any v w (by omega) (by omega))
  rw [e]
  clear e
  go_enter Try.func35, Try.ntmps35
  go_wp2_with fail
  refine (L.out _).mono ?_
  rintro e w' ⟨rfl, rfl⟩
  go_wp2_with fail
  go_ret
  refine ⟨?_, rfl⟩
  simp

theorem write_any (b cap p wd v n₀ : Nat) (l : List UInt8) (hl : l.length ≤ 70000) (hin : p + wd ≤ 8 * l.length) (hwd : wd ≤ 64) (hv : v < 18446744073709551616) (w : World) (hb : b < w.heap.size) (hn₀ : n₀ ≤ b) (hh : Holds w b l) :
    Calls Try.prog 42 #[.slice (some ⟨b, 0, none⟩) l.length cap, .int .i64 p, .int .i64 wd, .int .u64 v] w fun e W' => (∃ v, e = .returned v) ∧ Holds W' b (Fld.put l p wd v wd) ∧ Below n₀ w W' :=
  callsIn_wide.1 (write_in 3 (by omega) b cap p wd v n₀ l hl hin hwd hv w hb hn₀ hh)

theorem holds_new (s : ByteArray) (cap e : Nat) (w : World) : Holds (w.alloc (.cells (bytesRow s cap) e ((bytesRow s cap).size, (bytesRow s cap).size + 1))) w.heap.size s.data.toList := by
  intro j h
  have h' : j < s.data.size := by simpa using h
  refine ⟨?_, ?_⟩
  · rw [World.cell?_alloc_mark, bytesRow_at s cap j h', byte_at s j h']
    rfl
  · rw [World.frozen?_alloc_mark]
    have hz : (bytesRow s cap).size = s.data.size + (cap - s.size) := by unfold bytesRow; simp
    have : ¬ (bytesRow s cap).size ≤ j := by rw [hz]; omega
    simp [this]
theorem back_bytes (w : World) (b cap : Nat) (l : List UInt8) (h : Holds w b l) : (convert 59 9 (.slice (some ⟨b, 0, none⟩) l.length cap)).run Try.prog w = .ok (.string ⟨l.toArray⟩) w :=
  run_convert_bytes_back w 59 9 5 ⟨b, 0, none⟩ cap l Try.underlying59 Try.underlying5 Try.underlying9 (fun j hj => by
    have e : (⟨b, 0, none⟩ : Addr).add j = ⟨b, j, none⟩ := by unfold Addr.add; split <;> simp_all
    rw [e, (h j hj).1]
    simp [List.getD_eq_getElem?_getD, List.getElem?_eq_getElem hj])

set_option maxHeartbeats 1000000 in
theorem replaced_any (s : ByteArray) (p wd v : Nat) (hs : s.size ≤ 70000) (hin : p + wd ≤ 8 * s.size) (hwd : wd ≤ 64) (hv : v < 18446744073709551616) (w : World) :
    Calls Try.prog 36 #[.string s, .int .i64 p, .int .i64 wd, .int .u64 v] w fun e W' => e = .returned (.string ⟨(Fld.put s.data.toList p wd v wd).toArray⟩) ∧ Below w.heap.size w W' := by
  have hconv := run_bytes_of_string (P := Try.prog) w 9 59 5 s Try.underlying9 Try.underlying59 Try.underlying5
  obtain ⟨cap, hcap⟩ : ∃ cap, grownCap w s.size 0 5 = cap := ⟨_, rfl⟩
  rw [hcap] at hconv
  have H := Lib.hid (holds_new s cap 5 w.drew)
  obtain ⟨C, hC⟩ : ∃ C, bytesRow s cap = C := ⟨_, rfl⟩
  rw [hC] at hconv H
  have hl : s.data.toList.length = s.size := by simp
  have WR := Lib.hid (write_any w.heap.size cap p wd v w.heap.size s.data.toList (by omega) (by omega) hwd hv (w.drew.alloc (.cells C 5 (C.size, C.size + 1))) (by simp) (Nat.le_refl _) H.out)
  rw [hl] at WR
  have B := Lib.hid (((Below.refl w.heap.size w).drew).alloc (Nat.le_refl _) (.cells C 5 (C.size, C.size + 1)))
  have PL := Lib.hid (Fld.put_length s.data.toList p wd v wd)
  clear hC hcap hl
  go_enter Try.func36, Try.ntmps36
  go_wp2_with fail
  refine WR.out.mono ?_
  rintro e w' ⟨⟨v0, rfl⟩, hh, hB⟩
  have bb := back_bytes w' w.heap.size cap _ hh
  have e1 := PL.out
  rw [e1, show s.data.toList.length = s.size by simp] at bb
  clear e1
  have HB := Lib.hid hB
  have HH := Lib.hid hh
  clear hB hh
  go_wp2_with fail
  go_ret
  exact ⟨rfl, B.out.trans HB.out⟩

namespace Fld
/-- What Put reports. -/
def chkP (n : Nat) (p wd : Int) (v : Nat) : Int := if chk n p wd = 0 then (if fitsB v wd.toNat = true then 0 else 7) else chk n p wd
def putV (l : List UInt8) (p wd : Int) (v : Nat) : List UInt8 := if chkP l.length p wd v = 0 then put l p.toNat wd.toNat v wd.toNat else []
def fitsS (v : Int) (wd : Nat) : Prop := -2 ^ (wd - 1) ≤ v ∧ v < 2 ^ (wd - 1)
instance (v : Int) (wd : Nat) : Decidable (fitsS v wd) := by unfold fitsS; infer_instance
def chkPS (n : Nat) (p wd : Int) (v : Int) : Int := if chk n p wd = 0 then (if fitsS v wd.toNat then 0 else 7) else chk n p wd
def putVS (l : List UInt8) (p wd : Int) (v : Int) : List UInt8 := if chkPS l.length p wd v = 0 then put l p.toNat wd.toNat (v % 18446744073709551616).toNat wd.toNat else []
end Fld
theorem empty_str : (⟨([] : List UInt8).toArray⟩ : ByteArray) = { data := #[] } := rfl

set_option maxHeartbeats 1000000 in
theorem put_any (s : ByteArray) (p wd : Int) (v : Nat) (hs : s.size ≤ 70000) (hv : v < 18446744073709551616) (w : World) :
    Calls Try.prog 14 #[.string s, .int .i64 p, .int .i64 wd, .int .u64 v] w fun e w' => e = .returned (.tuple #[.string ⟨(Fld.putV s.data.toList p wd v).toArray⟩, .int .i64 (Fld.chkP s.size p wd v)]) ∧ Below w.heap.size w w' := by
  have hl : s.data.toList.length = s.size := by simp
  have C := Lib.hid (check_any s p wd hs)
  have B := Below.refl w.heap.size w
  unfold Fld.putV
  rw [hl]
  by_cases h : Fld.chk s.size p wd = 0
  · obtain ⟨⟨⟨k1, k2⟩, k3, k4⟩, k5⟩ := Fld.chk_cases h
    obtain ⟨a, rfl⟩ := Int.eq_ofNat_of_zero_le k3
    obtain ⟨b, rfl⟩ := Int.eq_ofNat_of_zero_le (show 0 ≤ wd by omega)
    have F := Lib.hid (fits_any v b hv (by omega))
    unfold Fld.chkP
    rw [h] at C
    rw [h, if_pos rfl]
    simp only [Int.toNat_natCast]
    by_cases f : Fld.fitsB v b = true
    · have R := Lib.hid (replaced_any s a b v hs (by omega) (by omega) hv)
      rw [f] at F
      rw [if_pos f, if_pos rfl]
      clear h hl f
      go_enter Try.func14, Try.ntmps14
      go_wp2_with fail
      refine (C.out _).mono ?_
      rintro e w' ⟨rfl, rfl⟩
      go_wp2_with fail
      refine (F.out _).mono ?_
      rintro e w' ⟨rfl, rfl⟩
      go_wp2_with fail
      refine (R.out _).mono ?_
      rintro e w' ⟨rfl, hB⟩
      go_wp2_with fail
      go_ret2
      exact ⟨rfl, hB⟩
    · have f0 : Fld.fitsB v b = false := by simpa using f
      rw [f0] at F
      rw [if_neg f, if_neg (by omega), empty_str]
      clear h hl f f0
      go_enter Try.func14, Try.ntmps14
      go_wp2_with fail
      refine (C.out _).mono ?_
      rintro e w' ⟨rfl, rfl⟩
      go_wp2_with fail
      refine (F.out _).mono ?_
      rintro e w' ⟨rfl, rfl⟩
      go_wp2_with fail
      go_ret2
      exact ⟨rfl, B⟩
  · have e0 : Fld.chkP s.size p wd v = Fld.chk s.size p wd := by unfold Fld.chkP; rw [if_neg h]
    rw [e0, if_neg h, empty_str]
    obtain ⟨c, hc⟩ : ∃ c, Fld.chk s.size p wd = c := ⟨_, rfl⟩
    rw [hc] at C h ⊢
    have h' : (c == 0) = false := by simpa using h
    have h'' : (c != 0) = true := by simpa using h
    clear h hl hc e0
    go_enter Try.func14, Try.ntmps14
    go_wp2_with fail
    refine (C.out _).mono ?_
    rintro e w' ⟨rfl, rfl⟩
    go_wp2_with fail
    go_ret2
    exact ⟨rfl, B⟩

theorem sign_walk (v : Int) (b : Nat) : (Fld.fitsS v b → v / 2 ^ (b - 1) = 0 ∨ v / 2 ^ (b - 1) = -1) ∧ (¬ Fld.fitsS v b → v / 2 ^ (b - 1) ≠ 0 ∧ v / 2 ^ (b - 1) ≠ -1) := by
  unfold Fld.fitsS
  have p0 : (0 : Int) < 2 ^ (b - 1) := Int.pow_pos (by omega)
  generalize (2 : Int) ^ (b - 1) = P at *
  have h1 := Int.ediv_mul_le v (show P ≠ 0 by omega)
  have h2 := Int.lt_ediv_add_one_mul_self v p0
  generalize v / P = q at *
  refine ⟨fun ⟨a, c⟩ => ?_, fun n => ⟨fun e => ?_, fun e => ?_⟩⟩
  · have n1 : q < 1 := by
      by_cases z : q < 1
      · exact z
      · have := Int.mul_le_mul_of_nonneg_right (show 1 ≤ q by omega) (show 0 ≤ P by omega); omega
    have n2 : -2 < q := by
      by_cases z : -2 < q
      · exact z
      · have := Int.mul_le_mul_of_nonneg_right (show q + 1 ≤ -1 by omega) (show 0 ≤ P by omega); omega
    omega
  · subst e; omega
  · subst e; omega

set_option maxHeartbeats 1000000 in
theorem putSigned_any (s : ByteArray) (p wd v : Int) (hs : s.size ≤ 70000) (w : World) :
    Calls Try.prog 16 #[.string s, .int .i64 p, .int .i64 wd, .int .i64 v] w fun e w' => e = .returned (.tuple #[.string ⟨(Fld.putVS s.data.toList p wd v).toArray⟩, .int .i64 (Fld.chkPS s.size p wd v)]) ∧ Below w.heap.size w w' := by
  have hl : s.data.toList.length = s.size := by simp
  have C := Lib.hid (check_any s p wd hs)
  have B := Below.refl w.heap.size w
  unfold Fld.putVS
  rw [hl]
  by_cases h : Fld.chk s.size p wd = 0
  · obtain ⟨⟨⟨k1, k2⟩, k3, k4⟩, k5⟩ := Fld.chk_cases h
    obtain ⟨a, rfl⟩ := Int.eq_ofNat_of_zero_le k3
    obtain ⟨b, rfl⟩ := Int.eq_ofNat_of_zero_le (show 0 ≤ wd by omega)
    have sw := sign_walk v b
    unfold Fld.chkPS
    rw [h] at C
    rw [h, if_pos rfl]
    simp only [Int.toNat_natCast]
    by_cases f : Fld.fitsS v b
    · obtain ⟨x, hx⟩ : ∃ x : Nat, (v % 18446744073709551616).toNat = x := ⟨_, rfl⟩
      have R := Lib.hid (replaced_any s a b x hs (by omega) (by omega) (by omega))
      have hx' : IntKind.u64.wrap v = (x : Int) := by rw [IntKind.wrap_u64]; omega
      rw [if_pos f, if_pos rfl, hx]
      have sw := sw.1 f
      clear h hl f hx
      rcases sw with sw | sw
      all_goals
        go_enter Try.func16, Try.ntmps16
        go_wp2_with fail
        refine (C.out _).mono ?_
        rintro e w' ⟨rfl, rfl⟩
        go_wp2_with fail
        refine (R.out _).mono ?_
        rintro e w' ⟨rfl, hB⟩
        go_wp2_with fail
        go_ret2
        exact ⟨rfl, hB⟩
    · obtain ⟨s1, s2⟩ := sw.2 f
      rw [if_neg f, if_neg (by omega), empty_str]
      obtain ⟨q, hq⟩ : ∃ q, v / 2 ^ (b - 1) = q := ⟨_, rfl⟩
      rw [hq] at s1 s2
      have a1 : (q == 0) = false := by simpa using s1
      have a2 : (q != 0) = true := by simpa using s1
      have a3 : (q == -1) = false := by simpa using s2
      have a4 : (q != -1) = true := by simpa using s2
      clear h hl f s1 s2 sw
      go_enter Try.func16, Try.ntmps16
      go_wp2_with fail
      refine (C.out _).mono ?_
      rintro e w' ⟨rfl, rfl⟩
      go_wp2_with fail
      go_ret2
      exact ⟨rfl, B⟩
  · have e0 : Fld.chkPS s.size p wd v = Fld.chk s.size p wd := by unfold Fld.chkPS; rw [if_neg h]
    rw [e0, if_neg h, empty_str]
    obtain ⟨c, hc⟩ : ∃ c, Fld.chk s.size p wd = c := ⟨_, rfl⟩
    rw [hc] at C h ⊢
    have h' : (c == 0) = false := by simpa using h
    have h'' : (c != 0) = true := by simpa using h
    clear h hl hc e0
    go_enter Try.func16, Try.ntmps16
    go_wp2_with fail
    refine (C.out _).mono ?_
    rintro e w' ⟨rfl, rfl⟩
    go_wp2_with fail
    go_ret2
    exact ⟨rfl, B⟩

namespace Fld
def flipV (l : List UInt8) (p : Int) : List UInt8 := if chk l.length p 1 = 0 then put l p.toNat 1 (1 - bit l p.toNat) 1 else []
end Fld
set_option maxHeartbeats 1000000 in
theorem flip_any (s : ByteArray) (p : Int) (hs : s.size ≤ 70000) (w : World) :
    Calls Try.prog 25 #[.string s, .int .i64 p] w fun e w' => e = .returned (.tuple #[.string ⟨(Fld.flipV s.data.toList p).toArray⟩, .int .i64 (Fld.chk s.size p 1)]) ∧ Below w.heap.size w w' := by
  have hl : s.data.toList.length = s.size := by simp
  have G := Lib.hid (get_any s p 1 hs)
  unfold Fld.flipV
  unfold Fld.getV at G
  rw [hl] at G ⊢
  by_cases h : Fld.chk s.size p 1 = 0
  · rw [h] at G ⊢
    rw [if_pos rfl] at G ⊢
    obtain ⟨⟨⟨k1, k2⟩, k3, k4⟩, k5⟩ := Fld.chk_cases h
    obtain ⟨a, rfl⟩ := Int.eq_ofNat_of_zero_le k3
    have e1 : Fld.num s.data.toList a 1 = Fld.bit s.data.toList a := by simp [Fld.num]
    have e2 : (1 : Int).toNat = 1 := rfl
    simp only [Int.toNat_natCast, e2, e1] at G ⊢
    have lt := Fld.bit_lt s.data.toList a
    generalize Fld.bit s.data.toList a = v at *
    have R := Lib.hid (replaced_any s a 1 (1 - v) hs (by omega) (by omega) (by omega))
    have e3 : ((1 - v : Nat) : Int) = 1 - (v : Int) := by omega
    rw [e3] at R
    clear h hl e1 e2 e3
    go_enter Try.func25, Try.ntmps25
    go_wp2_with fail
    refine (G.out _).mono ?_
    rintro e w' ⟨rfl, hB⟩
    go_wp2_with fail
    refine (R.out _).mono ?_
    rintro e w'' ⟨rfl, hB'⟩
    go_wp2_with fail
    go_ret2
    exact ⟨rfl, hB.trans (hB'.mono hB.size)⟩
  · rw [if_neg h] at G ⊢
    rw [empty_str]
    obtain ⟨c, hc⟩ : ∃ c, Fld.chk s.size p 1 = c := ⟨_, rfl⟩
    rw [hc] at G h ⊢
    have h' : (c == 0) = false := by simpa using h
    have h'' : (c != 0) = true := by simpa using h
    clear h hl hc
    go_enter Try.func25, Try.ntmps25
    go_wp2_with fail
    refine (G.out _).mono ?_
    rintro e w' ⟨rfl, hB⟩
    go_wp2_with fail
    go_ret2
    exact ⟨rfl, hB⟩
end Go.Proofs.Ytgfjmolihobaeaa
