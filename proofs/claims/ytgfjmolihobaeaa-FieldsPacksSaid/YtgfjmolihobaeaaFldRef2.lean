/- The contracts of the reference's Get, Signed, Put, PutSigned, Flip over this program: the same words as the program's own. -/
import Derived.Test.YtgfjmolihobaeaaFldRef
namespace Go.Proofs.Ytgfjmolihobaeaa
open Go.RowKit Go.Shelf
set_option linter.unusedVariables false

/-- How the reference checks a place. -/
theorem chk_split (n : Nat) (p wd : Int) : (65536 < n ∧ Fld.chk n p wd = 3) ∨ (¬ 65536 < n ∧ ¬ Fld.ok n p wd ∧ Fld.chk n p wd = 2) ∨ (¬ 65536 < n ∧ Fld.ok n p wd ∧ Fld.chk n p wd = 0) := by
  by_cases h : 65536 < n
  · exact .inl ⟨h, Fld.chk_long h⟩
  · by_cases k : Fld.ok n p wd
    · exact .inr (.inr ⟨h, k, Fld.chk_ok h k⟩)
    · exact .inr (.inl ⟨h, k, Fld.chk_bad h k⟩)

set_option maxHeartbeats 1000000 in
theorem rget_any (s : ByteArray) (p wd : Int) (hs : s.size ≤ 70000) (w : World) :
    Calls Try.prog 11 #[.string s, .int .i64 p, .int .i64 wd] w fun e w' => e = .returned (.tuple #[.int .u64 (Fld.getV s.data.toList p wd : Nat), .int .i64 (Fld.chk s.size p wd)]) ∧ w = w' := by
  have hl : s.data.toList.length = s.size := by simp
  have L := Lib.hid (fun w => rlong_any s hs w)
  have K := Lib.hid (fun w => rfield_any s p wd hs w)
  unfold Fld.getV
  rw [hl]
  rcases chk_split s.size p wd with ⟨h, e⟩ | ⟨h, k, e⟩ | ⟨h, k, e⟩
  · rw [e, if_neg (by omega)]
    rw [decide_eq_true h] at L
    clear h e hl K
    go_enter Try.func11, Try.ntmps11
    go_wp2_with fail
    refine (L.out _).mono ?_
    rintro e w' ⟨rfl, rfl⟩
    go_wp2_with fail
    go_ret2
    exact ⟨rfl, rfl⟩
  · rw [e, if_neg (by omega)]
    rw [decide_eq_false h] at L
    rw [Fld.okB_no k] at K
    clear h e hl k
    go_enter Try.func11, Try.ntmps11
    go_wp2_with fail
    refine (L.out _).mono ?_
    rintro e w' ⟨rfl, rfl⟩
    go_wp2_with fail
    refine (K.out _).mono ?_
    rintro e w' ⟨rfl, rfl⟩
    go_wp2_with fail
    go_ret2
    exact ⟨rfl, rfl⟩
  · rw [e, if_pos rfl]
    rw [decide_eq_false h] at L
    rw [Fld.okB_yes k] at K
    obtain ⟨⟨k1, k2⟩, k3, k4⟩ := k
    obtain ⟨a, rfl⟩ := Int.eq_ofNat_of_zero_le k3
    obtain ⟨b, rfl⟩ := Int.eq_ofNat_of_zero_le (show 0 ≤ wd by omega)
    have R := Lib.hid (rnumber_any s a b hs (by omega) (by omega))
    clear h e hl
    show Calls _ _ _ _ fun e w' => e = .returned (.tuple #[.int .u64 (Fld.num s.data.toList a b : Nat), .int .i64 0]) ∧ _
    go_enter Try.func11, Try.ntmps11
    go_wp2_with fail
    refine (L.out _).mono ?_
    rintro e w' ⟨rfl, rfl⟩
    go_wp2_with fail
    refine (K.out _).mono ?_
    rintro e w' ⟨rfl, rfl⟩
    go_wp2_with fail
    refine (R.out _).mono ?_
    rintro e w' ⟨rfl, rfl⟩
    go_wp2_with fail
    go_ret2
    exact ⟨rfl, rfl⟩

set_option maxHeartbeats 1000000 in
theorem rsigned_any (s : ByteArray) (p wd : Int) (hs : s.size ≤ 70000) (w : World) :
    Calls Try.prog 13 #[.string s, .int .i64 p, .int .i64 wd] w fun e w' => e = .returned (.tuple #[.int .i64 (Fld.getS s.data.toList p wd), .int .i64 (Fld.chk s.size p wd)]) ∧ w = w' := by
  have hl : s.data.toList.length = s.size := by simp
  have G := Lib.hid (rget_any s p wd hs)
  unfold Fld.getS
  unfold Fld.getV at G
  rw [hl] at G ⊢
  by_cases h : Fld.chk s.size p wd = 0
  · rw [h] at G ⊢
    rw [if_pos rfl] at G ⊢
    obtain ⟨⟨⟨k1, k2⟩, k3, k4⟩, k5⟩ := Fld.chk_cases h
    obtain ⟨a, rfl⟩ := Int.eq_ofNat_of_zero_le k3
    obtain ⟨b, rfl⟩ := Int.eq_ofNat_of_zero_le (show 0 ≤ wd by omega)
    have lt := Fld.num_lt s.data.toList a b
    simp only [Int.toNat_natCast] at G ⊢
    generalize Fld.num s.data.toList a b = v at *
    have T := Lib.hid (rtwo_any v b (by omega) (by omega) lt)
    clear h hl lt
    go_enter Try.func13, Try.ntmps13
    go_wp2_with fail
    refine (G.out _).mono ?_
    rintro e w' ⟨rfl, rfl⟩
    go_wp2_with fail
    refine (T.out _).mono ?_
    rintro e w' ⟨rfl, rfl⟩
    go_wp2_with fail
    go_ret2
    exact ⟨rfl, rfl⟩
  · rw [if_neg h] at G ⊢
    obtain ⟨c, hc⟩ : ∃ c, Fld.chk s.size p wd = c := ⟨_, rfl⟩
    rw [hc] at G h ⊢
    have h' : (c == 0) = false := by simpa using h
    have h'' : (c != 0) = true := by simpa using h
    clear h hl hc
    go_enter Try.func13, Try.ntmps13
    go_wp2_with fail
    refine (G.out _).mono ?_
    rintro e w' ⟨rfl, rfl⟩
    go_wp2_with fail
    go_ret2
    exact ⟨rfl, rfl⟩

set_option maxHeartbeats 1000000 in
theorem rput_any (s : ByteArray) (p wd : Int) (v : Nat) (hs : s.size ≤ 70000) (hv : v < 18446744073709551616) (w : World) :
    Calls Try.prog 15 #[.string s, .int .i64 p, .int .i64 wd, .int .u64 v] w fun e w' => e = .returned (.tuple #[.string ⟨(Fld.putV s.data.toList p wd v).toArray⟩, .int .i64 (Fld.chkP s.size p wd v)]) ∧ Below w.heap.size w w' := by
  have hl : s.data.toList.length = s.size := by simp
  have L := Lib.hid (fun w => rlong_any s hs w)
  have K := Lib.hid (fun w => rfield_any s p wd hs w)
  have B := Below.refl w.heap.size w
  unfold Fld.putV
  rw [hl]
  rcases chk_split s.size p wd with ⟨h, e⟩ | ⟨h, k, e⟩ | ⟨h, k, e⟩
  · have e0 : Fld.chkP s.size p wd v = 3 := by unfold Fld.chkP; rw [e, if_neg (by omega)]
    rw [e0, if_neg (by omega), empty_str]
    rw [decide_eq_true h] at L
    clear h e hl K e0
    go_enter Try.func15, Try.ntmps15
    go_wp2_with fail
    refine (L.out _).mono ?_
    rintro e w' ⟨rfl, rfl⟩
    go_wp2_with fail
    go_ret2
    exact ⟨rfl, B⟩
  · have e0 : Fld.chkP s.size p wd v = 2 := by unfold Fld.chkP; rw [e, if_neg (by omega)]
    rw [e0, if_neg (by omega), empty_str]
    rw [decide_eq_false h] at L
    rw [Fld.okB_no k] at K
    clear h e hl k e0
    go_enter Try.func15, Try.ntmps15
    go_wp2_with fail
    refine (L.out _).mono ?_
    rintro e w' ⟨rfl, rfl⟩
    go_wp2_with fail
    refine (K.out _).mono ?_
    rintro e w' ⟨rfl, rfl⟩
    go_wp2_with fail
    go_ret2
    exact ⟨rfl, B⟩
  · rw [decide_eq_false h] at L
    rw [Fld.okB_yes k] at K
    obtain ⟨⟨k1, k2⟩, k3, k4⟩ := k
    obtain ⟨a, rfl⟩ := Int.eq_ofNat_of_zero_le k3
    obtain ⟨b, rfl⟩ := Int.eq_ofNat_of_zero_le (show 0 ≤ wd by omega)
    have F := Lib.hid (rfits_any v b hv (by omega))
    unfold Fld.chkP
    rw [e, if_pos rfl]
    simp only [Int.toNat_natCast]
    by_cases f : Fld.fitsB v b = true
    · have R := Lib.hid (rset_any s a b v hs (by omega) (by omega) hv)
      rw [f] at F
      rw [if_pos f, if_pos rfl]
      clear h hl f e
      go_enter Try.func15, Try.ntmps15
      go_wp2_with fail
      refine (L.out _).mono ?_
      rintro e w' ⟨rfl, rfl⟩
      go_wp2_with fail
      refine (K.out _).mono ?_
      rintro e w' ⟨rfl, rfl⟩
      go_wp2_with fail
      refine (F.out _).mono ?_
      rintro e w' ⟨rfl, rfl⟩
      go_wp2_with fail
      refine (R.out _).mono ?_
      rintro e w' ⟨rfl, hB⟩
      go_wp2_with fail
      go_ret2
      exact ⟨rfl, hB⟩
    · have f0 : Fld.fitsB v b = false := by simpa using f
      rw [f0] at F
      rw [if_neg f, if_neg (by omega), empty_str]
      clear h hl f f0 e
      go_enter Try.func15, Try.ntmps15
      go_wp2_with fail
      refine (L.out _).mono ?_
      rintro e w' ⟨rfl, rfl⟩
      go_wp2_with fail
      refine (K.out _).mono ?_
      rintro e w' ⟨rfl, rfl⟩
      go_wp2_with fail
      refine (F.out _).mono ?_
      rintro e w' ⟨rfl, rfl⟩
      go_wp2_with fail
      go_ret2
      exact ⟨rfl, B⟩

set_option maxHeartbeats 2000000 in
theorem rputSigned_any (s : ByteArray) (p wd v : Int) (hs : s.size ≤ 70000) (v0 : -9223372036854775808 ≤ v) (v1 : v ≤ 9223372036854775807) (w : World) :
    Calls Try.prog 17 #[.string s, .int .i64 p, .int .i64 wd, .int .i64 v] w fun e w' => e = .returned (.tuple #[.string ⟨(Fld.putVS s.data.toList p wd v).toArray⟩, .int .i64 (Fld.chkPS s.size p wd v)]) ∧ Below w.heap.size w w' := by
  have hl : s.data.toList.length = s.size := by simp
  have L := Lib.hid (fun w => rlong_any s hs w)
  have K := Lib.hid (fun w => rfield_any s p wd hs w)
  have B := Below.refl w.heap.size w
  unfold Fld.putVS
  rw [hl]
  rcases chk_split s.size p wd with ⟨h, e⟩ | ⟨h, k, e⟩ | ⟨h, k, e⟩
  · have e0 : Fld.chkPS s.size p wd v = 3 := by unfold Fld.chkPS; rw [e, if_neg (by omega)]
    rw [e0, if_neg (by omega), empty_str]
    rw [decide_eq_true h] at L
    clear h e hl K e0
    go_enter Try.func17, Try.ntmps17
    go_wp2_with fail
    refine (L.out _).mono ?_
    rintro e w' ⟨rfl, rfl⟩
    go_wp2_with fail
    go_ret2
    exact ⟨rfl, B⟩
  · have e0 : Fld.chkPS s.size p wd v = 2 := by unfold Fld.chkPS; rw [e, if_neg (by omega)]
    rw [e0, if_neg (by omega), empty_str]
    rw [decide_eq_false h] at L
    rw [Fld.okB_no k] at K
    clear h e hl k e0
    go_enter Try.func17, Try.ntmps17
    go_wp2_with fail
    refine (L.out _).mono ?_
    rintro e w' ⟨rfl, rfl⟩
    go_wp2_with fail
    refine (K.out _).mono ?_
    rintro e w' ⟨rfl, rfl⟩
    go_wp2_with fail
    go_ret2
    exact ⟨rfl, B⟩
  · rw [decide_eq_false h] at L
    rw [Fld.okB_yes k] at K
    obtain ⟨⟨k1, k2⟩, k3, k4⟩ := k
    obtain ⟨a, rfl⟩ := Int.eq_ofNat_of_zero_le k3
    obtain ⟨b, rfl⟩ := Int.eq_ofNat_of_zero_le (show 0 ≤ wd by omega)
    obtain ⟨x, hx⟩ : ∃ x : Nat, (v % 18446744073709551616).toNat = x := ⟨_, rfl⟩
    have hx' : IntKind.u64.wrap v = (x : Int) := by rw [IntKind.wrap_u64]; omega
    have R := Lib.hid (rset_any s a b x hs (by omega) (by omega) (by omega))
    unfold Fld.chkPS
    rw [e, if_pos rfl]
    simp only [Int.toNat_natCast]
    rw [hx]
    obtain ⟨P, hP⟩ : ∃ P : Nat, 2 ^ (b - 1) = P := ⟨_, rfl⟩
    have hP' : ((2 : Int) ^ (b - 1)) = (P : Int) := by rw [← hP]; simp
    have PL := Lib.hid (show b < 64 → P ≤ 4611686018427387904 by
      intro c
      have := Nat.pow_le_pow_right (n := 2) (by omega) (show b - 1 ≤ 62 by omega)
      have z : (2 : Nat) ^ 62 = 4611686018427387904 := by decide
      omega)
    have PM := Lib.hid (show b = 64 → P = 9223372036854775808 by intro c; subst c; rw [← hP])
    have FS : Fld.fitsS v b ↔ -(P : Int) ≤ v ∧ v < (P : Int) := by unfold Fld.fitsS; rw [hP']
    have HP := Lib.hid hP
    clear hP
    by_cases c : b < 64
    · have pl := PL.out c
      by_cases f1 : v < -(P : Int)
      · have nf : ¬ Fld.fitsS v b := by rw [FS]; omega
        rw [if_neg nf, if_neg (by omega), empty_str]
        clear FS hx h hl e nf
        go_enter Try.func17, Try.ntmps17
        go_wp2_with fail
        refine (L.out _).mono ?_
        rintro e w' ⟨rfl, rfl⟩
        go_wp2_with fail
        refine (K.out _).mono ?_
        rintro e w' ⟨rfl, rfl⟩
        go_wp2_with fail
        go_ret2
        exact ⟨rfl, B⟩
      · have f1' : decide (v < -(P : Int)) = false := by simpa using f1
        by_cases f2 : (P : Int) ≤ v
        · have nf : ¬ Fld.fitsS v b := by rw [FS]; omega
          rw [if_neg nf, if_neg (by omega), empty_str]
          clear FS hx h hl e nf
          go_enter Try.func17, Try.ntmps17
          go_wp2_with fail
          refine (L.out _).mono ?_
          rintro e w' ⟨rfl, rfl⟩
          go_wp2_with fail
          refine (K.out _).mono ?_
          rintro e w' ⟨rfl, rfl⟩
          go_wp2_with fail
          go_ret2
          exact ⟨rfl, B⟩
        · have f2' : decide ((P : Int) ≤ v) = false := by simpa using f2
          have nf : Fld.fitsS v b := by rw [FS]; omega
          rw [if_pos nf, if_pos rfl]
          clear FS hx h hl e nf
          go_enter Try.func17, Try.ntmps17
          go_wp2_with fail
          refine (L.out _).mono ?_
          rintro e w' ⟨rfl, rfl⟩
          go_wp2_with fail
          refine (K.out _).mono ?_
          rintro e w' ⟨rfl, rfl⟩
          go_wp2_with fail
          refine (R.out _).mono ?_
          rintro e w' ⟨rfl, hB⟩
          go_wp2_with fail
          go_ret2
          exact ⟨rfl, hB⟩
    · have pm := PM.out (by omega)
      have c' : decide ((b : Int) < 64) = false := by simp; omega
      have nf : Fld.fitsS v b := by rw [FS]; omega
      rw [if_pos nf, if_pos rfl]
      clear FS hx h hl e nf
      go_enter Try.func17, Try.ntmps17
      go_wp2_with fail
      refine (L.out _).mono ?_
      rintro e w' ⟨rfl, rfl⟩
      go_wp2_with fail
      refine (K.out _).mono ?_
      rintro e w' ⟨rfl, rfl⟩
      go_wp2_with fail
      refine (R.out _).mono ?_
      rintro e w' ⟨rfl, hB⟩
      go_wp2_with fail
      go_ret2
      exact ⟨rfl, hB⟩

set_option maxHeartbeats 1000000 in
theorem rflip_any (s : ByteArray) (p : Int) (hs : s.size ≤ 70000) (w : World) :
    Calls Try.prog 26 #[.string s, .int .i64 p] w fun e w' => e = .returned (.tuple #[.string ⟨(Fld.flipV s.data.toList p).toArray⟩, .int .i64 (Fld.chk s.size p 1)]) ∧ Below w.heap.size w w' := by
  have hl : s.data.toList.length = s.size := by simp
  have L := Lib.hid (fun w => rlong_any s hs w)
  have K := Lib.hid (fun w => rfield_any s p 1 hs w)
  have B := Below.refl w.heap.size w
  unfold Fld.flipV
  rw [hl]
  rcases chk_split s.size p 1 with ⟨h, e⟩ | ⟨h, k, e⟩ | ⟨h, k, e⟩
  · rw [e, if_neg (by omega), empty_str]
    rw [decide_eq_true h] at L
    clear h e hl K
    go_enter Try.func26, Try.ntmps26
    go_wp2_with fail
    refine (L.out _).mono ?_
    rintro e w' ⟨rfl, rfl⟩
    go_wp2_with fail
    go_ret2
    exact ⟨rfl, B⟩
  · rw [e, if_neg (by omega), empty_str]
    rw [decide_eq_false h] at L
    rw [Fld.okB_no k] at K
    clear h e hl k
    go_enter Try.func26, Try.ntmps26
    go_wp2_with fail
    refine (L.out _).mono ?_
    rintro e w' ⟨rfl, rfl⟩
    go_wp2_with fail
    refine (K.out _).mono ?_
    rintro e w' ⟨rfl, rfl⟩
    go_wp2_with fail
    go_ret2
    exact ⟨rfl, B⟩
  · rw [e, if_pos rfl]
    rw [decide_eq_false h] at L
    rw [Fld.okB_yes k] at K
    obtain ⟨⟨k1, k2⟩, k3, k4⟩ := k
    obtain ⟨a, rfl⟩ := Int.eq_ofNat_of_zero_le k3
    have T := Lib.hid (fun w => rbit_any s a hs (by omega) w)
    have lt := Fld.bit_lt s.data.toList a
    simp only [Int.toNat_natCast]
    generalize Fld.bit s.data.toList a = v at *
    have R := Lib.hid (rset_any s a 1 (1 - v) hs (by omega) (by omega) (by omega))
    have e3 : ((1 - v : Nat) : Int) = 1 - (v : Int) := by omega
    rw [e3] at R
    clear h hl e3 e
    go_enter Try.func26, Try.ntmps26
    go_wp2_with fail
    refine (L.out _).mono ?_
    rintro e w' ⟨rfl, rfl⟩
    go_wp2_with fail
    refine (K.out _).mono ?_
    rintro e w' ⟨rfl, rfl⟩
    go_wp2_with fail
    refine (T.out _).mono ?_
    rintro e w' ⟨rfl, rfl⟩
    go_wp2_with fail
    refine (R.out _).mono ?_
    rintro e w' ⟨rfl, hB⟩
    go_wp2_with fail
    go_ret2
    exact ⟨rfl, hB⟩
end Go.Proofs.Ytgfjmolihobaeaa
