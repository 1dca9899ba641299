/- The contracts of parity, newStep, Step, Symbols of package convol and of perigeeref06's over this program. -/
import Derived.Test.YtgfihljledmaaaaCvMath
import Derived.Test.YtgfihljledmaaaaGalRow
namespace Go.Proofs.Ytgfihljledmaaaa
open Go.RowKit
set_option linter.unusedVariables false

theorem ofInt_i64 (a : Nat) (h : a < 256) : (BitVec.ofInt 64 (a : Int)).toNat = a := by
  rw [BitVec.toNat_ofInt]
  omega
theorem i64_xor (a b : Nat) (ha : a < 256) (hb : b < 256) : bits .xor .i64 (a : Int) (b : Int) = ((a ^^^ b : Nat) : Int) := by
  have l : a ^^^ b < 256 := Nat.xor_lt_two_pow (n := 8) ha hb
  show IntKind.i64.wrap ((BitVec.ofInt 64 (a : Int) ^^^ BitVec.ofInt 64 (b : Int)).toNat : Int) = _
  rw [BitVec.toNat_xor, ofInt_i64 a ha, ofInt_i64 b hb, IntKind.wrap_i64]
  omega
theorem i64_and (a b : Nat) (ha : a < 256) (hb : b < 256) : bits .and .i64 (a : Int) (b : Int) = ((a &&& b : Nat) : Int) := by
  have l : a &&& b < 256 := Nat.and_lt_two_pow (n := 8) a hb
  show IntKind.i64.wrap ((BitVec.ofInt 64 (a : Int) &&& BitVec.ofInt 64 (b : Int)).toNat : Int) = _
  rw [BitVec.toNat_and, ofInt_i64 a ha, ofInt_i64 b hb, IntKind.wrap_i64]
  omega
theorem par_rec : ∀ n, n < 256 → Cv.par n = (n % 2 + Cv.par (n / 2)) % 2 := by decide +kernel
theorem xor_two : ∀ a, a < 2 → ∀ b, b < 2 → a ^^^ b = (a + b) % 2 := by decide

/-- The loop of both parities: from o, with m left. -/
theorem par_step {m o n : Nat} (hm : m < 256) (ho : o < 2) (h : (o + Cv.par m) % 2 = Cv.par n) : o ^^^ m % 2 < 2 ∧ ((o ^^^ m % 2) + Cv.par (m / 2)) % 2 = Cv.par n := by
  have e := par_rec m hm
  have x := xor_two o ho (m % 2) (Nat.mod_lt _ (by omega))
  rw [x]
  omega

set_option maxRecDepth 100000 in
theorem parity_any (n : Nat) (h : n < 256) (w : World) :
    Calls Try.prog 47 #[.int .i64 n] w fun e w' => e = .returned (.int .i64 (Cv.par n : Nat)) ∧ w = w' := by
  go_enter Try.func47, Try.ntmps47
  go_wp2_with fail
  go_loop [0, 3] (fun x y => ∃ m o : Nat, m < 256 ∧ o < 2 ∧ x = .int .i64 m ∧ y = .int .i64 o ∧ (o + Cv.par m) % 2 = Cv.par n) (fun x _ => (intOf x).toNat)
  case atStart => exact ⟨n, 0, h, by omega, rfl, rfl, by have := Cv.par_lt n; omega⟩
  case round =>
    obtain ⟨m, o, hm, ho, rfl, rfl, he⟩ := hrel
    have HE := Lib.hid he
    by_cases hlt : 0 < m
    · have st := Lib.hid (par_step hm ho he)
      obtain ⟨r, hr⟩ : ∃ r, m % 2 = r := ⟨_, rfl⟩
      obtain ⟨d, hd⟩ : ∃ d, m / 2 = d := ⟨_, rfl⟩
      have r2 : r < 2 := by omega
      have e1 := i64_xor o r (by omega) (by omega)
      rw [hr, hd] at st
      obtain ⟨q, hq⟩ : ∃ q, o ^^^ r = q := ⟨_, rfl⟩
      rw [hq] at st e1
      have d1 : (m : Int) / 2 = (d : Int) := by omega
      have d2 : (m : Int) % 2 = (r : Int) := by omega
      have DL := Lib.hid (show d < m by omega)
      clear he hr hd hq
      go_wp2_with fail
      go_round
      case rel => exact ⟨d, q, by have := DL.out; omega, st.out.1, rfl, rfl, st.out.2⟩
      case measure => simp [intOf]; exact DL.out
    · have e2 : o = Cv.par n := by
        have : Cv.par 0 = 0 := rfl
        rw [show m = 0 by omega] at he
        omega
      have HE2 := Lib.hid e2
      have m0 : decide ((0 : Int) < (m : Int)) = false := by simp; omega
      clear he e2
      go_wp2_with fail
      go_ret
      exact ⟨by rw [HE2.out]; rfl, rfl⟩
set_option maxRecDepth 100000 in
theorem rparity_any (n : Nat) (h : n < 256) (w : World) :
    Calls Try.prog 38 #[.int .i64 n] w fun e w' => e = .returned (.int .i64 (Cv.par n : Nat)) ∧ w = w' := by
  go_enter Try.func38, Try.ntmps38
  go_wp2_with fail
  go_loop [0, 3] (fun x y => ∃ m o : Nat, m < 256 ∧ o < 2 ∧ x = .int .i64 m ∧ y = .int .i64 o ∧ (o + Cv.par m) % 2 = Cv.par n) (fun x _ => (intOf x).toNat)
  case atStart => exact ⟨n, 0, h, by omega, rfl, rfl, by have := Cv.par_lt n; omega⟩
  case round =>
    obtain ⟨m, o, hm, ho, rfl, rfl, he⟩ := hrel
    have HE := Lib.hid he
    by_cases hlt : 0 < m
    · have st := Lib.hid (par_step hm ho he)
      obtain ⟨r, hr⟩ : ∃ r, m % 2 = r := ⟨_, rfl⟩
      obtain ⟨d, hd⟩ : ∃ d, m / 2 = d := ⟨_, rfl⟩
      have r2 : r < 2 := by omega
      have e1 := i64_xor o r (by omega) (by omega)
      rw [hr, hd] at st
      obtain ⟨q, hq⟩ : ∃ q, o ^^^ r = q := ⟨_, rfl⟩
      rw [hq] at st e1
      have d1 : (m : Int) / 2 = (d : Int) := by omega
      have d2 : (m : Int) % 2 = (r : Int) := by omega
      have DL := Lib.hid (show d < m by omega)
      clear he hr hd hq
      go_wp2_with fail
      go_round
      case rel => exact ⟨d, q, by have := DL.out; omega, st.out.1, rfl, rfl, st.out.2⟩
      case measure => simp [intOf]; exact DL.out
    · have e2 : o = Cv.par n := by
        have : Cv.par 0 = 0 := rfl
        rw [show m = 0 by omega] at he
        omega
      have HE2 := Lib.hid e2
      have m0 : decide ((0 : Int) < (m : Int)) = false := by simp; omega
      clear he e2
      go_wp2_with fail
      go_ret
      exact ⟨by rw [HE2.out]; rfl, rfl⟩

/-- What the numbers of a step are. -/
theorem step_nums (s b : Nat) (hs : s < 64) (hb : b < 2) : (64 * b + s < 128) ∧ ((64 * b + s) &&& 121 < 128) ∧ ((64 * b + s) &&& 91 < 128) :=
  ⟨by omega, Nat.and_lt_two_pow (n := 7) _ (by omega), Nat.and_lt_two_pow (n := 7) _ (by omega)⟩
/-- A step as a value. -/
def stepV (s b : Nat) : Array Value := #[.int .i64 (Cv.nx s b : Nat), .int .i64 (Cv.s1 s b : Nat), .int .i64 (Cv.s2 s b : Nat)]

theorem iStep : (Try.prog.info? 78).map (·.size) = some 3 := by kernel_rfl
set_option maxRecDepth 100000 in
theorem newStep_any (s b : Nat) (hs : s < 64) (hb : b < 2) (w : World) :
    Calls Try.prog 43 #[.int .i64 s, .int .i64 b] w fun e w' => e = .returned (.agg (stepV s b)) ∧ Below w.heap.size w w' := by
  obtain ⟨h1, h2, h3⟩ := step_nums s b hs hb
  have a1 := i64_and (64 * b + s) 121 (by omega) (by omega)
  have a2 := i64_and (64 * b + s) 91 (by omega) (by omega)
  have P1 := Lib.hid (fun w => parity_any _ (Nat.lt_trans h2 (by omega)) w)
  have P2 := Lib.hid (fun w => parity_any _ (Nat.lt_trans h3 (by omega)) w)
  have HV := Lib.hid (show stepV s b = #[.int .i64 (((64 * b + s) / 2 : Nat) : Int), .int .i64 (Cv.par ((64 * b + s) &&& 121) : Nat), .int .i64 ((1 - Cv.par ((64 * b + s) &&& 91) : Nat) : Int)] from rfl)
  have pl := Cv.par_lt ((64 * b + s) &&& 91)
  obtain ⟨r, hr⟩ : ∃ r, 64 * b + s = r := ⟨_, rfl⟩
  have e0 : 64 * (b : Int) + (s : Int) = (r : Int) := by omega
  rw [hr] at h1 h2 h3 a1 a2 P1 P2 HV pl
  obtain ⟨x, hx⟩ : ∃ x, r &&& 121 = x := ⟨_, rfl⟩
  obtain ⟨y, hy⟩ : ∃ x, r &&& 91 = x := ⟨_, rfl⟩
  rw [hx] at a1 P1 HV
  rw [hy] at a2 P2 HV pl
  obtain ⟨p1, hp1⟩ : ∃ x, Cv.par x = x := ⟨0, rfl⟩
  clear hp1 p1
  obtain ⟨p1, hp1⟩ : ∃ z, Cv.par x = z := ⟨_, rfl⟩
  obtain ⟨p2, hp2⟩ : ∃ z, Cv.par y = z := ⟨_, rfl⟩
  rw [hp1] at P1 HV
  rw [hp2] at P2 HV pl
  obtain ⟨d, hd⟩ : ∃ d, r / 2 = d := ⟨_, rfl⟩
  rw [hd] at HV
  have d1 : (r : Int) / 2 = (d : Int) := by omega
  obtain ⟨t, ht⟩ : ∃ t, 1 - p2 = t := ⟨_, rfl⟩
  rw [ht] at HV
  have t1 : 1 - (p2 : Int) = (t : Int) := by omega
  rw [show ((121 : Nat) : Int) = 121 from rfl] at a1
  rw [show ((91 : Nat) : Int) = 91 from rfl] at a2
  have t2 : t < 2 := by omega
  have d2 : d < 64 := by omega
  clear hx hy hp1 hp2 hd ht h2 h3 hr
  go_enter Try.func43, Try.ntmps43
  go_wp2_with fail
  (with_reducible refine (P1.out _).mono ?_)
  rintro e w' ⟨rfl, rfl⟩
  go_wp2_with fail
  (with_reducible refine (P2.out _).mono ?_)
  rintro e w' ⟨rfl, rfl⟩
  go_wp2_with fail
  exact bodyPost_ret (v := .agg #[.int .i64 d, .int .i64 p1, .int .i64 t]) (results_cell_row Try.results43 _ _ w.heap.size 78 _ (0, 0) _ rfl (heap_alloc_new _ _) Try.underlying78 rfl iStep) rfl ⟨by rw [HV.out], (Below.refl _ _).alloc (Nat.le_refl _) _⟩
/-- What Step returns of a state and a bit. -/
def tupV (s b : Nat) : Value := .tuple (stepV s b)
set_option maxRecDepth 100000 in
theorem step_in (s b : Nat) (hs : s < 64) (hb : b < 2) (w : World) :
    Calls Try.prog 37 #[.int .i64 s, .int .i64 b] w fun e w' => e = .returned (tupV s b) ∧ Below w.heap.size w w' := by
  have N := Lib.hid (fun w => newStep_any s b hs hb w)
  have HV := Lib.hid (show tupV s b = .tuple (stepV s b) from rfl)
  unfold stepV at N HV
  obtain ⟨x, hx⟩ : ∃ x, Cv.nx s b = x := ⟨_, rfl⟩
  obtain ⟨y, hy⟩ : ∃ x, Cv.s1 s b = x := ⟨_, rfl⟩
  obtain ⟨z, hz⟩ : ∃ x, Cv.s2 s b = x := ⟨_, rfl⟩
  rw [hx, hy, hz] at N HV
  have s1 : (s : Int) < 64 := by omega
  have s2 : (b : Int) < 2 := by omega
  have s3 : decide ((64 : Int) ≤ (s : Int)) = false := by simp; omega
  have s4 : decide ((2 : Int) ≤ (b : Int)) = false := by simp; omega
  clear hx hy hz
  go_enter Try.func37, Try.ntmps37
  go_wp2_with fail
  (with_reducible refine (N.out _).mono ?_)
  rintro e w1 ⟨rfl, h1⟩
  have H1 := Lib.hid h1
  go_wp2_with fail
  go_quiet (fail)
  go_wp2_with fail
  go_ret3
  exact ⟨by rw [HV.out]; rfl, below_drewN (ba h1 _) nq⟩
/-- What Step returns of no state or no bit. -/
def zeroV : Value := .tuple #[.int .i64 0, .int .i64 0, .int .i64 0]
/-- A state and a bit. -/
def inr (s b : Int) : Prop := 0 ≤ s ∧ s < 64 ∧ 0 ≤ b ∧ b < 2
instance (s b : Int) : Decidable (inr s b) := by unfold inr; infer_instance
/-- What Step returns. -/
def stepT (s b : Int) : Value := if inr s b then tupV s.toNat b.toNat else zeroV
set_option maxRecDepth 100000 in
theorem step_out (s b : Int) (h : ¬ inr s b) (w : World) :
    Calls Try.prog 37 #[.int .i64 s, .int .i64 b] w fun e w' => e = .returned zeroV ∧ w = w' := by
  unfold inr at h
  by_cases h1 : s < 0
  · have d1 : decide (s < 0) = true := by simp; omega
    clear h
    go_enter Try.func37, Try.ntmps37
    go_wp2_with fail
    go_ret3
    exact ⟨rfl, rfl⟩
  have d1 : decide (s < 0) = false := by simp; omega
  by_cases h2 : 64 ≤ s
  · have d2 : decide ((64 : Int) ≤ s) = true := by simp; omega
    clear h
    go_enter Try.func37, Try.ntmps37
    go_wp2_with fail
    go_ret3
    exact ⟨rfl, rfl⟩
  have d2 : decide ((64 : Int) ≤ s) = false := by simp; omega
  by_cases h3 : b < 0
  · have d3 : decide (b < 0) = true := by simp; omega
    clear h
    go_enter Try.func37, Try.ntmps37
    go_wp2_with fail
    go_ret3
    exact ⟨rfl, rfl⟩
  have d3 : decide (b < 0) = false := by simp; omega
  have h4 : 2 ≤ b := by omega
  have d4 : decide ((2 : Int) ≤ b) = true := by simp; omega
  clear h
  go_enter Try.func37, Try.ntmps37
  go_wp2_with fail
  go_ret3
  exact ⟨rfl, rfl⟩
theorem step_any (s b : Int) (w : World) :
    Calls Try.prog 37 #[.int .i64 s, .int .i64 b] w fun e w' => e = .returned (stepT s b) ∧ Below w.heap.size w w' := by
  unfold stepT
  by_cases h : inr s b
  · rw [if_pos h]
    have h' := h
    unfold inr at h'
    have := step_in s.toNat b.toNat (by omega) (by omega) w
    rw [show ((s.toNat : Nat) : Int) = s by omega, show ((b.toNat : Nat) : Int) = b by omega] at this
    exact this
  · rw [if_neg h]
    exact (step_out s b h w).mono fun e w' ⟨h1, h2⟩ => ⟨h1, by subst h2; exact Below.refl _ _⟩
set_option maxRecDepth 100000 in
theorem rstep_in (s b : Nat) (hs : s < 64) (hb : b < 2) (w : World) :
    Calls Try.prog 28 #[.int .i64 s, .int .i64 b] w fun e w' => e = .returned (tupV s b) ∧ Below w.heap.size w w' := by
  obtain ⟨h1, h2, h3⟩ := step_nums s b hs hb
  have a1 := i64_and (64 * b + s) 121 (by omega) (by omega)
  have a2 := i64_and (64 * b + s) 91 (by omega) (by omega)
  have P1 := Lib.hid (fun w => rparity_any _ (Nat.lt_trans h2 (by omega)) w)
  have P2 := Lib.hid (fun w => rparity_any _ (Nat.lt_trans h3 (by omega)) w)
  have HV := Lib.hid (show tupV s b = .tuple #[.int .i64 (((64 * b + s) / 2 : Nat) : Int), .int .i64 (Cv.par ((64 * b + s) &&& 121) : Nat), .int .i64 ((1 - Cv.par ((64 * b + s) &&& 91) : Nat) : Int)] from rfl)
  have pl := Cv.par_lt ((64 * b + s) &&& 91)
  obtain ⟨r, hr⟩ : ∃ r, 64 * b + s = r := ⟨_, rfl⟩
  have e0 : 64 * (b : Int) + (s : Int) = (r : Int) := by omega
  rw [hr] at h1 h2 h3 a1 a2 P1 P2 HV pl
  obtain ⟨x, hx⟩ : ∃ x, r &&& 121 = x := ⟨_, rfl⟩
  obtain ⟨y, hy⟩ : ∃ x, r &&& 91 = x := ⟨_, rfl⟩
  rw [hx] at a1 P1 HV
  rw [hy] at a2 P2 HV pl
  obtain ⟨p1, hp1⟩ : ∃ z, Cv.par x = z := ⟨_, rfl⟩
  obtain ⟨p2, hp2⟩ : ∃ z, Cv.par y = z := ⟨_, rfl⟩
  rw [hp1] at P1 HV
  rw [hp2] at P2 HV pl
  obtain ⟨d, hd⟩ : ∃ d, r / 2 = d := ⟨_, rfl⟩
  rw [hd] at HV
  have d1 : (r : Int) / 2 = (d : Int) := by omega
  obtain ⟨t, ht⟩ : ∃ t, 1 - p2 = t := ⟨_, rfl⟩
  rw [ht] at HV
  have t1 : 1 - (p2 : Int) = (t : Int) := by omega
  rw [show ((121 : Nat) : Int) = 121 from rfl] at a1
  rw [show ((91 : Nat) : Int) = 91 from rfl] at a2
  have t2 : t < 2 := by omega
  have d2 : d < 64 := by omega
  have s1 : (s : Int) < 64 := by omega
  have s2 : (b : Int) < 2 := by omega
  have s3 : decide ((63 : Int) < (s : Int)) = false := by simp; omega
  have s4 : decide ((1 : Int) < (b : Int)) = false := by simp; omega
  clear hx hy hp1 hp2 hd ht h2 h3 hr
  go_enter Try.func28, Try.ntmps28
  go_wp2_with fail
  (with_reducible refine (P1.out _).mono ?_)
  rintro e w' ⟨rfl, rfl⟩
  go_wp2_with fail
  (with_reducible refine (P2.out _).mono ?_)
  rintro e w' ⟨rfl, rfl⟩
  go_wp2_with fail
  go_ret3
  exact ⟨by rw [HV.out]; rfl, Below.refl _ _⟩
set_option maxRecDepth 100000 in
theorem rstep_out (s b : Int) (h : ¬ inr s b) (w : World) :
    Calls Try.prog 28 #[.int .i64 s, .int .i64 b] w fun e w' => e = .returned zeroV ∧ w = w' := by
  unfold inr at h
  by_cases h1 : s < 0
  · have d1 : decide (s < 0) = true := by simp; omega
    clear h
    go_enter Try.func28, Try.ntmps28
    go_wp2_with fail
    go_ret3
    exact ⟨rfl, rfl⟩
  have d1 : decide (s < 0) = false := by simp; omega
  by_cases h2 : 63 < s
  · have d2 : decide ((63 : Int) < s) = true := by simp; omega
    clear h
    go_enter Try.func28, Try.ntmps28
    go_wp2_with fail
    go_ret3
    exact ⟨rfl, rfl⟩
  have d2 : decide ((63 : Int) < s) = false := by simp; omega
  by_cases h3 : b < 0
  · have d3 : decide (b < 0) = true := by simp; omega
    clear h
    go_enter Try.func28, Try.ntmps28
    go_wp2_with fail
    go_ret3
    exact ⟨rfl, rfl⟩
  have d3 : decide (b < 0) = false := by simp; omega
  have h4 : 1 < b := by omega
  have d4 : decide ((1 : Int) < b) = true := by simp; omega
  clear h
  go_enter Try.func28, Try.ntmps28
  go_wp2_with fail
  go_ret3
  exact ⟨rfl, rfl⟩
theorem rstep_any (s b : Int) (w : World) :
    Calls Try.prog 28 #[.int .i64 s, .int .i64 b] w fun e w' => e = .returned (stepT s b) ∧ Below w.heap.size w w' := by
  unfold stepT
  by_cases h : inr s b
  · rw [if_pos h]
    have h' := h
    unfold inr at h'
    have := rstep_in s.toNat b.toNat (by omega) (by omega) w
    rw [show ((s.toNat : Nat) : Int) = s by omega, show ((b.toNat : Nat) : Int) = b by omega] at this
    exact this
  · rw [if_neg h]
    exact (rstep_out s b h w).mono fun e w' ⟨h1, h2⟩ => ⟨h1, by subst h2; exact Below.refl _ _⟩
/-- How many symbols a message has. -/
def symN (n : Int) : Int := if n < 0 ∨ 1100 < n then 0 else 16 * n + 12
theorem symbols_any (n : Int) (w : World) :
    Calls Try.prog 33 #[.int .i64 n] w fun e w' => e = .returned (.int .i64 (symN n)) ∧ w = w' := by
  have S := Lib.hid (show symN n = if n < 0 ∨ 1100 < n then 0 else 16 * n + 12 from rfl)
  by_cases h1 : n < 0
  · have d1 : decide (n < 0) = true := by simp; omega
    go_enter Try.func33, Try.ntmps33
    go_wp2_with fail
    go_ret
    exact ⟨by rw [S.out, if_pos (Or.inl h1)]; rfl, rfl⟩
  have d1 : decide (n < 0) = false := by simp; omega
  by_cases h2 : 1100 < n
  · have d2 : decide ((1100 : Int) < n) = true := by simp; omega
    go_enter Try.func33, Try.ntmps33
    go_wp2_with fail
    go_ret
    exact ⟨by rw [S.out, if_pos (Or.inr h2)]; rfl, rfl⟩
  have d2 : decide ((1100 : Int) < n) = false := by simp; omega
  have HR := Lib.hid (show symN n = 16 * n + 12 by rw [S.out, if_neg (by omega)])
  have HE := Lib.hid (show 2 * (8 * n + 6) = 16 * n + 12 by omega)
  go_enter Try.func33, Try.ntmps33
  go_wp2_with fail
  go_ret
  exact ⟨by rw [HR.out]; first | rfl | (rw [← HE.out]; rfl), rfl⟩
theorem rsymbols_any (n : Int) (w : World) :
    Calls Try.prog 26 #[.int .i64 n] w fun e w' => e = .returned (.int .i64 (symN n)) ∧ w = w' := by
  have S := Lib.hid (show symN n = if n < 0 ∨ 1100 < n then 0 else 16 * n + 12 from rfl)
  by_cases h1 : n < 0
  · have d1 : decide (n < 0) = true := by simp; omega
    go_enter Try.func26, Try.ntmps26
    go_wp2_with fail
    go_ret
    exact ⟨by rw [S.out, if_pos (Or.inl h1)]; rfl, rfl⟩
  have d1 : decide (n < 0) = false := by simp; omega
  by_cases h2 : 1100 < n
  · have d2 : decide ((1100 : Int) < n) = true := by simp; omega
    go_enter Try.func26, Try.ntmps26
    go_wp2_with fail
    go_ret
    exact ⟨by rw [S.out, if_pos (Or.inr h2)]; rfl, rfl⟩
  have d2 : decide ((1100 : Int) < n) = false := by simp; omega
  have HR := Lib.hid (show symN n = 16 * n + 12 by rw [S.out, if_neg (by omega)])
  have HE := Lib.hid (show 2 * (8 * n + 6) = 16 * n + 12 by omega)
  go_enter Try.func26, Try.ntmps26
  go_wp2_with fail
  go_ret
  exact ⟨by rw [HR.out]; first | rfl | (rw [← HE.out]; rfl), rfl⟩
/-- In how many symbols a step differs from 0 1. -/
def dfr (a b : Int) : Nat := (if a = 0 then 0 else 1) + (if b = 1 then 0 else 1)
end Go.Proofs.Ytgfihljledmaaaa
