/- FixedAlgebra: of all int64 numbers between -2^60 and 2^60 the program's Mul is commutative, One is neutral, signs and quotients are as the document says. The condition: the package's table of coefficients starts as the program's text lays it (tied by the card). -/
import Derived.Test.YtdbhplmjkkegmaaDoorLaid
import Derived.Test.YtdbhplmjkkegmaaDoorCards
import Derived.Test.YtdbhplmjkkegmaaDoorTie
namespace Go.Proofs.YtdbhplmjkkegmaaDoor
open Go.ChangeShapes Go.WideShapes Go.ChangeAt Go.RowKit
set_option linter.unusedVariables false

theorem bt {w a b : World} (h : Below w.heap.size w a) (k : Below a.heap.size a b) : Below w.heap.size w b := h.trans (k.mono h.size)
theorem near_yes (a b m : Int) (h1 : a - m ≤ b) (h2 : b - m ≤ a) (l1 : -9223372036854775808 ≤ a - m) (l2 : a - m ≤ 9223372036854775807) (l3 : -9223372036854775808 ≤ b - m) (l4 : b - m ≤ 9223372036854775807) (w : World) :
    Calls Tryd.prog 28 #[.int .i64 a, .int .i64 b, .int .i64 m] w fun e w' => e = .returned (.bool true) ∧ w = w' := by
  go_enter Tryd.func28, Tryd.ntmps28
  go_wp2
  go_ret
  exact ⟨rfl, rfl⟩

namespace Alg
theorem comm (a b : Int) : mulV b a = mulV a b ∧ mulE b a = mulE a b := by unfold mulV mulE; rw [Int.mul_comm]; exact ⟨rfl, rfl⟩
theorem rnd_one (a : Int) : Fix.rnd (a * 1073741824) 1073741824 = a := by unfold Fix.rnd; omega
theorem one (a : Int) (h0 : -1152921504606846976 ≤ a) (h1 : a ≤ 1152921504606846976) : mulV a 1073741824 = a ∧ mulE a 1073741824 = 0 := by
  unfold mulV mulE
  rw [rnd_one]
  unfold Fix.valOf Fix.errOf
  have f : Fix.fits a := ⟨by omega, by omega⟩
  rw [if_pos f, if_pos f]
  exact ⟨rfl, rfl⟩
theorem err (a b : Int) : mulE a b = 0 ∨ mulE a b = 7 := by unfold mulE Fix.errOf; split <;> simp
theorem neg (a b : Int) (e : mulE a b = 0) (h0 : -1152921504606846976 < mulV a b) (h1 : mulV a b < 1152921504606846976) :
    mulE (-a) b = 0 ∧ mulV (-a) b - 1 ≤ -mulV a b ∧ -mulV a b - 1 ≤ mulV (-a) b := by
  have f : Fix.fits (Fix.rnd (a * b) 1073741824) := by
    unfold mulE Fix.errOf at e
    split at e
    · assumption
    · cases e
  have v : mulV a b = Fix.rnd (a * b) 1073741824 := by unfold mulV Fix.valOf; rw [if_pos f]
  rw [v] at h0 h1
  have n : -a * b = -(a * b) := Int.neg_mul a b
  have r : Fix.rnd (-(a * b)) 1073741824 - 1 ≤ -Fix.rnd (a * b) 1073741824 ∧ -Fix.rnd (a * b) 1073741824 - 1 ≤ Fix.rnd (-(a * b)) 1073741824 := by unfold Fix.rnd; omega
  have g : Fix.fits (Fix.rnd (-(a * b)) 1073741824) := ⟨by omega, by omega⟩
  rw [v]
  unfold mulV mulE
  rw [n]
  unfold Fix.valOf Fix.errOf
  rw [if_pos g, if_pos g]
  exact ⟨rfl, r⟩
theorem divErr (a b : Int) (h : Fix.ratioE a 1073741824 b ≠ 0) : Fix.ratioV a 1073741824 b = 0 := by
  unfold Fix.ratioE Fix.errOf at h
  unfold Fix.ratioV Fix.valOf
  split
  · rfl
  · rename_i c
    rw [if_neg c] at h
    split at h
    · exact absurd rfl h
    · rename_i f
      rw [if_neg f]
theorem rnd_near (n d : Int) (hd : 0 < d) : 2 * (Fix.rnd n d * d) ≤ 2 * n + d ∧ 2 * n - d < 2 * (Fix.rnd n d * d) := by
  unfold Fix.rnd
  have a := Int.ediv_mul_le (2 * n + d) (show 2 * d ≠ 0 by omega)
  have b := Int.lt_ediv_add_one_mul_self (2 * n + d) (show 0 < 2 * d by omega)
  generalize (2 * n + d) / (2 * d) = q at *
  have e : q * (2 * d) = 2 * (q * d) := by grind
  have e2 : (q + 1) * (2 * d) = 2 * (q * d) + 2 * d := by grind
  omega
theorem back (a b : Int) (a0 : -1152921504606846976 ≤ a) (a1 : a ≤ 1152921504606846976) (b0 : -1152921504606846976 ≤ b) (b1 : b ≤ 1152921504606846976) (e : Fix.ratioE a 1073741824 b = 0) :
    mulE (Fix.ratioV a 1073741824 b) b = 0 ∧ (b < 0 → mulV (Fix.ratioV a 1073741824 b) b - (-b / 2147483648 + 1) ≤ a ∧ a - (-b / 2147483648 + 1) ≤ mulV (Fix.ratioV a 1073741824 b) b) ∧
      (0 ≤ b → mulV (Fix.ratioV a 1073741824 b) b - (b / 2147483648 + 1) ≤ a ∧ a - (b / 2147483648 + 1) ≤ mulV (Fix.ratioV a 1073741824 b) b) ∧ -2305843009213693952 ≤ mulV (Fix.ratioV a 1073741824 b) b ∧ mulV (Fix.ratioV a 1073741824 b) b ≤ 2305843009213693952 := by
  have c : b ≠ 0 := by
    intro h
    unfold Fix.ratioE at e
    rw [if_pos h] at e
    cases e
  have f : Fix.fits (Fix.ratioM a 1073741824 b) := by
    unfold Fix.ratioE Fix.errOf at e
    rw [if_neg c] at e
    split at e
    · assumption
    · cases e
  have v : Fix.ratioV a 1073741824 b = Fix.ratioM a 1073741824 b := by unfold Fix.ratioV Fix.valOf; rw [if_neg c, if_pos f]
  have z : (b < 0 → 2 * (Fix.ratioM a 1073741824 b * b) ≤ 2 * (a * 1073741824) + -b ∧ 2 * (a * 1073741824) - -b ≤ 2 * (Fix.ratioM a 1073741824 b * b)) ∧
      (0 < b → 2 * (Fix.ratioM a 1073741824 b * b) ≤ 2 * (a * 1073741824) + b ∧ 2 * (a * 1073741824) - b ≤ 2 * (Fix.ratioM a 1073741824 b * b)) := by
    unfold Fix.ratioM
    constructor
    · intro h
      rw [if_pos h]
      have := rnd_near (-(a * 1073741824)) (-b) (by omega)
      rw [Int.mul_neg] at this
      omega
    · intro h
      rw [if_neg (by omega)]
      have := rnd_near (a * 1073741824) b h
      omega
  rw [v]
  generalize Fix.ratioM a 1073741824 b = d at *
  unfold mulV mulE
  generalize d * b = db at *
  have g : Fix.fits (Fix.rnd db 1073741824) := by unfold Fix.rnd; exact ⟨by omega, by omega⟩
  unfold Fix.valOf Fix.errOf
  rw [if_pos g, if_pos g]
  unfold Fix.rnd
  refine ⟨rfl, fun h => ?_, fun h => ?_, ?_, ?_⟩
  all_goals omega
theorem size_neg (b : Int) (b0 : -1152921504606846976 ≤ b) (h : b < 0) : wrap64 (wrap64 (-(b.tdiv 2147483648)) + 1) = -b / 2147483648 + 1 := by
  have e : -(b.tdiv 2147483648) = -b / 2147483648 := by
    rw [← Int.neg_tdiv, Int.tdiv_eq_ediv_of_nonneg (by omega)]
  rw [e]
  unfold wrap64
  omega
end Alg

theorem alg_far (a b : Int) (ha : Fix.fits a) (hb : Fix.fits b) (h : a < -1152921504606846976 ∨ 1152921504606846976 < a ∨ b < -1152921504606846976 ∨ 1152921504606846976 < b) (w : World) (hs : Ser w) :
    Calls Tryd.prog 7 #[.int .i64 a, .int .i64 b] w fun e w' => e = .returned (.bool true) ∧ Below w.heap.size w w' := by
  have AW := Lib.hid (fun w hs => awake_any w hs)
  have HS := Lib.hid hs
  clear hs
  by_cases h1 : a < -1152921504606846976
  · go_enter Tryd.func7, Tryd.ntmps7
    go_wp2_with fail
    refine (AW.out _ HS.out).mono ?_
    rintro e w' ⟨rfl, hb⟩
    go_wp2_with fail
    go_ret
    exact ⟨rfl, hb⟩
  · have h1' : decide (a < -1152921504606846976) = false := by simpa using h1
    by_cases h2 : 1152921504606846976 < a
    · go_enter Tryd.func7, Tryd.ntmps7
      go_wp2_with fail
      refine (AW.out _ HS.out).mono ?_
      rintro e w' ⟨rfl, hb⟩
      go_wp2_with fail
      go_ret
      exact ⟨rfl, hb⟩
    · have h2' : decide (1152921504606846976 < a) = false := by simpa using h2
      by_cases h3 : b < -1152921504606846976
      · go_enter Tryd.func7, Tryd.ntmps7
        go_wp2_with fail
        refine (AW.out _ HS.out).mono ?_
        rintro e w' ⟨rfl, hb⟩
        go_wp2_with fail
        go_ret
        exact ⟨rfl, hb⟩
      · have h3' : decide (b < -1152921504606846976) = false := by simpa using h3
        have h4 : 1152921504606846976 < b := by omega
        clear h
        go_enter Tryd.func7, Tryd.ntmps7
        go_wp2_with fail
        refine (AW.out _ HS.out).mono ?_
        rintro e w' ⟨rfl, hb⟩
        go_wp2_with fail
        go_ret
        exact ⟨rfl, hb⟩

set_option maxHeartbeats 4000000 in
theorem alg_near (a b : Int) (a0 : -1152921504606846976 ≤ a) (a1 : a ≤ 1152921504606846976) (b0 : -1152921504606846976 ≤ b) (b1 : b ≤ 1152921504606846976) (w : World) (hs : Ser w) :
    Calls Tryd.prog 7 #[.int .i64 a, .int .i64 b] w fun e w' => e = .returned (.bool true) ∧ Below w.heap.size w w' := by
  have ha : Fix.fits a := ⟨by omega, by omega⟩
  have hb : Fix.fits b := ⟨by omega, by omega⟩
  have hn : Fix.fits (-a) := ⟨by omega, by omega⟩
  have M1 := Lib.hid (fun w => mul_any a b ha hb w)
  have M2 := Lib.hid (fun w => mul_any b a hb ha w)
  have M3 := Lib.hid (fun w => mul_any a 1073741824 ha ⟨by omega, by omega⟩ w)
  rw [(Alg.comm a b).1, (Alg.comm a b).2] at M2
  rw [(Alg.one a a0 a1).1, (Alg.one a a0 a1).2] at M3
  have M4 := Lib.hid (fun w => mul_any (-a) b hn hb w)
  have DV := Lib.hid (fun w => div_any a b ha hb w)
  have M5 := Lib.hid (fun w => mul_any (Fix.ratioV a 1073741824 b) b (Fix.ratioV_fits _ _ _) hb w)
  have er := Alg.err a b
  have ng := Alg.neg a b
  have de := Alg.divErr a b
  have bk := Alg.back a b a0 a1 b0 b1
  have pf := mulV_fits a b
  obtain ⟨pf0, pf1⟩ := pf
  generalize mulV (Fix.ratioV a 1073741824 b) b = back at *
  generalize mulE (Fix.ratioV a 1073741824 b) b = backE at *
  generalize Fix.ratioV a 1073741824 b = d at *
  generalize Fix.ratioE a 1073741824 b = dE at *
  generalize mulV (-a) b = m at *
  generalize mulE (-a) b = mE at *
  generalize mulV a b = p at *
  generalize mulE a b = pE at *
  have AW := Lib.hid (fun w hs => awake_any w hs)
  have NY := Lib.hid near_yes
  have HS := Lib.hid hs
  have NG := Lib.hid ng
  have DE := Lib.hid de
  have BK := Lib.hid bk
  have d1 : decide (a < -1152921504606846976) = false := by simp; omega
  have d2 : decide (1152921504606846976 < a) = false := by simp; omega
  have d3 : decide (b < -1152921504606846976) = false := by simp; omega
  have d4 : decide (1152921504606846976 < b) = false := by simp; omega
  have x1 : (a == a) = true := by simp
  have x2 : (p == p) = true := by simp
  have x3 : (pE == pE) = true := by simp
  have z0 : ((7 : Int) == 0) = false := by decide
  clear hs ng de bk
  rcases er with rfl | rfl
  · by_cases c1 : -1152921504606846976 < p
    · by_cases c2 : p < 1152921504606846976
      · obtain ⟨j0, j1, j2⟩ := NG.out rfl c1 c2
        subst j0
        have N1 := Lib.hid (fun w => NY.out m (-p) 1 j1 j2 (by omega) (by omega) (by omega) (by omega) w)
        by_cases e0 : dE = 0
        · obtain ⟨k0, k1, k2, k3, k4⟩ := BK.out e0
          subst e0 k0
          by_cases bn : b < 0
          · obtain ⟨q1, q2⟩ := k1 bn
            clear k1 k2
            have sz := Alg.size_neg b b0 bn
            have N2 := Lib.hid (fun w => NY.out back a (-b / 2147483648 + 1) q1 q2 (by omega) (by omega) (by omega) (by omega) w)
            go_enter Tryd.func7, Tryd.ntmps7
            go_wp2_with fail
            refine (M1.out _).mono ?_
            rintro e w' ⟨rfl, n1, rfl⟩
            go_wp2_with fail
            refine (M2.out _).mono ?_
            rintro e w' ⟨rfl, n2, rfl⟩
            go_wp2_with fail
            refine (M3.out _).mono ?_
            rintro e w' ⟨rfl, n3, rfl⟩
            go_wp2_with fail
            refine (M4.out _).mono ?_
            rintro e w' ⟨rfl, n4, rfl⟩
            go_wp2_with fail
            refine (N1.out _).mono ?_
            rintro e w' ⟨rfl, rfl⟩
            go_wp2_with fail
            refine (DV.out _).mono ?_
            rintro e w' ⟨rfl, n5, rfl⟩
            go_wp2_with fail
            refine (M5.out _).mono ?_
            rintro e w' ⟨rfl, n6, rfl⟩
            go_wp2_with fail
            refine (N2.out _).mono ?_
            rintro e w' ⟨rfl, rfl⟩
            go_wp2_with fail
            refine (AW.out _ (HS.out.drewN _)).mono ?_
            rintro e w' ⟨rfl, hb'⟩
            go_wp2_with fail
            go_ret
            exact ⟨rfl, bt (below_drewN (Below.refl _ _) _) hb'⟩
          · obtain ⟨q1, q2⟩ := k2 (by omega)
            clear k1 k2
            have bn' : decide (b < 0) = false := by simp; omega
            have bp : 0 ≤ b := by omega
            have N2 := Lib.hid (fun w => NY.out back a (b / 2147483648 + 1) q1 q2 (by omega) (by omega) (by omega) (by omega) w)
            go_enter Tryd.func7, Tryd.ntmps7
            go_wp2_with fail
            refine (M1.out _).mono ?_
            rintro e w' ⟨rfl, n7, rfl⟩
            go_wp2_with fail
            refine (M2.out _).mono ?_
            rintro e w' ⟨rfl, n8, rfl⟩
            go_wp2_with fail
            refine (M3.out _).mono ?_
            rintro e w' ⟨rfl, n9, rfl⟩
            go_wp2_with fail
            refine (M4.out _).mono ?_
            rintro e w' ⟨rfl, n10, rfl⟩
            go_wp2_with fail
            refine (N1.out _).mono ?_
            rintro e w' ⟨rfl, rfl⟩
            go_wp2_with fail
            refine (DV.out _).mono ?_
            rintro e w' ⟨rfl, n11, rfl⟩
            go_wp2_with fail
            refine (M5.out _).mono ?_
            rintro e w' ⟨rfl, n12, rfl⟩
            go_wp2_with fail
            refine (N2.out _).mono ?_
            rintro e w' ⟨rfl, rfl⟩
            go_wp2_with fail
            refine (AW.out _ (HS.out.drewN _)).mono ?_
            rintro e w' ⟨rfl, hb'⟩
            go_wp2_with fail
            go_ret
            exact ⟨rfl, bt (below_drewN (Below.refl _ _) _) hb'⟩
        · have dz := DE.out e0
          subst dz
          have e1 : (dE == 0) = false := by simpa using e0
          have e2 : (dE != 0) = true := by simpa using e0
          go_enter Tryd.func7, Tryd.ntmps7
          go_wp2_with fail
          refine (M1.out _).mono ?_
          rintro e w' ⟨rfl, n13, rfl⟩
          go_wp2_with fail
          refine (M2.out _).mono ?_
          rintro e w' ⟨rfl, n14, rfl⟩
          go_wp2_with fail
          refine (M3.out _).mono ?_
          rintro e w' ⟨rfl, n15, rfl⟩
          go_wp2_with fail
          refine (M4.out _).mono ?_
          rintro e w' ⟨rfl, n16, rfl⟩
          go_wp2_with fail
          refine (N1.out _).mono ?_
          rintro e w' ⟨rfl, rfl⟩
          go_wp2_with fail
          refine (DV.out _).mono ?_
          rintro e w' ⟨rfl, n17, rfl⟩
          go_wp2_with fail
          refine (AW.out _ (HS.out.drewN _)).mono ?_
          rintro e w' ⟨rfl, hb'⟩
          go_wp2_with fail
          go_ret
          exact ⟨rfl, bt (below_drewN (Below.refl _ _) _) hb'⟩
      · have c2' : decide (p < 1152921504606846976) = false := by simpa using c2
        by_cases e0 : dE = 0
        · obtain ⟨k0, k1, k2, k3, k4⟩ := BK.out e0
          subst e0 k0
          by_cases bn : b < 0
          · obtain ⟨q1, q2⟩ := k1 bn
            clear k1 k2
            have sz := Alg.size_neg b b0 bn
            have N2 := Lib.hid (fun w => NY.out back a (-b / 2147483648 + 1) q1 q2 (by omega) (by omega) (by omega) (by omega) w)
            go_enter Tryd.func7, Tryd.ntmps7
            go_wp2_with fail
            refine (M1.out _).mono ?_
            rintro e w' ⟨rfl, n18, rfl⟩
            go_wp2_with fail
            refine (M2.out _).mono ?_
            rintro e w' ⟨rfl, n19, rfl⟩
            go_wp2_with fail
            refine (M3.out _).mono ?_
            rintro e w' ⟨rfl, n20, rfl⟩
            go_wp2_with fail
            refine (DV.out _).mono ?_
            rintro e w' ⟨rfl, n21, rfl⟩
            go_wp2_with fail
            refine (M5.out _).mono ?_
            rintro e w' ⟨rfl, n22, rfl⟩
            go_wp2_with fail
            refine (N2.out _).mono ?_
            rintro e w' ⟨rfl, rfl⟩
            go_wp2_with fail
            refine (AW.out _ (HS.out.drewN _)).mono ?_
            rintro e w' ⟨rfl, hb'⟩
            go_wp2_with fail
            go_ret
            exact ⟨rfl, bt (below_drewN (Below.refl _ _) _) hb'⟩
          · obtain ⟨q1, q2⟩ := k2 (by omega)
            clear k1 k2
            have bn' : decide (b < 0) = false := by simp; omega
            have bp : 0 ≤ b := by omega
            have N2 := Lib.hid (fun w => NY.out back a (b / 2147483648 + 1) q1 q2 (by omega) (by omega) (by omega) (by omega) w)
            go_enter Tryd.func7, Tryd.ntmps7
            go_wp2_with fail
            refine (M1.out _).mono ?_
            rintro e w' ⟨rfl, n23, rfl⟩
            go_wp2_with fail
            refine (M2.out _).mono ?_
            rintro e w' ⟨rfl, n24, rfl⟩
            go_wp2_with fail
            refine (M3.out _).mono ?_
            rintro e w' ⟨rfl, n25, rfl⟩
            go_wp2_with fail
            refine (DV.out _).mono ?_
            rintro e w' ⟨rfl, n26, rfl⟩
            go_wp2_with fail
            refine (M5.out _).mono ?_
            rintro e w' ⟨rfl, n27, rfl⟩
            go_wp2_with fail
            refine (N2.out _).mono ?_
            rintro e w' ⟨rfl, rfl⟩
            go_wp2_with fail
            refine (AW.out _ (HS.out.drewN _)).mono ?_
            rintro e w' ⟨rfl, hb'⟩
            go_wp2_with fail
            go_ret
            exact ⟨rfl, bt (below_drewN (Below.refl _ _) _) hb'⟩
        · have dz := DE.out e0
          subst dz
          have e1 : (dE == 0) = false := by simpa using e0
          have e2 : (dE != 0) = true := by simpa using e0
          go_enter Tryd.func7, Tryd.ntmps7
          go_wp2_with fail
          refine (M1.out _).mono ?_
          rintro e w' ⟨rfl, n28, rfl⟩
          go_wp2_with fail
          refine (M2.out _).mono ?_
          rintro e w' ⟨rfl, n29, rfl⟩
          go_wp2_with fail
          refine (M3.out _).mono ?_
          rintro e w' ⟨rfl, n30, rfl⟩
          go_wp2_with fail
          refine (DV.out _).mono ?_
          rintro e w' ⟨rfl, n31, rfl⟩
          go_wp2_with fail
          refine (AW.out _ (HS.out.drewN _)).mono ?_
          rintro e w' ⟨rfl, hb'⟩
          go_wp2_with fail
          go_ret
          exact ⟨rfl, bt (below_drewN (Below.refl _ _) _) hb'⟩
    · have c1' : decide (-1152921504606846976 < p) = false := by simpa using c1
      by_cases e0 : dE = 0
      · obtain ⟨k0, k1, k2, k3, k4⟩ := BK.out e0
        subst e0 k0
        by_cases bn : b < 0
        · obtain ⟨q1, q2⟩ := k1 bn
          clear k1 k2
          have sz := Alg.size_neg b b0 bn
          have N2 := Lib.hid (fun w => NY.out back a (-b / 2147483648 + 1) q1 q2 (by omega) (by omega) (by omega) (by omega) w)
          go_enter Tryd.func7, Tryd.ntmps7
          go_wp2_with fail
          refine (M1.out _).mono ?_
          rintro e w' ⟨rfl, n32, rfl⟩
          go_wp2_with fail
          refine (M2.out _).mono ?_
          rintro e w' ⟨rfl, n33, rfl⟩
          go_wp2_with fail
          refine (M3.out _).mono ?_
          rintro e w' ⟨rfl, n34, rfl⟩
          go_wp2_with fail
          refine (DV.out _).mono ?_
          rintro e w' ⟨rfl, n35, rfl⟩
          go_wp2_with fail
          refine (M5.out _).mono ?_
          rintro e w' ⟨rfl, n36, rfl⟩
          go_wp2_with fail
          refine (N2.out _).mono ?_
          rintro e w' ⟨rfl, rfl⟩
          go_wp2_with fail
          refine (AW.out _ (HS.out.drewN _)).mono ?_
          rintro e w' ⟨rfl, hb'⟩
          go_wp2_with fail
          go_ret
          exact ⟨rfl, bt (below_drewN (Below.refl _ _) _) hb'⟩
        · obtain ⟨q1, q2⟩ := k2 (by omega)
          clear k1 k2
          have bn' : decide (b < 0) = false := by simp; omega
          have bp : 0 ≤ b := by omega
          have N2 := Lib.hid (fun w => NY.out back a (b / 2147483648 + 1) q1 q2 (by omega) (by omega) (by omega) (by omega) w)
          go_enter Tryd.func7, Tryd.ntmps7
          go_wp2_with fail
          refine (M1.out _).mono ?_
          rintro e w' ⟨rfl, n37, rfl⟩
          go_wp2_with fail
          refine (M2.out _).mono ?_
          rintro e w' ⟨rfl, n38, rfl⟩
          go_wp2_with fail
          refine (M3.out _).mono ?_
          rintro e w' ⟨rfl, n39, rfl⟩
          go_wp2_with fail
          refine (DV.out _).mono ?_
          rintro e w' ⟨rfl, n40, rfl⟩
          go_wp2_with fail
          refine (M5.out _).mono ?_
          rintro e w' ⟨rfl, n41, rfl⟩
          go_wp2_with fail
          refine (N2.out _).mono ?_
          rintro e w' ⟨rfl, rfl⟩
          go_wp2_with fail
          refine (AW.out _ (HS.out.drewN _)).mono ?_
          rintro e w' ⟨rfl, hb'⟩
          go_wp2_with fail
          go_ret
          exact ⟨rfl, bt (below_drewN (Below.refl _ _) _) hb'⟩
      · have dz := DE.out e0
        subst dz
        have e1 : (dE == 0) = false := by simpa using e0
        have e2 : (dE != 0) = true := by simpa using e0
        go_enter Tryd.func7, Tryd.ntmps7
        go_wp2_with fail
        refine (M1.out _).mono ?_
        rintro e w' ⟨rfl, n42, rfl⟩
        go_wp2_with fail
        refine (M2.out _).mono ?_
        rintro e w' ⟨rfl, n43, rfl⟩
        go_wp2_with fail
        refine (M3.out _).mono ?_
        rintro e w' ⟨rfl, n44, rfl⟩
        go_wp2_with fail
        refine (DV.out _).mono ?_
        rintro e w' ⟨rfl, n45, rfl⟩
        go_wp2_with fail
        refine (AW.out _ (HS.out.drewN _)).mono ?_
        rintro e w' ⟨rfl, hb'⟩
        go_wp2_with fail
        go_ret
        exact ⟨rfl, bt (below_drewN (Below.refl _ _) _) hb'⟩
  · by_cases e0 : dE = 0
    · obtain ⟨k0, k1, k2, k3, k4⟩ := BK.out e0
      subst e0 k0
      by_cases bn : b < 0
      · obtain ⟨q1, q2⟩ := k1 bn
        clear k1 k2
        have sz := Alg.size_neg b b0 bn
        have N2 := Lib.hid (fun w => NY.out back a (-b / 2147483648 + 1) q1 q2 (by omega) (by omega) (by omega) (by omega) w)
        go_enter Tryd.func7, Tryd.ntmps7
        go_wp2_with fail
        refine (M1.out _).mono ?_
        rintro e w' ⟨rfl, n46, rfl⟩
        go_wp2_with fail
        refine (M2.out _).mono ?_
        rintro e w' ⟨rfl, n47, rfl⟩
        go_wp2_with fail
        refine (M3.out _).mono ?_
        rintro e w' ⟨rfl, n48, rfl⟩
        go_wp2_with fail
        refine (DV.out _).mono ?_
        rintro e w' ⟨rfl, n49, rfl⟩
        go_wp2_with fail
        refine (M5.out _).mono ?_
        rintro e w' ⟨rfl, n50, rfl⟩
        go_wp2_with fail
        refine (N2.out _).mono ?_
        rintro e w' ⟨rfl, rfl⟩
        go_wp2_with fail
        refine (AW.out _ (HS.out.drewN _)).mono ?_
        rintro e w' ⟨rfl, hb'⟩
        go_wp2_with fail
        go_ret
        exact ⟨rfl, bt (below_drewN (Below.refl _ _) _) hb'⟩
      · obtain ⟨q1, q2⟩ := k2 (by omega)
        clear k1 k2
        have bn' : decide (b < 0) = false := by simp; omega
        have bp : 0 ≤ b := by omega
        have N2 := Lib.hid (fun w => NY.out back a (b / 2147483648 + 1) q1 q2 (by omega) (by omega) (by omega) (by omega) w)
        go_enter Tryd.func7, Tryd.ntmps7
        go_wp2_with fail
        refine (M1.out _).mono ?_
        rintro e w' ⟨rfl, n51, rfl⟩
        go_wp2_with fail
        refine (M2.out _).mono ?_
        rintro e w' ⟨rfl, n52, rfl⟩
        go_wp2_with fail
        refine (M3.out _).mono ?_
        rintro e w' ⟨rfl, n53, rfl⟩
        go_wp2_with fail
        refine (DV.out _).mono ?_
        rintro e w' ⟨rfl, n54, rfl⟩
        go_wp2_with fail
        refine (M5.out _).mono ?_
        rintro e w' ⟨rfl, n55, rfl⟩
        go_wp2_with fail
        refine (N2.out _).mono ?_
        rintro e w' ⟨rfl, rfl⟩
        go_wp2_with fail
        refine (AW.out _ (HS.out.drewN _)).mono ?_
        rintro e w' ⟨rfl, hb'⟩
        go_wp2_with fail
        go_ret
        exact ⟨rfl, bt (below_drewN (Below.refl _ _) _) hb'⟩
    · have dz := DE.out e0
      subst dz
      have e1 : (dE == 0) = false := by simpa using e0
      have e2 : (dE != 0) = true := by simpa using e0
      go_enter Tryd.func7, Tryd.ntmps7
      go_wp2_with fail
      refine (M1.out _).mono ?_
      rintro e w' ⟨rfl, n56, rfl⟩
      go_wp2_with fail
      refine (M2.out _).mono ?_
      rintro e w' ⟨rfl, n57, rfl⟩
      go_wp2_with fail
      refine (M3.out _).mono ?_
      rintro e w' ⟨rfl, n58, rfl⟩
      go_wp2_with fail
      refine (DV.out _).mono ?_
      rintro e w' ⟨rfl, n59, rfl⟩
      go_wp2_with fail
      refine (AW.out _ (HS.out.drewN _)).mono ?_
      rintro e w' ⟨rfl, hb'⟩
      go_wp2_with fail
      go_ret
      exact ⟨rfl, bt (below_drewN (Below.refl _ _) _) hb'⟩

theorem alg_walk (a b : Int) (ha : (Lit.int .i64 a).wf = true) (hb : (Lit.int .i64 b).wf = true) (w : World) (hs : Ser w) :
    Calls Tryd.prog 7 #[.int .i64 a, .int .i64 b] w fun e w' => e = .returned (.bool true) ∧ Below w.heap.size w w' := by
  have h1 := bounds_i64 ha
  have h2 := bounds_i64 hb
  by_cases far : a < -1152921504606846976 ∨ 1152921504606846976 < a ∨ b < -1152921504606846976 ∨ 1152921504606846976 < b
  · exact alg_far a b h1 h2 far w hs
  · exact alg_near a b (by omega) (by omega) (by omega) (by omega) w hs

namespace fixedAlgebra
set_option maxRecDepth 100000 in
theorem lifted (os : Os) (started : os.Started) (H : Type) (enc : TypeId × Value → H) :
    ReturnsInHanded {} Tryd.checked os 7 .any (fun w args => (Rows.fixedAlgebraSpec.pre enc Tryd.prog Tryd.f7 [] false w args ∧ laidMetH Tryd.prog [("perigee/fixed.series", Rows.laid_perigee_fixed_series)] w) ∧ sizedMet enc Tryd.prog Tryd.f7 (OpenSpec.ofChange Rows.fixedAlgebraSpec) false w args)
      (Rows.fixedAlgebraSpec.post enc Tryd.prog Tryd.f7 false true false false) := by
  refine returnsInHanded_of_change_and (C := Tryd.checked) (X := fun w _ => laidMetH Tryd.prog [("perigee/fixed.series", Rows.laid_perigee_fixed_series)] w) (fun _ _ _ hh h => h.of_heap hh) own started (by kernel_rfl) Tryd.func7
    (ChangeSpec.witness_shaped (enc := enc) (C := Tryd.checked) (os := os) (X := fun w _ => laidMetH Tryd.prog [("perigee/fixed.series", Rows.laid_perigee_fixed_series)] w) false (World.doorLaid Tryd.prog 400 os) #[.int .i64 0, .int .i64 0] 8 rfl (World.shaped_of_RefB (by kernel_rfl) (by kernel_rfl)) (by kernel_rfl) (by kernel_rfl) (by kernel_rfl) (door_met os _)) ?_
  intro W base args ds gs before hval0 hW _ _ hL _
  have hval : ∀ (j : Nat) t v, Tryd.f7.params[j]? = some t → args[j]? = some v → Value.okWide Tryd.prog W .any base t v := hval0
  have hW' := hW
  obtain ⟨p, q, hA0, hV, rfl, hfz, hnd⟩ := hW
  have hA : DataW.TrodAll enc Tryd.prog W 0 (fun _ => true) true Tryd.f7.params.toList args.toList ds p := hA0
  rw [Tryd.params7] at hA hval
  obtain ⟨v0, vs0, d0, ds0, p0, q0, hargs, rfl, rfl, h0, r0⟩ := trodAll_cons hA
  obtain ⟨v1, vs1, d1, ds1, p1, q1, rfl, rfl, rfl, h1, r1⟩ := trodAll_cons r0
  obtain ⟨rfl, rfl, rfl⟩ := trodAll_nil r1
  obtain rfl : args = #[v0, v1] := by cases args; simp_all
  obtain ⟨rfl, rfl⟩ := trodVars_none hV
  obtain ⟨a0, rfl, rfl, rfl, w0⟩ := open_int Tryd.underlying2 (hval 0 2 v0 rfl rfl) h0
  obtain ⟨a1, rfl, rfl, rfl, w1⟩ := open_int Tryd.underlying2 (hval 1 2 v1 rfl rfl) h1
  clear hA0 hval0
  simp only [List.append_nil] at hW'
  refine (alg_walk a0 a1 w0 w1 W (ser_of hL)).mono fun e W' ⟨he, hg⟩ => ?_
  subst he
  exact ⟨_, rfl, post_of_below (pa := []) (pv := []) hW' (fun _ _ _ => trodAll_cons_mk (shut_bool Tryd.underlying4 _) trodAll_mk0) (fun sp _ => (trodAll_cons_mk (shut_int Tryd.underlying2 w0) (trodAll_cons_mk (shut_int Tryd.underlying2 w1) trodAll_mk0))) (fun _ _ => rfl) rfl
    hg (ok_one (by kernel_rfl) rfl (okWide_bool_mk Tryd.underlying4 _))⟩

theorem over : Rows.FixedAlgebraSaid :=
  OpenClaim.holds_of_wide 7 Tryd.f7 rfl rfl rfl rfl rfl rfl rfl ⟨rfl, rfl, rfl, rfl, rfl⟩ rfl rfl rfl rfl rfl (by kernel_rfl) Tryd.func7 (by kernel_rfl)
    (of_decide_eq_true (by kernel_rfl)) (by unfold Func.isWrapper; first | (rw [if_pos (by decide +kernel)]; kernel_rfl) | (rw [if_neg (by decide +kernel)]; exact ⟨rfl, rfl⟩))
    (fun os started H enc _ => lifted os started H enc)

theorem proved : Rows.FixedAlgebraCardSaid :=
  Claim7.holds_tied_plain_at .later [] [.data] true Rows.fixedAlgebraCard.stood.harness false
    over (fun _ h => by cases h) (by kernel_rfl) (fun _ h => by cases h) fixedAlgebra_row_tie rfl ⟨rfl, rfl⟩ (by kernel_rfl) rfl
    (fun f fn hf hfn => by
      obtain rfl : f = 7 := Option.some.inj ((show Tryd.prog.funcNamed "perigee/perigeelaw01.FixedAlgebra" = some 7 by kernel_rfl).symm.trans hf) |>.symm
      obtain rfl : fn = Tryd.f7 := (Option.some.inj (Tryd.func7.symm.trans hfn)).symm
      exact ⟨by kernel_rfl, fun j t ht => by
        have hall : (Tryd.f7.params.toList.all fun u => !Tryd.prog.wantsStandIn u) = true := by kernel_rfl
        have hm : t ∈ Tryd.f7.params.toList := by simpa using Array.mem_of_getElem? ht
        exact (show Tryd.prog.wantsStandIn t = false by simpa using List.all_eq_true.1 hall t hm)⟩)
    (by kernel_rfl)
#print axioms proved
end fixedAlgebra
end Go.Proofs.YtdbhplmjkkegmaaDoor
