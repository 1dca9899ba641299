/- The contract of math/bits.Div64 over this program: for a divisor above the upper half it returns quotient and remainder. -/
import Derived.Test.YtlniojmjakmcjaaDoorBits
import Derived.Test.YtlniojmjakmcjaaDoorDivMath
import Derived.Deep.QuietTactic
import Derived.Deep.DeepCutAuto
import Derived.Deep.CutBlock
import Derived.BigQuiet
namespace Go.Proofs.YtlniojmjakmcjaaDoor
open Go.RowKit
set_option linter.unusedVariables false

theorem u64_of {a b : Int} (h : a = b) : Value.int .u64 a = Value.int .u64 b := by rw [h]

set_option maxRecDepth 100000 in
set_option maxHeartbeats 1000000 in
theorem div64_big (hi lo y : Nat) (hy : y < 18446744073709551616) (hh : hi < y) (hl : lo < 18446744073709551616) (h0 : 0 < hi) (w : World) :
    Calls Tryd.prog 28 #[.int .u64 hi, .int .u64 lo, .int .u64 y] w fun e w' => e = .returned (.tuple #[.int .u64 (((hi * 18446744073709551616 + lo) / y : Nat) : Int), .int .u64 (((hi * 18446744073709551616 + lo) % y : Nat) : Int)]) ∧ w' = w := by
  obtain ⟨s, d, v1, v0, u, n1, n0, S⟩ := DivM.setup hi lo y hy hh hl
  have hs := S.hs
  have s63 := S.s63
  have d0 := S.d0
  have d1 := S.d1
  have hv := S.hv
  have v0lt := S.v0lt
  have v1lt := S.v1lt
  have v1ge := S.v1ge
  have ult := S.ult
  have n1lt := S.n1lt
  have n0lt := S.n0lt
  have e1 : IntKind.u64.wrap (64 - ((Lib.bitLen y : Nat) : Int)) = (s : Int) := by rw [IntKind.wrap_u64]; omega
  have e2 : min s 64 = s := by omega
  have e3 : IntKind.u64.wrap ((y : Int) * 2 ^ s) = (d : Int) := by
    have : (y : Int) * 2 ^ s = ((y * 2 ^ s : Nat) : Int) := by simp
    rw [this, ← S.hd]; exact wrapN d d1
  have e4 : (d : Int) / 4294967296 = (v1 : Int) := by omega
  have e5 : bits .and .u64 (d : Int) 4294967295 = (v0 : Int) := by rw [maskN d d1]; omega
  have e6 : IntKind.u64.wrap (64 - (s : Int)) = ((64 - s : Nat) : Int) := by rw [IntKind.wrap_u64]; omega
  have e7 : min (64 - s) 64 = 64 - s := by omega
  have e8 : bits .or .u64 (IntKind.u64.wrap ((hi : Int) * 2 ^ s)) ((lo : Int) / 2 ^ (64 - s)) = (u : Int) := by
    have h1 : (hi : Int) * 2 ^ s = ((hi * 2 ^ s : Nat) : Int) := by simp
    have h2 : (lo : Int) / 2 ^ (64 - s) = ((lo / 2 ^ (64 - s) : Nat) : Int) := by simp
    have h3 : lo / 2 ^ (64 - s) ≤ lo := Nat.div_le_self _ _
    rw [h1, h2, wrapN _ S.hhi, bits_or_u64_nat _ _ S.hhi (by omega), S.hu]
  have e9 : IntKind.u64.wrap ((lo : Int) * 2 ^ s) = ((n1 * 4294967296 + n0 : Nat) : Int) := by
    have h1 : (lo : Int) * 2 ^ s = ((lo * 2 ^ s : Nat) : Int) := by simp
    rw [h1, wrapM, S.hlo]
  have e10 : ((n1 : Int) * 4294967296 + (n0 : Int)) / 4294967296 = (n1 : Int) := by omega
  have e11 : bits .and .u64 ((n1 : Int) * 4294967296 + (n0 : Int)) 4294967295 = (n0 : Int) := by
    have : (n1 : Int) * 4294967296 + (n0 : Int) = ((n1 * 4294967296 + n0 : Nat) : Int) := by simp
    rw [this, maskN _ (by omega)]; omega
  obtain ⟨q, hq⟩ : ∃ q, q = u / v1 := ⟨_, rfl⟩
  obtain ⟨r, hr⟩ : ∃ r, r = u - q * v1 := ⟨_, rfl⟩
  have qle : q * v1 ≤ u := by rw [hq]; exact Nat.div_mul_le_self _ _
  have rI : (u : Int) - (q : Int) * (v1 : Int) = (r : Int) := by rw [hr, Int.ofNat_sub qle]; simp
  have RI := Lib.hid rI
  clear rI
  have i0 : DivM.Inv u v1 v0 n1 q r := by rw [hr, hq]; exact DivM.inv0 (by omega) (by omega) n1lt
  have q0 : q ≤ u := by rw [hq]; exact Nat.div_le_self _ _
  have e12 : IntKind.u64.wrap ((u : Int) / (v1 : Int)) = (q : Int) := by
    have : (u : Int) / (v1 : Int) = ((u / v1 : Nat) : Int) := rfl
    rw [this, ← hq]; exact wrapN q (by omega)
  have e13 : IntKind.u64.wrap ((u : Int) - IntKind.u64.wrap ((q : Int) * (v1 : Int))) = (r : Int) := by
    rw [mulN, wrapN _ (by omega), IntKind.wrap_u64]; omega
  clear hq hr
  have H := Lib.hid (show 64 = Lib.bitLen y + s from hs)
  clear hs hv
  go_enter Tryd.func28, Tryd.ntmps28
  have hS := Lib.hid S
  clear S
  have hult : u < v1 * 4294967296 + v0 := by have := hS.out.hv; omega
  obtain ⟨Q, hQ⟩ : ∃ Q, (u * 4294967296 + n1) / (v1 * 4294967296 + v0) = Q := ⟨_, rfl⟩
  have HQ := Lib.hid hQ
  have Qlt : Q < 4294967296 := by rw [← hQ]; exact DivM.dlt hult n1lt
  clear hQ
  go_upto_region 16 with (first | (go_at_call 45; refine (lz64_any _ _ (by omega) (by omega)).mono ?_; rintro e w' ⟨rfl, rfl⟩))
  go_upto_block 0 with fail
  go_cut [15] (fun a wx => a = .int .u64 Q ∧ w = wx)
  case first =>
    go_wp2_with fail
    go_loop [15, 16] (fun a b => ∃ q r : Nat, a = .int .u64 q ∧ b = .int .u64 r ∧ DivM.Inv u v1 v0 n1 q r) (fun a _ => (intOf a).toNat)
    case atStart => exact ⟨q, r, rfl, by rw [RI.out], i0⟩
    case round =>
      clear e1 e2 e3 e4 e5 e6 e7 e8 e9 e10 e11 e12 e13 d0 d1 s63 hy hh hl h0 qle i0 q0
      obtain ⟨q, r, rfl, rfl, i⟩ := hrel
      have iq := DivM.inv_q i v1ge (by omega)
      have ir := i.2.2
      by_cases c1 : 4294967296 ≤ q
      · have lt := DivM.bad1 hult n1lt c1
        have LT := Lib.hid lt
        have I := Lib.hid i
        clear lt i
        have c1' : (4294967296 : Int) ≤ (q : Int) := by omega
        clear c1
        by_cases c2 : 4294967296 ≤ r + v1
        · have c2' : (4294967296 : Int) ≤ (r : Int) + (v1 : Int) := by omega
          clear c2
          go_wp2_with fail
          go_meet
          have := DivM.out hult v0lt I.out LT.out (by omega)
          have q1 : ((q : Int) - 1) = ((q - 1 : Nat) : Int) := by omega
          exact ⟨by rw [q1, this, HQ.out], rfl⟩
        · have hr4 := Lib.hid (show r + v1 < 4294967296 by omega)
          have c2' : decide ((4294967296 : Int) ≤ (r : Int) + (v1 : Int)) = false := by simp; omega
          have c2'' : ¬ ((4294967296 : Int) ≤ (r : Int) + (v1 : Int)) := by omega
          clear c2 ir
          have q1 : ((q : Int) - 1) = ((q - 1 : Nat) : Int) := by omega
          have Q1 := Lib.hid q1
          clear q1
          go_wp2_with fail
          go_round
          case rel => exact ⟨q - 1, r + v1, by rw [Q1.out], by simp, DivM.dec I.out LT.out hr4.out⟩
          case measure => simp [intOf]; omega
      · have c1' : decide ((4294967296 : Int) ≤ (q : Int)) = false := by simp; omega
        have c1'' : ¬ ((4294967296 : Int) ≤ (q : Int)) := by omega
        have P0 := DivM.inv_q0 i v0lt (by omega)
        have I := Lib.hid i
        clear i
        obtain ⟨P, hP⟩ : ∃ P, P = q * v0 := ⟨_, rfl⟩
        rw [← hP] at P0
        have e1 : IntKind.u64.wrap ((q : Int) * (v0 : Int)) = (P : Int) := by rw [mulN, ← hP]; exact wrapN P P0
        have e2 : (q : Int) * (v0 : Int) = (P : Int) := by rw [mulN, ← hP]
        have hP' := Lib.hid hP
        clear hP
        by_cases c3 : 4294967296 * r + n1 < P
        · have LT := Lib.hid (DivM.bad2 hult I.out (by rw [← hP'.out]; exact c3))
          have c3' : (4294967296 : Int) * (r : Int) + (n1 : Int) < (P : Int) := by omega
          have qpos : 0 < q := Nat.lt_of_le_of_lt (Nat.zero_le _) LT.out
          clear c3
          by_cases c2 : 4294967296 ≤ r + v1
          · have c2' : (4294967296 : Int) ≤ (r : Int) + (v1 : Int) := by omega
            clear c2
            go_wp2_with fail
            go_meet
            have := DivM.out hult v0lt I.out LT.out (by omega)
            have q1 : ((q : Int) - 1) = ((q - 1 : Nat) : Int) := by omega
            exact ⟨by rw [q1, this, HQ.out], rfl⟩
          · have hr4 := Lib.hid (show r + v1 < 4294967296 by omega)
            have c2' : decide ((4294967296 : Int) ≤ (r : Int) + (v1 : Int)) = false := by simp; omega
            have c2'' : ¬ ((4294967296 : Int) ≤ (r : Int) + (v1 : Int)) := by omega
            clear c2 ir
            have q1 : ((q : Int) - 1) = ((q - 1 : Nat) : Int) := by omega
            have Q1 := Lib.hid q1
            clear q1
            go_wp2_with fail
            go_round
            case rel => exact ⟨q - 1, r + v1, by rw [Q1.out], by simp, DivM.dec I.out LT.out hr4.out⟩
            case measure => simp [intOf]; omega
        · have LT := Lib.hid (DivM.good hult I.out (by rw [← hP'.out]; omega))
          have c3' : decide ((4294967296 : Int) * (r : Int) + (n1 : Int) < (P : Int)) = false := by simp; omega
          have c3'' : ¬ ((4294967296 : Int) * (r : Int) + (n1 : Int) < (P : Int)) := by omega
          clear c3
          go_wp2_with fail
          go_meet
          exact ⟨by rw [LT.out, HQ.out], rfl⟩
  case rest =>
    obtain ⟨rfl, rfl⟩ := hcut
    clear e1 e3 e4 e5 e7 e8 e9 e10 e11 e12 e13 qle i0 q0 RI
    obtain ⟨R, hR⟩ : ∃ R, R = (u * 4294967296 + n1) % d := ⟨_, rfl⟩
    have hd2 : d = v1 * 4294967296 + v0 := hS.out.hv
    have f1 : IntKind.u64.wrap (IntKind.u64.wrap (IntKind.u64.wrap ((u : Int) * 4294967296) + (n1 : Int)) - IntKind.u64.wrap ((Q : Int) * (d : Int))) = (R : Int) := by
      rw [hR]; exact DivM.one ult d1 (by rw [← HQ.out, hd2])
    have Rlt : R < d := by rw [hR]; exact Nat.mod_lt _ (by omega)
    have hult2 : R < v1 * 4294967296 + v0 := by rw [← hd2]; exact Rlt
    have HR := Lib.hid hR
    have Hd2 := Lib.hid hd2
    clear hR hd2
    obtain ⟨q, hq⟩ : ∃ q, q = R / v1 := ⟨_, rfl⟩
    obtain ⟨r, hr⟩ : ∃ r, r = R - q * v1 := ⟨_, rfl⟩
    have qle : q * v1 ≤ R := by rw [hq]; exact Nat.div_mul_le_self _ _
    have rI : (R : Int) - (q : Int) * (v1 : Int) = (r : Int) := by rw [hr, Int.ofNat_sub qle]; simp
    have RI := Lib.hid rI
    clear rI
    have i0 : DivM.Inv R v1 v0 n0 q r := by rw [hr, hq]; exact DivM.inv0 (by omega) (by omega) n0lt
    have q0 : q ≤ R := by rw [hq]; exact Nat.div_le_self _ _
    have f2 : IntKind.u64.wrap ((R : Int) / (v1 : Int)) = (q : Int) := by
      have : (R : Int) / (v1 : Int) = ((R / v1 : Nat) : Int) := rfl
      rw [this, ← hq]; exact wrapN q (by omega)
    have f3 : IntKind.u64.wrap ((R : Int) - IntKind.u64.wrap ((q : Int) * (v1 : Int))) = (r : Int) := by
      rw [mulN, wrapN _ (by omega), IntKind.wrap_u64]; omega
    clear hq hr
    obtain ⟨Q2, hQ2⟩ : ∃ Q, (R * 4294967296 + n0) / (v1 * 4294967296 + v0) = Q := ⟨_, rfl⟩
    have Q2lt : Q2 < 4294967296 := by rw [← hQ2]; exact DivM.dlt hult2 n0lt
    have HQ2 := Lib.hid hQ2
    clear hQ2
    go_upto_region 23 with fail
    go_upto_block 2 with fail
    go_cut [18] (fun a wx => a = .int .u64 Q2 ∧ w = wx)
    case first =>
      go_wp2_with fail
      go_loop [18, 16] (fun a b => ∃ q r : Nat, a = .int .u64 q ∧ b = .int .u64 r ∧ DivM.Inv R v1 v0 n0 q r) (fun a _ => (intOf a).toNat)
      case atStart => exact ⟨q, r, rfl, by rw [RI.out], i0⟩
      case round =>
        clear e2 e6 f1 f2 f3 d0 d1 s63 hy hh hl h0 qle i0 q0
        obtain ⟨q, r, rfl, rfl, i⟩ := hrel
        have iq := DivM.inv_q i v1ge (by omega)
        have ir := i.2.2
        by_cases c1 : 4294967296 ≤ q
        · have lt := DivM.bad1 hult2 n0lt c1
          have LT := Lib.hid lt
          have I := Lib.hid i
          clear lt i
          have c1' : (4294967296 : Int) ≤ (q : Int) := by omega
          clear c1
          by_cases c2 : 4294967296 ≤ r + v1
          · have c2' : (4294967296 : Int) ≤ (r : Int) + (v1 : Int) := by omega
            clear c2
            go_wp2_with fail
            go_meet
            have := DivM.out hult2 v0lt I.out LT.out (by omega)
            have q1 : ((q : Int) - 1) = ((q - 1 : Nat) : Int) := by omega
            exact ⟨by rw [q1, this, HQ2.out], rfl⟩
          · have hr4 := Lib.hid (show r + v1 < 4294967296 by omega)
            have c2' : decide ((4294967296 : Int) ≤ (r : Int) + (v1 : Int)) = false := by simp; omega
            have c2'' : ¬ ((4294967296 : Int) ≤ (r : Int) + (v1 : Int)) := by omega
            clear c2 ir
            have q1 : ((q : Int) - 1) = ((q - 1 : Nat) : Int) := by omega
            have Q1 := Lib.hid q1
            clear q1
            go_wp2_with fail
            go_round
            case rel => exact ⟨q - 1, r + v1, by rw [Q1.out], by simp, DivM.dec I.out LT.out hr4.out⟩
            case measure => simp [intOf]; omega
        · have c1' : decide ((4294967296 : Int) ≤ (q : Int)) = false := by simp; omega
          have c1'' : ¬ ((4294967296 : Int) ≤ (q : Int)) := by omega
          have P0 := DivM.inv_q0 i v0lt (by omega)
          have I := Lib.hid i
          clear i
          obtain ⟨P, hP⟩ : ∃ P, P = q * v0 := ⟨_, rfl⟩
          rw [← hP] at P0
          have e1 : IntKind.u64.wrap ((q : Int) * (v0 : Int)) = (P : Int) := by rw [mulN, ← hP]; exact wrapN P P0
          have e2 : (q : Int) * (v0 : Int) = (P : Int) := by rw [mulN, ← hP]
          have hP' := Lib.hid hP
          clear hP
          by_cases c3 : 4294967296 * r + n0 < P
          · have LT := Lib.hid (DivM.bad2 hult2 I.out (by rw [← hP'.out]; exact c3))
            have c3' : (4294967296 : Int) * (r : Int) + (n0 : Int) < (P : Int) := by omega
            have qpos : 0 < q := Nat.lt_of_le_of_lt (Nat.zero_le _) LT.out
            clear c3
            by_cases c2 : 4294967296 ≤ r + v1
            · have c2' : (4294967296 : Int) ≤ (r : Int) + (v1 : Int) := by omega
              clear c2
              go_wp2_with fail
              go_meet
              have := DivM.out hult2 v0lt I.out LT.out (by omega)
              have q1 : ((q : Int) - 1) = ((q - 1 : Nat) : Int) := by omega
              exact ⟨by rw [q1, this, HQ2.out], rfl⟩
            · have hr4 := Lib.hid (show r + v1 < 4294967296 by omega)
              have c2' : decide ((4294967296 : Int) ≤ (r : Int) + (v1 : Int)) = false := by simp; omega
              have c2'' : ¬ ((4294967296 : Int) ≤ (r : Int) + (v1 : Int)) := by omega
              clear c2 ir
              have q1 : ((q : Int) - 1) = ((q - 1 : Nat) : Int) := by omega
              have Q1 := Lib.hid q1
              clear q1
              go_wp2_with fail
              go_round
              case rel => exact ⟨q - 1, r + v1, by rw [Q1.out], by simp, DivM.dec I.out LT.out hr4.out⟩
              case measure => simp [intOf]; omega
          · have LT := Lib.hid (DivM.good hult2 I.out (by rw [← hP'.out]; omega))
            have c3' : decide ((4294967296 : Int) * (r : Int) + (n0 : Int) < (P : Int)) = false := by simp; omega
            have c3'' : ¬ ((4294967296 : Int) * (r : Int) + (n0 : Int) < (P : Int)) := by omega
            clear c3
            go_wp2_with fail
            go_meet
            exact ⟨by rw [LT.out, HQ2.out], rfl⟩
    case rest =>
      obtain ⟨rfl, rfl⟩ := hcut
      clear f1 f2 f3 qle i0 q0 RI
      obtain ⟨R2, hR2⟩ : ∃ R2, R2 = (R * 4294967296 + n0) % d := ⟨_, rfl⟩
      have g1 : IntKind.u64.wrap (IntKind.u64.wrap (IntKind.u64.wrap ((R : Int) * 4294967296) + (n0 : Int)) - IntKind.u64.wrap ((Q2 : Int) * (d : Int))) = (R2 : Int) := by
        rw [hR2]; exact DivM.one Rlt d1 (by rw [← HQ2.out, Hd2.out])
      have HR2 := Lib.hid hR2
      clear hR2
      go_wp2_with fail
      go_ret2
      obtain ⟨fa, fb⟩ := DivM.final hS.out
      refine ⟨?_, rfl⟩
      rw [fa, fb, ← HR.out, ← HR2.out, Hd2.out, HQ.out, HQ2.out]
      simp

set_option maxHeartbeats 1000000 in
theorem div64_small (lo y : Nat) (hy : y < 18446744073709551616) (hl : lo < 18446744073709551616) (h0 : 0 < y) (w : World) :
    Calls Tryd.prog 28 #[.int .u64 0, .int .u64 lo, .int .u64 y] w fun e w' => e = .returned (.tuple #[.int .u64 ((lo / y : Nat) : Int), .int .u64 ((lo % y : Nat) : Int)]) ∧ ∃ n, w' = w.drewN n := by
  have y0 : ((y : Int) == 0) = false := by simp; omega
  have e1 : IntKind.u64.wrap ((lo : Int) / (y : Int)) = (lo : Int) / (y : Int) := by
    have : (lo : Int) / (y : Int) = ((lo / y : Nat) : Int) := rfl
    rw [this]; exact wrapN _ (by have := Nat.div_le_self lo y; omega)
  go_enter Tryd.func28, Tryd.ntmps28
  go_wp2
  go_quiet (fail)
  go_wp2
  go_ret2
  exact ⟨rfl, _, rfl⟩

theorem drewN_zero (w : World) : w.drewN 0 = w := rfl

/-- math/bits.Div64 for hi < y: the quotient and the remainder; nothing but draws has happened to the world. -/
theorem div64_any (hi lo y : Nat) (hy : y < 18446744073709551616) (hh : hi < y) (hl : lo < 18446744073709551616) (w : World) :
    Calls Tryd.prog 28 #[.int .u64 hi, .int .u64 lo, .int .u64 y] w fun e w' => e = .returned (.tuple #[.int .u64 (((hi * 18446744073709551616 + lo) / y : Nat) : Int), .int .u64 (((hi * 18446744073709551616 + lo) % y : Nat) : Int)]) ∧ ∃ n, w' = w.drewN n := by
  rcases Nat.eq_zero_or_pos hi with h | h
  · subst h
    rw [Nat.zero_mul, Nat.zero_add]
    exact div64_small lo y hy hl (by omega) w
  · exact (div64_big hi lo y hy hh hl h w).mono fun e w' ⟨he, hw⟩ => ⟨he, 0, hw⟩
end Go.Proofs.YtlniojmjakmcjaaDoor
