/- The contracts of package fixed's whole, Dot, Clamp over this program: the nearest integer of the sum of products, or the error, for all lists of int64. -/
import Derived.Test.YtlniojmjakmcjaaDoorWide
import Derived.Deep.RegionHeld3
import Derived.Deep.RegionLaw
import Derived.Deep.DeepCutAuto
namespace Go.Proofs.YtlniojmjakmcjaaDoor
open Go.RowKit
set_option linter.unusedVariables false

namespace Fix
def near29 (m : Nat) : Prop := m < 536870912 ∨ 18446744073172680704 ≤ m
instance (m : Nat) : Decidable (near29 m) := by unfold near29; infer_instance
def s64 (m : Nat) : Int := if m < 9223372036854775808 then m else (m : Int) - 18446744073709551616
/-- The quotient fits just where the words above it are all sign. -/
theorem whole_fits (z : Int) (h0 : -1569275433846670190958947355801916604025588861116008628224 ≤ z) (h1 : z < 1569275433846670190958947355801916604025588861116008628224) :
    (hi3 z = sg (mid3 z) ∧ near29 (mid3 z)) ↔ fits (z / 1073741824) := by
  have e1 : z = 18446744073709551616 * (z / 18446744073709551616) + (lo3 z : Int) := by unfold lo3; omega
  have l := lo3_lt z
  have m : (mid3 z : Int) = z / 18446744073709551616 % 18446744073709551616 := by unfold mid3; omega
  have h : (hi3 z : Int) = z / 18446744073709551616 / 18446744073709551616 % 18446744073709551616 := by unfold hi3; omega
  generalize lo3 z = L at *
  generalize mid3 z = M at *
  generalize hi3 z = H at *
  generalize z / 18446744073709551616 = Z at *
  unfold near29 sg fits
  subst e1
  have b0 : -85070591730234615865843651857942052864 ≤ Z := by omega
  have b1 : Z < 85070591730234615865843651857942052864 := by omega
  clear h0 h1
  constructor
  · rintro ⟨c, d⟩
    split at c <;> omega
  · rintro ⟨c, d⟩
    split <;> omega
theorem whole_val (z : Int) (h0 : -1569275433846670190958947355801916604025588861116008628224 ≤ z) (h1 : z < 1569275433846670190958947355801916604025588861116008628224)
    (hf : fits (z / 1073741824)) : wrap64 (((mid3 z * 17179869184 % 18446744073709551616 ||| lo3 z / 1073741824 : Nat)) : Int) = z / 1073741824 := by
  have e1 : z = 18446744073709551616 * (z / 18446744073709551616) + (lo3 z : Int) := by unfold lo3; omega
  have l := lo3_lt z
  have m : (mid3 z : Int) = z / 18446744073709551616 % 18446744073709551616 := by unfold mid3; omega
  have o : mid3 z * 17179869184 % 18446744073709551616 ||| lo3 z / 1073741824 = mid3 z * 17179869184 % 18446744073709551616 + lo3 z / 1073741824 := by
    have q : mid3 z * 17179869184 % 18446744073709551616 = mid3 z % 1073741824 * 17179869184 := by omega
    have := Nat.shiftLeft_add_eq_or_of_lt (show lo3 z / 1073741824 < 2 ^ 34 by simp; omega) (mid3 z % 1073741824)
    rw [Nat.shiftLeft_eq, show (2 : Nat) ^ 34 = 17179869184 from by decide, ← q] at this
    exact this.symm
  rw [o]
  generalize lo3 z = L at *
  generalize mid3 z = M at *
  generalize z / 18446744073709551616 = Z at *
  subst e1
  unfold fits at hf
  unfold wrap64
  omega
end Fix

set_option maxHeartbeats 1000000 in
theorem whole_any (z : Int) (h0 : -1569275433846670190958947355801916604025588861116008628224 ≤ z) (h1 : z < 1569275433846670190958947355801916604025588861116008628224) (w : World) :
    Calls Tryd.prog 40 #[W3 z] w fun e w' => e = .returned (.tuple #[.int .i64 (Fix.valOf (z / 1073741824)), .int .i64 (Fix.errOf (z / 1073741824))]) ∧ Below w.heap.size w w' := by
  have hf := Fix.whole_fits z h0 h1
  have hv := Fix.whole_val z h0 h1
  have ml := Fix.mid3_lt z
  have ll := Fix.lo3_lt z
  have S := Lib.hid (fun w => signs_any (Fix.mid3 z) (Fix.mid3_lt z) w)
  unfold Fix.valOf Fix.errOf W3
  generalize z / 1073741824 = q at *
  generalize Fix.mid3 z = M at *
  generalize Fix.hi3 z = H at *
  generalize Fix.lo3 z = L at *
  clear h0 h1 z
  obtain ⟨s, hs⟩ : ∃ s, Fix.sg M = s := ⟨_, rfl⟩
  rw [hs] at hf S
  have sl : s < 18446744073709551616 := by rw [← hs]; unfold Fix.sg; split <;> omega
  obtain ⟨i, hi⟩ : ∃ i, wrap64 (M : Int) = i := ⟨_, rfl⟩
  obtain ⟨u, hu⟩ : ∃ u : Nat, IntKind.u64.wrap (i / 536870912) = (u : Int) := ⟨(IntKind.u64.wrap (i / 536870912)).toNat, by rw [IntKind.wrap_u64]; omega⟩
  have hn : u = s ↔ Fix.near29 M := by
    have : (u : Int) = (i / 536870912) % 18446744073709551616 := by rw [← hu, IntKind.wrap_u64]
    rw [← hi] at this
    rw [← hs]
    unfold wrap64 at this
    unfold Fix.near29 Fix.sg
    split <;> omega
  have HN := Lib.hid hn
  have HF := Lib.hid hf
  have HV := Lib.hid hv
  clear hn hf hv hs
  by_cases c1 : H = s
  · subst c1
    by_cases c2 : u = H
    · have yes := HF.out.1 ⟨rfl, HN.out.1 c2⟩
      rw [if_pos yes, if_pos yes]
      subst c2
      have v := HV.out yes
      have e1 : IntKind.u64.wrap ((M : Int) * 17179869184) = ((M * 17179869184 % 18446744073709551616 : Nat) : Int) := by rw [IntKind.wrap_u64]; omega
      have e2 : bits .or .u64 (IntKind.u64.wrap ((M : Int) * 17179869184)) ((L : Int) / 1073741824) = (((M * 17179869184 % 18446744073709551616 ||| L / 1073741824 : Nat)) : Int) := by
        rw [e1]; exact bits_or_u64_nat (M * 17179869184 % 18446744073709551616) (L / 1073741824) (Nat.mod_lt _ (by decide)) (Nat.lt_of_le_of_lt (Nat.div_le_self _ _) ll)
      generalize (M * 17179869184 % 18446744073709551616 ||| L / 1073741824) = R at *
      clear e1 HN HF HV yes
      subst v
      go_enter Tryd.func40, Tryd.ntmps40
      go_wp2_with fail
      refine (S.out _).mono ?_
      rintro e w' ⟨rfl, rfl⟩
      go_wp2_with fail
      go_ret2
      exact ⟨rfl, by go_grown⟩
    · have no : ¬ Fix.fits q := fun f => c2 (HN.out.2 (HF.out.2 f).2)
      rw [if_neg no, if_neg no]
      have c2' : ((u : Int) == (H : Int)) = false := by simp; omega
      have c2'' : ((u : Int) != (H : Int)) = true := by simp; omega
      clear c2 no HN HF HV
      go_enter Tryd.func40, Tryd.ntmps40
      go_wp2_with fail
      refine (S.out _).mono ?_
      rintro e w' ⟨rfl, rfl⟩
      go_wp2_with fail
      go_ret2
      exact ⟨rfl, by go_grown⟩
  · have no : ¬ Fix.fits q := fun f => c1 (HF.out.2 f).1
    rw [if_neg no, if_neg no]
    have c1' : ((H : Int) == (s : Int)) = false := by simp; omega
    have c1'' : ((H : Int) != (s : Int)) = true := by simp; omega
    clear c1 no HN HF HV
    go_enter Tryd.func40, Tryd.ntmps40
    go_wp2_with fail
    refine (S.out _).mono ?_
    rintro e w' ⟨rfl, rfl⟩
    go_wp2_with fail
    go_ret2
    exact ⟨rfl, by go_grown⟩

theorem dot_bad (a b : Option Addr) (n m ca cb : Nat) (h : n ≠ m ∨ 8 < n) (hn : n ≤ 9223372036854775807) (hm : m ≤ 9223372036854775807) (w : World) :
    Calls Tryd.prog 20 #[.slice a n ca, .slice b m cb] w fun e w' => e = .returned (.tuple #[.int .i64 0, .int .i64 2]) ∧ w = w' := by
  by_cases c : n = m
  · subst c
    have c8 : 8 < n := by omega
    go_enter Tryd.func20, Tryd.ntmps20
    go_wp2
    go_ret2
    exact ⟨rfl, rfl⟩
  · have c1 : ((n : Int) == (m : Int)) = false := by simp; omega
    have c2 : ((n : Int) != (m : Int)) = true := by simp; omega
    clear h
    go_enter Tryd.func20, Tryd.ntmps20
    go_wp2
    go_ret2
    exact ⟨rfl, rfl⟩

theorem clamp_any (a l h : Int) (w : World) :
    Calls Tryd.prog 13 #[.int .i64 a, .int .i64 l, .int .i64 h] w fun e w' => e = .returned (.int .i64 (min (max a l) h)) ∧ w = w' := by
  go_enter Tryd.func13, Tryd.ntmps13
  go_wp2
  go_ret
  exact ⟨rfl, rfl⟩

theorem bcell {W w1 : World} {B : Nat} (hb : Below B W w1) : (∀ b o, b < B → w1.cell? ⟨b, o, none⟩ = W.cell? ⟨b, o, none⟩) ∧ (∀ b o, b < B → w1.frozen? ⟨b, o, none⟩ = W.frozen? ⟨b, o, none⟩) :=
  ⟨fun b o h => hb.cell (p := ⟨b, o, none⟩) h, fun b o h => hb.frozen (p := ⟨b, o, none⟩) h⟩

namespace Fix
def dotS (xs ys : List Int) : Nat → Int
  | 0 => 536870912
  | k + 1 => dotS xs ys k + xs.getD k 0 * ys.getD k 0
theorem dotS_bound (xs ys : List Int) (n : Nat) (h : ∀ k, k < n → fits (xs.getD k 0) ∧ fits (ys.getD k 0)) : ∀ k, k ≤ n → -(85070591730234615865843651857942052864 * (k : Int)) ≤ dotS xs ys k ∧ dotS xs ys k ≤ 536870912 + 85070591730234615865843651857942052864 * (k : Int)
  | 0, _ => ⟨by simp [dotS], by simp [dotS]⟩
  | k + 1, hk => by
    have ih := dotS_bound xs ys n h k (by omega)
    have f := h k (by omega)
    have p := prod_bound _ _ f.1 f.2
    unfold dotS
    generalize xs.getD k 0 * ys.getD k 0 = q at *
    omega
theorem dotS_far (xs ys : List Int) (n : Nat) (h8 : n ≤ 8) (h : ∀ k, k < n → fits (xs.getD k 0) ∧ fits (ys.getD k 0)) : -1569275433846670190958947355801916604025588861116008628224 ≤ dotS xs ys n ∧ dotS xs ys n < 1569275433846670190958947355801916604025588861116008628224 := by
  have := dotS_bound xs ys n h n (Nat.le_refl _)
  omega
end Fix

/-- The variable of the sum: its block, its three words. -/
structure SumAt (B : Nat) (z : Int) (w w' : World) : Prop where
  below : Below B w w'
  size : B < w'.heap.size
  c0 : w'.cell? ⟨B, 0, none⟩ = some (.int .u64 (Fix.hi3 z))
  c1 : w'.cell? ⟨B, 1, none⟩ = some (.int .u64 (Fix.mid3 z))
  c2 : w'.cell? ⟨B, 2, none⟩ = some (.int .u64 (Fix.lo3 z))
  f0 : w'.frozen? ⟨B, 0, none⟩ = false
  f1 : w'.frozen? ⟨B, 1, none⟩ = false
  f2 : w'.frozen? ⟨B, 2, none⟩ = false

theorem sum_store {B : Nat} {z z' : Int} {w wr w2 : World} (S : SumAt B z w wr) (h : Below wr.heap.size wr w2) :
    SumAt B z' w (((w2.setCell ⟨B, 0, none⟩ (.int .u64 (Fix.hi3 z'))).setCell ⟨B, 1, none⟩ (.int .u64 (Fix.mid3 z'))).setCell ⟨B, 2, none⟩ (.int .u64 (Fix.lo3 z'))) := by
  obtain ⟨hc, hg⟩ := bcell h
  have s0 := (hc _ 0 S.size).trans S.c0
  have s1 := (hc _ 1 S.size).trans S.c1
  have s2 := (hc _ 2 S.size).trans S.c2
  have q0 := (hg _ 0 S.size).trans S.f0
  have q1 := (hg _ 1 S.size).trans S.f1
  have q2 := (hg _ 2 S.size).trans S.f2
  have b : Below B w w2 := S.below.trans (h.mono (Nat.le_of_lt S.size))
  have sz := S.size
  have hz := h.size
  refine ⟨((b.setCell (Nat.le_refl _) _).setCell (Nat.le_refl _) _).setCell (Nat.le_refl _) _, ?_, ?_, ?_, ?_, ?_, ?_, ?_⟩
  · simp only [World.size_setCell]; omega
  · simp [go_sem, s0]
  · simp [go_sem, s1]
  · simp [go_sem, s2]
  · simp [go_sem, q0]
  · simp [go_sem, q1]
  · simp [go_sem, q2]

set_option maxHeartbeats 2000000 in
theorem dot_some (b1 o1 b2 o2 n ca cb : Nat) (xs ys : List Int) (h8 : n ≤ 8) (w : World)
    (hf : ∀ k, k < n → Fix.fits (xs.getD k 0) ∧ Fix.fits (ys.getD k 0))
    (hc : ∀ k, k < n → w.cell? ⟨b1, o1 + k, none⟩ = some (.int .i64 (xs.getD k 0)) ∧ w.cell? ⟨b2, o2 + k, none⟩ = some (.int .i64 (ys.getD k 0))) :
    Calls Tryd.prog 20 #[.slice (some ⟨b1, o1, none⟩) n ca, .slice (some ⟨b2, o2, none⟩) n cb] w fun e w' => e = .returned (.tuple #[.int .i64 (Fix.valOf (Fix.dotS xs ys n / 1073741824)), .int .i64 (Fix.errOf (Fix.dotS xs ys n / 1073741824))]) ∧ Below w.heap.size w w' := by
  have HC := Lib.hid hc
  have HF := Lib.hid hf
  clear hc hf
  have hnn : ((n : Int) == (n : Int)) = true := by simp
  go_enter Tryd.func20, Tryd.ntmps20
  go_wp2_with fail
  go_loopw [21] (fun i wr => ∃ k : Nat, i = .int .i64 k ∧ k ≤ n ∧ SumAt w.heap.size (Fix.dotS xs ys k) w wr) (fun i _ => n - (intOf i).toNat)
  case atStart =>
    refine ⟨0, rfl, by omega, ⟨by go_grown, by simp, ?_, ?_, ?_, ?_, ?_, ?_⟩⟩
    all_goals simp [go_sem, Fix.dotS, Fix.hi3, Fix.mid3, Fix.lo3]
  case round =>
    obtain ⟨k, rfl, hk, S⟩ := hrel
    by_cases hlt : k < n
    · obtain ⟨cx, cy⟩ := HC.out k hlt
      obtain ⟨fx, fy⟩ := HF.out k hlt
      have lx : b1 < w.heap.size := World.block_lt_of_cell? w _ cx
      have ly : b2 < w.heap.size := World.block_lt_of_cell? w _ cy
      rw [← S.below.cell (p := ⟨b1, o1 + k, none⟩) lx] at cx
      rw [← S.below.cell (p := ⟨b2, o2 + k, none⟩) ly] at cy
      have hs : Fix.dotS xs ys (k + 1) = Fix.dotS xs ys k + xs.getD k 0 * ys.getD k 0 := rfl
      have HS := Lib.hid hs
      clear hs
      generalize xs.getD k 0 = x at *
      generalize ys.getD k 0 = y at *
      generalize Fix.dotS xs ys k = z at *
      have SS := Lib.hid S
      have c0 := S.c0; have c1 := S.c1; have c2 := S.c2; have f0 := S.f0; have f1 := S.f1; have f2 := S.f2; have sz := S.size
      clear S
      have lx' : b1 < wr.heap.size := by omega
      have ly' : b2 < wr.heap.size := by omega
      have k0 : (0 : Int) ≤ (k : Int) := by omega
      have k1 : (k : Int) < (n : Int) := by omega
      have PR := Lib.hid (fun w => product_any x y fx fy w)
      have PL : Hid (∀ w, Calls Tryd.prog 38 #[.agg #[.int .u64 (Fix.hi3 z), .int .u64 (Fix.mid3 z), .int .u64 (Fix.lo3 z)], W3 (x * y)] w fun e w' => e = .returned (.agg #[.int .u64 (Fix.hi3 (z + x * y)), .int .u64 (Fix.mid3 (z + x * y)), .int .u64 (Fix.lo3 (z + x * y))]) ∧ Below w.heap.size w w') := Lib.hid (fun w => plus_any z (x * y) w)
      go_upto_region 7 with fail
      go_region_law (first
        | (go_simp; go_at_call 39; refine (PR.out _).mono ?_; rintro e w' ⟨rfl, hb⟩; obtain ⟨hc, hg⟩ := bcell hb; have g0 := (hc _ 0 sz).trans c0; have g1 := (hc _ 1 sz).trans c1; have g2 := (hc _ 2 sz).trans c2; have gx := (hc _ (o1 + k) lx').trans cx; have gy := (hc _ (o2 + k) ly').trans cy)
        | (go_simp; go_at_call 38; refine (PL.out _).mono ?_; rintro e2 w2 ⟨rfl, hb2⟩; obtain ⟨hc2, hg2⟩ := bcell hb2; have q0 := (hg2 _ 0 (Nat.lt_of_lt_of_le sz hb.size)).trans ((hg _ _ sz).trans f0); have q1 := (hg2 _ 1 (Nat.lt_of_lt_of_le sz hb.size)).trans ((hg _ _ sz).trans f1); have q2 := (hg2 _ 2 (Nat.lt_of_lt_of_le sz hb.size)).trans ((hg _ _ sz).trans f2); have s0 := (hc2 _ 0 (Nat.lt_of_lt_of_le sz hb.size)).trans ((hc _ _ sz).trans c0); have s1 := (hc2 _ 1 (Nat.lt_of_lt_of_le sz hb.size)).trans ((hc _ _ sz).trans c1); have s2 := (hc2 _ 2 (Nat.lt_of_lt_of_le sz hb.size)).trans ((hc _ _ sz).trans c2)))
      all_goals
        go_wp2_with fail
        go_roundw
        case rel => exact ⟨k + 1, by simp, by omega, by rw [HS.out]; exact sum_store SS.out (Below.trans ⟨hb.os, hb.tape, hb.output, hb.size, hb.block⟩ (Below.mono ⟨hb2.os, hb2.tape, hb2.output, hb2.size, hb2.block⟩ hb.size))⟩
        case measure => simp [intOf]; omega
    · obtain rfl : k = n := by omega
      have WH : Hid (∀ w, Calls Tryd.prog 40 #[.agg #[.int .u64 (Fix.hi3 (Fix.dotS xs ys k)), .int .u64 (Fix.mid3 (Fix.dotS xs ys k)), .int .u64 (Fix.lo3 (Fix.dotS xs ys k))]] w fun e w' => e = .returned (.tuple #[.int .i64 (Fix.valOf (Fix.dotS xs ys k / 1073741824)), .int .i64 (Fix.errOf (Fix.dotS xs ys k / 1073741824))]) ∧ Below w.heap.size w w') :=
        Lib.hid (fun w => whole_any (Fix.dotS xs ys k) (Fix.dotS_far xs ys k h8 HF.out).1 (Fix.dotS_far xs ys k h8 HF.out).2 w)
      have SS := Lib.hid S
      have c0 := S.c0; have c1 := S.c1; have c2 := S.c2; have sz := S.size
      clear S hlt
      go_wp2_with fail
      refine (WH.out _).mono ?_
      rintro e w' ⟨rfl, hb⟩
      go_wp2_with fail
      go_ret2
      exact ⟨rfl, SS.out.below.trans (hb.mono (Nat.le_of_lt sz))⟩

theorem dot_empty (a b : Option Addr) (ca cb : Nat) (w : World) :
    Calls Tryd.prog 20 #[.slice a 0 ca, .slice b 0 cb] w fun e w' => e = .returned (.tuple #[.int .i64 0, .int .i64 0]) ∧ Below w.heap.size w w' := by
  have WH : Hid (∀ w, Calls Tryd.prog 40 #[.agg #[.int .u64 0, .int .u64 0, .int .u64 536870912]] w fun e w' => e = .returned (.tuple #[.int .i64 0, .int .i64 0]) ∧ Below w.heap.size w w') :=
    Lib.hid (fun w => whole_any 536870912 (by omega) (by omega) w)
  go_enter Tryd.func20, Tryd.ntmps20
  go_wp2_with fail
  refine wp_loop_rounds 1 ?_
  rw [rounds_succ]
  go_wp2_with fail
  refine (WH.out _).mono ?_
  rintro e w' ⟨rfl, hb⟩
  go_wp2_with fail
  go_ret2
  exact ⟨rfl, Below.trans (by go_grown) (hb.mono (by simp))⟩

namespace Fix
def dotM (xs ys : List Int) : Int := dotS xs ys xs.length / 1073741824
def dotV (xs ys : List Int) : Int := if xs.length ≠ ys.length ∨ 8 < xs.length then 0 else valOf (dotM xs ys)
def dotE (xs ys : List Int) : Int := if xs.length ≠ ys.length ∨ 8 < xs.length then 2 else errOf (dotM xs ys)
end Fix

/-- fixed.Dot: the nearest integer of the sum of the products, divided by 2^30, or the error. -/
theorem dot_any (a b : Option Addr) (n m ca cb : Nat) (xs ys : List Int) (w : World) (ha : Ints w a n xs) (hb : Ints w b m ys) (fa : ∀ k, k < n → Fix.fits (xs.getD k 0)) (fb : ∀ k, k < m → Fix.fits (ys.getD k 0)) :
    Calls Tryd.prog 20 #[.slice a n ca, .slice b m cb] w fun e w' => e = .returned (.tuple #[.int .i64 (Fix.dotV xs ys), .int .i64 (Fix.dotE xs ys)]) ∧ Below w.heap.size w w' := by
  obtain ⟨hn, hnm, hr⟩ := ha
  obtain ⟨hm, hmm, hs⟩ := hb
  unfold Fix.dotV Fix.dotE
  rw [hn, hm]
  by_cases bad : n ≠ m ∨ 8 < n
  · rw [if_pos bad, if_pos bad]
    exact (dot_bad a b n m ca cb bad hnm hmm w).mono fun e w' ⟨he, hw⟩ => ⟨he, by rw [← hw]; exact Below.refl _ _⟩
  · rw [if_neg bad, if_neg bad]
    obtain rfl : n = m := by omega
    rcases Nat.eq_zero_or_pos n with h0 | h0
    · subst h0
      unfold Fix.dotM
      rw [hn]
      exact dot_empty a b ca cb w
    · rcases hr with hr | ⟨b1, o1, rfl, hc⟩
      · omega
      · rcases hs with hs | ⟨b2, o2, rfl, hd⟩
        · omega
        · unfold Fix.dotM
          rw [hn]
          exact dot_some b1 o1 b2 o2 n ca cb xs ys (by omega) w (fun k hk => ⟨fa k hk, fb k hk⟩) (fun k hk => ⟨hc k hk, hd k hk⟩)
end Go.Proofs.YtlniojmjakmcjaaDoor
