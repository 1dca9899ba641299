/- The contract of perigeeref01's Dot over this program. -/
import Derived.Test.YtlniojmjakmcjaaDoorRegDot
namespace Go.Proofs.YtlniojmjakmcjaaDoor
open Go.RowKit
set_option linter.unusedVariables false

namespace Fix
theorem mul_signs (a b : Int) : a * b = if (decide (a < 0) == decide (b < 0)) = true then ((a.natAbs * b.natAbs : Nat) : Int) else -((a.natAbs * b.natAbs : Nat) : Int) := by
  have ha : (a.natAbs : Int) = if a < 0 then -a else a := by split <;> omega
  have hb : (b.natAbs : Int) = if b < 0 then -b else b := by split <;> omega
  rw [Int.natCast_mul, ha, hb]
  by_cases h1 : a < 0 <;> by_cases h2 : b < 0 <;> simp [h1, h2, Int.neg_mul, Int.mul_neg]
theorem dot_neg_v (P : Nat) (s : Int) (h : s = 536870912 - (P : Int)) : sgnV (up (P / 1073741824) (P % 1073741824) 1073741824 true) true = valOf (s / 1073741824) ∧ sgnE (up (P / 1073741824) (P % 1073741824) 1073741824 true) true = errOf (s / 1073741824) := by
  have e : -((up (P / 1073741824) (P % 1073741824) 1073741824 true : Nat) : Int) = s / 1073741824 := by
    unfold up
    by_cases g : 1073741824 < 2 * (P % 1073741824)
    · rw [if_pos (Or.inl g)]; omega
    · rw [if_neg (by simp; omega)]; omega
  unfold sgnV sgnE
  rw [if_pos rfl, e]
  exact ⟨rfl, rfl⟩
theorem dot_pos_v (P : Nat) (s : Int) (h : s = 536870912 + (P : Int)) : sgnV (up (P / 1073741824) (P % 1073741824) 1073741824 false) false = valOf (s / 1073741824) ∧ sgnE (up (P / 1073741824) (P % 1073741824) 1073741824 false) false = errOf (s / 1073741824) := by
  have e : ((up (P / 1073741824) (P % 1073741824) 1073741824 false : Nat) : Int) = s / 1073741824 := by
    unfold up
    by_cases g : 1073741824 ≤ 2 * (P % 1073741824)
    · rw [if_pos (by simp; omega)]; omega
    · rw [if_neg (by simp; omega)]; omega
  unfold sgnV sgnE
  rw [if_neg (by simp), e]
  exact ⟨rfl, rfl⟩
end Fix

/-- The two sums, so far. -/
def BDot (N : Nat) (xs ys : List Int) (k : Nat) (w0 w : World) : Prop :=
  ∃ up dn : Nat, Fix.dotS xs ys k = 536870912 + (up : Int) - (dn : Int) ∧ up ≤ 85070591730234615865843651857942052864 * k ∧ dn ≤ 85070591730234615865843651857942052864 * k ∧
    Below N w0 w ∧ Row w N (BigM.dg up) ∧ Row w (N + 1) (BigM.dg dn)

set_option maxHeartbeats 8000000 in
set_option maxRecDepth 100000 in
theorem bigDot_any (a b : Option Addr) (n m ca cb : Nat) (xs ys : List Int) (w : World) (ha : Ints w a n xs) (hb : Ints w b m ys) (fa : ∀ k, k < n → Fix.fits (xs.getD k 0)) (fb : ∀ k, k < m → Fix.fits (ys.getD k 0)) :
    Calls Tryd.prog 21 #[.slice a n ca, .slice b m cb] w fun e w' => e = .returned (.tuple #[.int .i64 (Fix.dotV xs ys), .int .i64 (Fix.dotE xs ys)]) ∧ Below w.heap.size w w' := by
  obtain ⟨hn, hnm, hr⟩ := ha
  obtain ⟨hm, hmm, hs⟩ := hb
  by_cases ne : n = m
  case neg =>
    have v : Fix.dotV xs ys = 0 ∧ Fix.dotE xs ys = 2 := by unfold Fix.dotV Fix.dotE; rw [hn, hm, if_pos (Or.inl ne), if_pos (Or.inl ne)]; exact ⟨rfl, rfl⟩
    rw [v.1, v.2]
    have c1 : ((n : Int) == (m : Int)) = false := by simp; omega
    have c2 : ((n : Int) != (m : Int)) = true := by simp; omega
    clear v hr hs fa fb ne
    go_enter Tryd.func21, Tryd.ntmps21
    go_wp2
    go_ret2
    exact ⟨rfl, Below.refl _ _⟩
  case pos =>
  subst ne
  have c1 : ((n : Int) == (n : Int)) = true := by simp
  have c2 : ((n : Int) != (n : Int)) = false := by simp
  by_cases h8 : 8 < n
  · have v : Fix.dotV xs ys = 0 ∧ Fix.dotE xs ys = 2 := by unfold Fix.dotV Fix.dotE; rw [hn, hm, if_pos (Or.inr h8), if_pos (Or.inr h8)]; exact ⟨rfl, rfl⟩
    rw [v.1, v.2]
    clear v hr hs fa fb
    go_enter Tryd.func21, Tryd.ntmps21
    go_wp2
    go_ret2
    exact ⟨rfl, Below.refl _ _⟩
  · have v : Fix.dotV xs ys = Fix.valOf (Fix.dotS xs ys n / 1073741824) ∧ Fix.dotE xs ys = Fix.errOf (Fix.dotS xs ys n / 1073741824) := by
      unfold Fix.dotV Fix.dotE Fix.dotM
      rw [hn, hm, if_neg (by omega), if_neg (by omega)]
      exact ⟨rfl, rfl⟩
    rw [v.1, v.2]
    have d8 : decide ((8 : Int) < (n : Int)) = false := by simp; omega
    obtain ⟨V, hV⟩ : ∃ V, Fix.valOf (Fix.dotS xs ys n / 1073741824) = V := ⟨_, rfl⟩
    obtain ⟨E, hE⟩ : ∃ E, Fix.errOf (Fix.dotS xs ys n / 1073741824) = E := ⟨_, rfl⟩
    rw [hV, hE]
    have HV := Lib.hid hV
    have HE := Lib.hid hE
    have FA := Lib.hid fa
    have FB := Lib.hid fb
    have HR := Lib.hid hr
    have HS := Lib.hid hs
    clear v hr hs fa fb hV hE hn hm
    go_enter Tryd.func21, Tryd.ntmps21
    go_wp2_with fail
    go_loopw [8, 9] (fun i s wr => ∃ k : Nat, i = .int .i64 k ∧ k ≤ n ∧ BDot w.heap.size xs ys k w wr) (fun i _ _ => n - (intOf i).toNat)
    case atStart =>
      refine ⟨0, rfl, by omega, 0, 0, by simp [Fix.dotS], by omega, by omega, by go_grown, ?_, ?_⟩
      · rw [dg_zero]; exact (row_new w (fun _ => 0)).alloc _
      · have := row_new (w.alloc (.cells (arr (fun _ => 0)) 47)) (fun _ => 0)
        rw [World.size_alloc] at this
        rw [dg_zero]
        exact this
    case round =>
      obtain ⟨k, rfl, hk, up, dn, hsum, hup, hdn, B, Ru, Rd⟩ := hrel
      have SUM := Lib.hid hsum
      have UP := Lib.hid hup
      have DN := Lib.hid hdn
      have RB := Lib.hid B
      have RU := Lib.hid Ru
      have RD := Lib.hid Rd
      clear hsum hup hdn B Ru Rd
      by_cases hlt : k < n
      · have k1 : (k : Int) < (n : Int) := by omega
        have k0 : (0 : Int) ≤ (k : Int) := by omega
        rcases HR.out with e | ⟨sb, so, rfl, hc⟩
        · omega
        rcases HS.out with e | ⟨tb, tq, rfl, hc'⟩
        · omega
        have hcell := hc k hlt
        have hcell' := hc' k hlt
        have sbl : sb < w.heap.size := World.block_lt_of_cell? w _ hcell
        have tbl : tb < w.heap.size := World.block_lt_of_cell? w _ hcell'
        have CELL := Lib.hid ((RB.out.cell (p := ⟨sb, so + k, none⟩) sbl).trans hcell)
        have CELL' := Lib.hid ((RB.out.cell (p := ⟨tb, tq + k, none⟩) tbl).trans hcell')
        have SBL := Lib.hid (show sb < wr.heap.size from Nat.lt_of_lt_of_le sbl RB.out.size)
        have TBL := Lib.hid (show tb < wr.heap.size from Nat.lt_of_lt_of_le tbl RB.out.size)
        have F1 := Lib.hid (FA.out k hlt)
        have F2 := Lib.hid (FB.out k hlt)
        have ST : Hid (Fix.dotS xs ys (k + 1) = Fix.dotS xs ys k + xs.getD k 0 * ys.getD k 0) := Lib.hid rfl
        obtain ⟨z1, hz1⟩ : ∃ z, xs.getD k 0 = z := ⟨_, rfl⟩
        obtain ⟨z2, hz2⟩ : ∃ z, ys.getD k 0 = z := ⟨_, rfl⟩
        rw [hz1] at CELL F1 ST
        rw [hz2] at CELL' F2 ST
        clear hc hc' hcell hcell' hz1 hz2 sbl tbl
        have l1 : z1.natAbs ≤ 9223372036854775808 := by have := F1.out.1; have := F1.out.2; omega
        have l2 : z2.natAbs ≤ 9223372036854775808 := by have := F2.out.1; have := F2.out.2; omega
        have PL := Lib.hid (Nat.mul_le_mul l1 l2)
        have MS := Lib.hid (Fix.mul_signs z1 z2)
        go_upto_region 7 with fail
        refine dot_prod sb so ca tb tq cb n k z1 z2 F1.out F2.out (by omega) (by omega) rfl rfl rfl k1 k0 (B := wr.heap.size) SBL.out CELL.out TBL.out CELL'.out (by kernel_rfl) rfl rfl rfl rfl rfl rfl rfl rfl rfl rfl rfl rfl rfl rfl rfl (Nat.le_refl _) ?_
        intro p w2 B2 hp Rp
        have CELL2 := Lib.hid ((B2.cell (p := ⟨sb, so + k, none⟩) SBL.out).trans CELL.out)
        have CELL2' := Lib.hid ((B2.cell (p := ⟨tb, tq + k, none⟩) TBL.out).trans CELL'.out)
        have SBL2 := Lib.hid (Nat.lt_of_lt_of_le SBL.out B2.size)
        have TBL2 := Lib.hid (Nat.lt_of_lt_of_le TBL.out B2.size)
        have RU2 := Lib.hid (RU.out.below B2)
        have RD2 := Lib.hid (RD.out.below B2)
        have RB2 := Lib.hid (RB.out.trans (B2.mono RB.out.size))
        have IP : Hid (w.heap.size + 1 < p) := Lib.hid (by have := RD.out.lt; omega)
        obtain ⟨pr, hpr⟩ : ∃ q, z1.natAbs * z2.natAbs = q := ⟨_, rfl⟩
        rw [hpr] at Rp PL MS ⊢
        have RP := Lib.hid Rp
        clear B2 hp Rp hpr RU RD RB CELL CELL' SBL TBL l1 l2
        simp only [Act.put, List.setIfInBounds_toArray, List.set_cons_succ, List.set_cons_zero, ptr, Big]
        go_upto_region 8 with fail
        refine dot_signs sb so ca tb tq cb n k z1 z2 rfl rfl rfl k1 k0 (B := w2.heap.size) SBL2.out CELL2.out TBL2.out CELL2'.out (by kernel_rfl) rfl rfl rfl rfl rfl rfl rfl rfl rfl rfl rfl rfl rfl (Nat.le_refl _) ?_
        intro w3 B3
        have RU3 := Lib.hid (RU2.out.below B3)
        have RD3 := Lib.hid (RD2.out.below B3)
        have RP3 := Lib.hid (RP.out.below B3)
        have RB3 := Lib.hid (RB2.out.trans (B3.mono RB2.out.size))
        clear B3 RU2 RD2 RP RB2 CELL2 CELL2' SBL2 TBL2
        cases hsg : (decide (z1 < 0) == decide (z2 < 0)) with
        | true =>
          rw [hsg, if_pos rfl] at MS
          clear hsg
          simp only [Act.put, List.setIfInBounds_toArray, List.set_cons_succ, List.set_cons_zero]
          go_upto_region 9 with fail
          refine dot_up up dn pr (B := w.heap.size) (by kernel_rfl) rfl rfl rfl rfl rfl rfl RB3.out.size rfl RU3.out (Nat.le_refl _) rfl RD3.out rfl RP3.out (by omega) (by have := IP.out; omega) ?_
          intro w4 B4 Ru Rd _
          have HF : Hid (BDot w.heap.size xs ys (k + 1) w w4) := Lib.hid ⟨up + pr, dn, by rw [ST.out, SUM.out, MS.out]; omega, by have := UP.out; have := PL.out; omega, by have := DN.out; omega, RB3.out.trans B4, Ru, Rd⟩
          clear B4 Ru Rd RU3 RD3 RP3 RB3
          simp only [Act.put, List.setIfInBounds_toArray, List.set_cons_succ, List.set_cons_zero, Big]
          go_wp2_with fail
          go_roundw
          case rel => exact ⟨k + 1, by simp, by omega, HF.out⟩
          case measure => simp [intOf]; omega
        | false =>
          rw [hsg, if_neg (by simp)] at MS
          clear hsg
          simp only [Act.put, List.setIfInBounds_toArray, List.set_cons_succ, List.set_cons_zero]
          go_upto_region 10 with fail
          refine dot_dn up dn pr (B := w.heap.size) (by kernel_rfl) rfl rfl rfl rfl rfl rfl RB3.out.size rfl RU3.out rfl RD3.out (by omega) rfl RP3.out (by omega) (by have := IP.out; omega) ?_
          intro w4 B4 Ru Rd _
          have HF : Hid (BDot w.heap.size xs ys (k + 1) w w4) := Lib.hid ⟨up, dn + pr, by rw [ST.out, SUM.out, MS.out]; omega, by have := UP.out; omega, by have := DN.out; have := PL.out; omega, RB3.out.trans B4, Ru, Rd⟩
          clear B4 Ru Rd RU3 RD3 RP3 RB3
          simp only [Act.put, List.setIfInBounds_toArray, List.set_cons_succ, List.set_cons_zero, Big]
          go_wp2_with fail
          go_roundw
          case rel => exact ⟨k + 1, by simp, by omega, HF.out⟩
          case measure => simp [intOf]; omega
      · obtain rfl : k = n := by omega
        have UL : Hid (up < 2 ^ 130) := Lib.hid (by have := UP.out; omega)
        have DL : Hid (dn < 2 ^ 130) := Lib.hid (by have := DN.out; omega)
        by_cases less : up < dn
        · have C1 : decide (up < dn) = true := decide_eq_true less
          have LS := Lib.hid less
          clear less
          go_upto_region 11 with fail
          refine dot_less up dn (by have := UL.out; omega) (by have := DL.out; omega) (B := wr.heap.size) (by kernel_rfl) rfl rfl rfl rfl rfl (Nat.le_refl _) rfl RU.out rfl RD.out ?_
          intro w2 B2 Ru Rd
          have RU2 := Lib.hid Ru
          have RD2 := Lib.hid Rd
          have RB2 := Lib.hid (RB.out.trans (B2.mono RB.out.size))
          clear B2 Ru Rd RU RD RB
          rw [C1]
          simp only [Act.put, List.setIfInBounds_toArray, List.set_cons_succ, List.set_cons_zero, Big]
          go_upto_region 12 with fail
          refine dot_neg up dn (by have := UL.out; omega) (by have := DL.out; omega) (Nat.le_of_lt LS.out) (by have := DL.out; omega) (by have := DL.out; omega) (B := w2.heap.size) (by kernel_rfl) rfl rfl rfl rfl rfl rfl rfl rfl rfl rfl rfl (Nat.le_refl _) rfl RU2.out rfl RD2.out ?_
          intro w3 B3 _ _
          have RB3 := Lib.hid (RB2.out.trans (B3.mono RB2.out.size))
          have vv := Fix.dot_neg_v (dn - up) (Fix.dotS xs ys k) (by have := SUM.out; have := LS.out; omega)
          rw [vv.1, vv.2, HV.out, HE.out]
          clear B3 vv
          simp only [Act.put, List.setIfInBounds_toArray, List.set_cons_succ, List.set_cons_zero, Big]
          go_wp2_with fail
          go_ret2
          exact ⟨rfl, RB3.out⟩
        · have C1 : decide (up < dn) = false := decide_eq_false less
          have LS := Lib.hid (Nat.le_of_not_lt less)
          clear less
          go_upto_region 11 with fail
          refine dot_less up dn (by have := UL.out; omega) (by have := DL.out; omega) (B := wr.heap.size) (by kernel_rfl) rfl rfl rfl rfl rfl (Nat.le_refl _) rfl RU.out rfl RD.out ?_
          intro w2 B2 Ru Rd
          have RU2 := Lib.hid Ru
          have RD2 := Lib.hid Rd
          have RB2 := Lib.hid (RB.out.trans (B2.mono RB.out.size))
          clear B2 Ru Rd RU RD RB
          rw [C1]
          simp only [Act.put, List.setIfInBounds_toArray, List.set_cons_succ, List.set_cons_zero, Big]
          go_upto_region 13 with fail
          refine dot_pos up dn (by have := UL.out; omega) (by have := DL.out; omega) LS.out (by have := UL.out; omega) (by have := UL.out; omega) (B := w2.heap.size) (by kernel_rfl) rfl rfl rfl rfl rfl rfl rfl rfl rfl rfl rfl (Nat.le_refl _) rfl RU2.out rfl RD2.out ?_
          intro w3 B3 _ _
          have RB3 := Lib.hid (RB2.out.trans (B3.mono RB2.out.size))
          have vv := Fix.dot_pos_v (up - dn) (Fix.dotS xs ys k) (by have := SUM.out; have := LS.out; omega)
          rw [vv.1, vv.2, HV.out, HE.out]
          clear B3 vv
          simp only [Act.put, List.setIfInBounds_toArray, List.set_cons_succ, List.set_cons_zero, Big]
          go_wp2_with fail
          go_ret2
          exact ⟨rfl, RB3.out⟩
end Go.Proofs.YtlniojmjakmcjaaDoor
