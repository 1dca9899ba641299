/- The contract of perigeeref01's Quotient over this program. -/
import Derived.Test.YtlniojmjakmcjaaDoorRegQuot
import Derived.Deep.LoopGhost
namespace Go.Proofs.YtlniojmjakmcjaaDoor
open Go.RowKit
set_option linter.unusedVariables false

structure QuotAt (N p o r qv part one : Nat) (w0 w : World) : Prop where
  below : Below N w0 w
  ra : Row w N (BigM.dg r)
  rz : Row w (N + 1 + 1) (BigM.dg 0)
  rq : Row w (N + 1 + 1 + 1) (BigM.dg qv)
  rp : Row w p (BigM.dg part)
  ro : Row w o (BigM.dg one)
structure QuotIs (N p o : Nat) : Prop where
  hp : N + 1 + 1 + 1 < p
  ho : N + 1 + 1 + 1 < o
  ne : p ≠ o
theorem QuotAt.sub {N p o r qv part one : Nat} {w0 w w' : World} (S : QuotAt N p o r qv part one w0 w) (hB : N ≤ w.heap.size) (B : Below w.heap.size w w') : QuotAt N p o r qv part one w0 w' :=
  ⟨S.below.trans (B.mono hB), S.ra.below B, S.rz.below B, S.rq.below B, S.rp.below B, S.ro.below B⟩
theorem QuotAt.size {N p o r qv part one : Nat} {w0 w : World} (S : QuotAt N p o r qv part one w0 w) : N ≤ w.heap.size := Nat.le_of_lt S.ra.lt

theorem dg_zero : BigM.dg 0 = fun _ => 0 := by funext i; simp [BigM.dg]

/-- The first loop's state, so many rounds at most to come. -/
def Quot1 (N p o x y : Nat) (w0 : World) (k : Nat) (w : World) : Prop :=
  ∃ e, k = x + 1 - y * 2 ^ e ∧ y * 2 ^ e < 65536 ^ 17 ∧ QuotAt N p o x 0 (y * 2 ^ e) (2 ^ e) w0 w
/-- The second loop's. -/
def Quot2 (N p o x y : Nat) (w0 : World) (e : Nat) (w : World) : Prop :=
  ∃ r qv, r ≤ x ∧ r < y * 2 ^ e ∧ qv * y + r = x ∧ y * 2 ^ e < 65536 ^ 17 ∧ QuotAt N p o r qv (y * 2 ^ e) (2 ^ e) w0 w

theorem world_var {P : Program} {Q : Exit → Act → World → Prop} {c : Code} {a : Act} {w : World} (h : ∀ W, W = w → c.wp P Q a W) : c.wp P Q a w := h w rfl

set_option maxHeartbeats 8000000 in
set_option maxRecDepth 100000 in
theorem bigQuotient_any (x y : Nat) (hx : x * 2 < 65536 ^ 17) (hy0 : 0 < y) (hy : y < 65536 ^ 17) (w : World) :
    Calls Tryd.prog 46 #[Big x, Big y] w fun e w' => e = .returned (Big (x / y)) ∧ Below w.heap.size w w' := by
  have HX := Lib.hid hx
  have HY0 := Lib.hid hy0
  have HY := Lib.hid hy
  clear hx hy0 hy
  unfold Big
  go_enter Tryd.func46, Tryd.ntmps46
  go_upto_region 2 with fail
  refine world_var (fun W hW => ?_)
  have r0 : Row W w.heap.size (BigM.dg x) := by rw [hW]; exact (((row_new w _).alloc _).alloc _).alloc _
  have r1 : Row W (w.heap.size + 1) (BigM.dg y) := by
    rw [hW]
    have := ((row_new (w.alloc (.cells (arr (BigM.dg x)) 47)) (BigM.dg y)).alloc (.cells (arr fun _ => 0) 47)).alloc (.cells (arr fun _ => 0) 47)
    rw [World.size_alloc] at this
    exact this
  have r2 : Row W (w.heap.size + 1 + 1) (BigM.dg 0) := by
    rw [hW, dg_zero]
    have := (row_new ((w.alloc (.cells (arr (BigM.dg x)) 47)).alloc (.cells (arr (BigM.dg y)) 47)) (fun _ => 0)).alloc (.cells (arr fun _ => 0) 47)
    rw [World.size_alloc, World.size_alloc] at this
    exact this
  have r3 : Row W (w.heap.size + 1 + 1 + 1) (BigM.dg 0) := by
    rw [hW, dg_zero]
    have := row_new (((w.alloc (.cells (arr (BigM.dg x)) 47)).alloc (.cells (arr (BigM.dg y)) 47)).alloc (.cells (arr fun _ => 0) 47)) (fun _ => 0)
    rw [World.size_alloc, World.size_alloc, World.size_alloc] at this
    exact this
  have B0 : Below w.heap.size w W := by rw [hW]; go_grown
  have l3 := r3.lt
  refine quot_two (y := y) (b := w.heap.size + 1) (w := W) (by kernel_rfl) rfl rfl rfl rfl rfl rfl rfl rfl rfl r1 ?_
  intro p o wa hpo hp ho B Rp Ro
  have I : QuotIs w.heap.size p o := ⟨by omega, by omega, hpo⟩
  have S : QuotAt w.heap.size p o x 0 y 1 w wa := ⟨B0.trans (B.mono B0.size), r0.below B, r2.below B, r3.below B, Rp, Ro⟩
  clear hpo hp ho B Rp Ro r0 r1 r2 r3 B0 l3 hW
  have II := Lib.hid I
  have SS := Lib.hid S
  clear I S
  clear W
  simp only [Act.put, List.setIfInBounds_toArray, List.set_cons_succ, List.set_cons_zero, ptr, Big]
  go_wp2_with fail
  go_loopg [] (x + 1 - y) (fun k wr => Quot1 w.heap.size p o x y w k wr)
  case atStart => exact ⟨0, by simp, by simpa using HY.out, by simpa using SS.out⟩
  case round =>
    obtain ⟨e, hk, hl, S⟩ := hrel
    have y0 := HY0.out
    have xl : x < 65536 ^ 17 := by have := HX.out; omega
    have HL := Lib.hid hl
    have XL := Lib.hid xl
    have S2 := Lib.hid S
    have HK := Lib.hid hk
    clear hl xl S y0 hk SS
    by_cases c : x < y * 2 ^ e
    · have C1 : decide (x < y * 2 ^ e) = true := decide_eq_true c
      have LT := Lib.hid c
      clear HK c
      go_upto_region 3 with fail
      refine quot_less1 x (y * 2 ^ e) XL.out HL.out (B := wr.heap.size) (by kernel_rfl) rfl rfl rfl rfl rfl rfl (Nat.le_refl _) rfl S2.out.ra rfl S2.out.rp ?_
      intro w1 B1 _ _
      have S3 := Lib.hid (S2.out.sub S2.out.size B1)
      clear S2 B1
      rw [C1]
      simp only [Act.put, List.setIfInBounds_toArray, List.set_cons_succ, List.set_cons_zero, Big]
      go_wp2_with fail
      go_loopg [] e (fun k wr => Quot2 w.heap.size p o x y w k wr)
      case atStart => exact ⟨x, 0, Nat.le_refl _, LT.out, by simp, HL.out, S3.out⟩
      case round =>
        obtain ⟨r, qv, hrx, hr, hq, hl, S⟩ := hrel
        have HRX := Lib.hid hrx
        have HR := Lib.hid hr
        have HQ := Lib.hid hq
        have HL2 := Lib.hid hl
        have SS := Lib.hid S
        have hone : 2 ^ gk < 65536 ^ 17 := by
          have := Nat.mul_le_mul_right (2 ^ gk) (show 1 ≤ y from HY0.out)
          rw [Nat.one_mul] at this
          exact Nat.lt_of_le_of_lt this hl
        have HONE := Lib.hid hone
        clear hrx hr hq hl S hone C1 LT S3 HL XL
        cases gk with
        | zero =>
          have C1 : decide (2 ^ 0 ≠ 1) = false := by decide
          go_upto_region 6 with fail
          refine quot_neq (2 ^ 0) HONE.out (B := wr.heap.size) (by kernel_rfl) rfl rfl rfl rfl rfl (Nat.le_refl _) rfl SS.out.ro ?_
          intro w1 B1 _
          have S3 := Lib.hid (SS.out.sub SS.out.size B1)
          clear SS B1
          rw [C1]
          simp only [Act.put, List.setIfInBounds_toArray, List.set_cons_succ, List.set_cons_zero, Big]
          have v : x / y = qv := by
            have h1 := HR.out
            have h2 := HQ.out
            rw [Nat.pow_zero, Nat.mul_one] at h1
            exact Nat.div_eq_of_lt_le (by omega) (by rw [Nat.succ_mul]; omega)
          have V := Lib.hid v
          clear v
          go_upto_region 11 with fail
          refine quot_res qv (B := w.heap.size) (by kernel_rfl) rfl rfl rfl rfl S3.out.size rfl S3.out.rz (by omega) rfl S3.out.rq (by omega) ?_
          intro w2 B2 Rz Rq
          have HB := Lib.hid (S3.out.below.trans B2)
          have HZ := Lib.hid Rz
          clear B2 Rz Rq
          simp only [Act.put, List.setIfInBounds_toArray, List.set_cons_succ, List.set_cons_zero, Big]
          go_wp2_with fail
          rw [V.out]
          exact bodyPost_ret (v := .agg (arr (BigM.dg qv))) (results_cell_row Tryd.results46 _ _ (w.heap.size + 1 + 1) 47 (arr (BigM.dg qv)) (0, 0) _ rfl HZ.out uBig rfl (iBig _)) rfl ⟨rfl, HB.out⟩
        | succ e =>
          have C1 : decide (2 ^ (e + 1) ≠ 1) = true := by
            refine decide_eq_true ?_
            rw [Nat.pow_succ]
            have : 0 < 2 ^ e := Nat.two_pow_pos e
            omega
          go_upto_region 6 with fail
          refine quot_neq (2 ^ (e + 1)) HONE.out (B := wr.heap.size) (by kernel_rfl) rfl rfl rfl rfl rfl (Nat.le_refl _) rfl SS.out.ro ?_
          intro w1 B1 _
          have S3 := Lib.hid (SS.out.sub SS.out.size B1)
          clear SS B1
          rw [C1]
          simp only [Act.put, List.setIfInBounds_toArray, List.set_cons_succ, List.set_cons_zero, Big]
          go_upto_region 7 with fail
          refine quot_half r qv (y * 2 ^ (e + 1)) (2 ^ (e + 1)) HL2.out HONE.out (B := w.heap.size) (by kernel_rfl) rfl rfl rfl rfl rfl rfl rfl rfl S3.out.size rfl S3.out.ra rfl S3.out.rz rfl S3.out.rq rfl S3.out.rp (by have := II.out.hp; omega) rfl S3.out.ro (by have := II.out.ho; omega) (by have := II.out.hp; omega) (by have := II.out.ho; omega) (by have := II.out.hp; omega) (by have := II.out.ho; omega) (by have := II.out.hp; omega) (by have := II.out.ho; omega) II.out.ne ?_
          intro w2 B2 Ra Rz Rq Rp Ro
          have e1 : y * 2 ^ (e + 1) / 2 = y * 2 ^ e := by rw [Nat.pow_succ, ← Nat.mul_assoc]; omega
          have e2 : 2 ^ (e + 1) / 2 = 2 ^ e := by rw [Nat.pow_succ]; omega
          have S4 := Lib.hid (show QuotAt w.heap.size p o r qv (y * 2 ^ e) (2 ^ e) w w2 from ⟨S3.out.below.trans B2, Ra, Rz, Rq, by rw [← e1]; exact Rp, by rw [← e2]; exact Ro⟩)
          have HL3 : Hid (y * 2 ^ e < 65536 ^ 17) := Lib.hid (by have := HL2.out; omega)
          have HD := Lib.hid (show y * 2 ^ (e + 1) = y * 2 ^ e + y * 2 ^ e by rw [Nat.pow_succ, ← Nat.mul_assoc]; omega)
          have XL : Hid (x < 65536 ^ 17) := Lib.hid (by have := HX.out; omega)
          clear B2 Ra Rz Rq Rp Ro S3 e1 e2
          simp only [Act.put, List.setIfInBounds_toArray, List.set_cons_succ, List.set_cons_zero, Big]
          by_cases less : r < y * 2 ^ e
          · have C2 : decide (r < y * 2 ^ e) = true := decide_eq_true less
            have LS := Lib.hid less
            clear less
            go_upto_region 8 with fail
            refine quot_less2 r (y * 2 ^ e) (Nat.lt_of_le_of_lt HRX.out XL.out) HL3.out (B := w2.heap.size) (by kernel_rfl) rfl rfl rfl rfl rfl rfl (Nat.le_refl _) rfl S4.out.ra rfl S4.out.rp ?_
            intro w3 B3 _ _
            have S5 := Lib.hid (S4.out.sub S4.out.size B3)
            clear S4 B3
            rw [C2]
            simp only [Act.put, List.setIfInBounds_toArray, List.set_cons_succ, List.set_cons_zero, Big]
            go_wp2_with fail
            go_roundg e
            case rel => exact ⟨r, qv, HRX.out, LS.out, HQ.out, HL3.out, S5.out⟩
            case measure => omega
          · have C2 : decide (r < y * 2 ^ e) = false := decide_eq_false less
            have LS := Lib.hid (Nat.le_of_not_lt less)
            clear less
            go_upto_region 8 with fail
            refine quot_less2 r (y * 2 ^ e) (Nat.lt_of_le_of_lt HRX.out XL.out) HL3.out (B := w2.heap.size) (by kernel_rfl) rfl rfl rfl rfl rfl rfl (Nat.le_refl _) rfl S4.out.ra rfl S4.out.rp ?_
            intro w3 B3 _ _
            have S5 := Lib.hid (S4.out.sub S4.out.size B3)
            clear S4 B3
            rw [C2]
            simp only [Act.put, List.setIfInBounds_toArray, List.set_cons_succ, List.set_cons_zero, Big]
            go_upto_region 9 with fail
            refine quot_sub r qv (y * 2 ^ e) (2 ^ e) (Nat.lt_of_le_of_lt HRX.out XL.out) HL3.out LS.out (B := w.heap.size) (by kernel_rfl) rfl rfl rfl rfl rfl rfl S5.out.size rfl S5.out.ra (Nat.le_refl _) rfl S5.out.rz rfl S5.out.rq rfl S5.out.rp rfl S5.out.ro (by omega) (by omega) (by have := II.out.hp; omega) (by have := II.out.ho; omega) ?_
            intro w4 B4 Ra Rz Rq Rp Ro
            have S6 := Lib.hid (show QuotAt w.heap.size p o (r - y * 2 ^ e) qv (y * 2 ^ e) (2 ^ e) w w4 from ⟨S5.out.below.trans B4, Ra, Rz, Rq, Rp, Ro⟩)
            clear B4 Ra Rz Rq Rp Ro S5
            simp only [Act.put, List.setIfInBounds_toArray, List.set_cons_succ, List.set_cons_zero, Big]
            go_upto_region 10 with fail
            refine quot_addq (r - y * 2 ^ e) qv (y * 2 ^ e) (2 ^ e) (B := w.heap.size) (by kernel_rfl) rfl rfl rfl rfl rfl rfl S6.out.size rfl S6.out.ra rfl S6.out.rz rfl S6.out.rq (by omega) rfl S6.out.rp rfl S6.out.ro (by omega) (by omega) (by have := II.out.hp; omega) (by have := II.out.ho; omega) ?_
            intro w5 B5 Ra Rz Rq Rp Ro
            have S7 := Lib.hid (show QuotAt w.heap.size p o (r - y * 2 ^ e) (qv + 2 ^ e) (y * 2 ^ e) (2 ^ e) w w5 from ⟨S6.out.below.trans B5, Ra, Rz, Rq, Rp, Ro⟩)
            clear B5 Ra Rz Rq Rp Ro S6
            simp only [Act.put, List.setIfInBounds_toArray, List.set_cons_succ, List.set_cons_zero, Big]
            go_wp2_with fail
            go_roundg e
            case rel => exact ⟨r - y * 2 ^ e, qv + 2 ^ e, by have := HRX.out; omega, by have := HR.out; have := HD.out; omega, by have := HQ.out; have := LS.out; rw [Nat.add_mul, Nat.mul_comm (2 ^ e) y]; omega, HL3.out, S7.out⟩
            case measure => omega
    · have C1 : decide (x < y * 2 ^ e) = false := decide_eq_false c
      have LT := Lib.hid (Nat.le_of_not_lt c)
      clear c
      go_upto_region 3 with fail
      refine quot_less1 x (y * 2 ^ e) XL.out HL.out (B := wr.heap.size) (by kernel_rfl) rfl rfl rfl rfl rfl rfl (Nat.le_refl _) rfl S2.out.ra rfl S2.out.rp ?_
      intro w1 B1 _ _
      have S3 := Lib.hid (S2.out.sub S2.out.size B1)
      clear S2 B1
      rw [C1]
      simp only [Act.put, List.setIfInBounds_toArray, List.set_cons_succ, List.set_cons_zero, Big]
      go_upto_region 4 with fail
      refine quot_dbl_p x 0 (y * 2 ^ e) (2 ^ e) (B := w.heap.size) (by kernel_rfl) rfl rfl rfl rfl rfl rfl S3.out.size rfl S3.out.ra rfl S3.out.rz rfl S3.out.rq rfl S3.out.rp (by have := II.out.hp; omega) rfl S3.out.ro (by have := II.out.hp; omega) (by have := II.out.hp; omega) (by have := II.out.hp; omega) II.out.ne ?_
      intro w2 B2 Ra Rz Rq Rp Ro
      have S4 := Lib.hid (show QuotAt w.heap.size p o x 0 (y * 2 ^ e + y * 2 ^ e) (2 ^ e) w w2 from ⟨S3.out.below.trans B2, Ra, Rz, Rq, Rp, Ro⟩)
      clear B2 Ra Rz Rq Rp Ro S3
      simp only [Act.put, List.setIfInBounds_toArray, List.set_cons_succ, List.set_cons_zero, Big]
      go_upto_region 5 with fail
      refine quot_dbl_o x 0 (y * 2 ^ e + y * 2 ^ e) (2 ^ e) (B := w.heap.size) (by kernel_rfl) rfl rfl rfl rfl rfl rfl S4.out.size rfl S4.out.ra rfl S4.out.rz rfl S4.out.rq rfl S4.out.rp rfl S4.out.ro (by have := II.out.ho; omega) (by have := II.out.ho; omega) (by have := II.out.ho; omega) (by have := II.out.ho; omega) II.out.ne ?_
      intro w3 B3 Ra Rz Rq Rp Ro
      have d1 : y * 2 ^ (e + 1) = y * 2 ^ e + y * 2 ^ e := by rw [Nat.pow_succ, ← Nat.mul_assoc]; omega
      have d2 : 2 ^ (e + 1) = 2 ^ e + 2 ^ e := by rw [Nat.pow_succ]; omega
      have S5 := Lib.hid (show QuotAt w.heap.size p o x 0 (y * 2 ^ (e + 1)) (2 ^ (e + 1)) w w3 from ⟨S4.out.below.trans B3, Ra, Rz, Rq, by rw [d1]; exact Rp, by rw [d2]; exact Ro⟩)
      have D1 := Lib.hid d1
      clear B3 Ra Rz Rq Rp Ro S4 d1 d2
      simp only [Act.put, List.setIfInBounds_toArray, List.set_cons_succ, List.set_cons_zero, Big]
      go_wp2_with fail
      go_roundg (x + 1 - y * 2 ^ (e + 1))
      case rel => exact ⟨e + 1, rfl, by have := D1.out; have := LT.out; have := HX.out; omega, S5.out⟩
      case measure =>
        have h1 := HK.out
        have h2 := D1.out
        have h3 := LT.out
        have h4 : 0 < y * 2 ^ e := Nat.mul_pos HY0.out (Nat.two_pow_pos e)
        omega
end Go.Proofs.YtlniojmjakmcjaaDoor
