/- The contract of perigeeref01's Root over this program. -/
import Derived.Test.YtlniojmjakmcjaaDoorRegRoot
namespace Go.Proofs.YtlniojmjakmcjaaDoor
open Go.RowKit
set_option linter.unusedVariables false

structure BRootAt (N p h x lo hi : Nat) (w0 w : World) : Prop where
  below : Below N w0 w
  ra : Row w N (BigM.dg x)
  rz : Row w (N + 1) (BigM.dg 0)
  rl : Row w (N + 1 + 1) (BigM.dg lo)
  ro : Row w p (BigM.dg 1)
  rh : Row w h (BigM.dg hi)
structure BRootIs (N p h : Nat) : Prop where
  hp : N + 1 + 1 < p
  hh : N + 1 + 1 < h
  ne : p ≠ h
theorem BRootAt.sub {N p h x lo hi : Nat} {w0 w w' : World} (S : BRootAt N p h x lo hi w0 w) (hB : N ≤ w.heap.size) (B : Below w.heap.size w w') : BRootAt N p h x lo hi w0 w' :=
  ⟨S.below.trans (B.mono hB), S.ra.below B, S.rz.below B, S.rl.below B, S.ro.below B, S.rh.below B⟩
theorem BRootAt.size {N p h x lo hi : Nat} {w0 w : World} (S : BRootAt N p h x lo hi w0 w) : N ≤ w.heap.size := Nat.le_of_lt S.ra.lt

/-- The second loop's state, so many rounds at most to come. -/
def BRoot2 (N p h x : Nat) (w0 : World) (g : Nat) (w : World) : Prop :=
  ∃ lo hi, g = hi - lo ∧ lo < hi ∧ hi ≤ 2 ^ 66 ∧ lo * lo ≤ x ∧ x < hi * hi ∧ BRootAt N p h x lo hi w0 w

set_option maxHeartbeats 8000000 in
set_option maxRecDepth 100000 in
theorem bigRoot_any (x : Nat) (hx : x < 2 ^ 130) (w : World) :
    Calls Tryd.prog 35 #[Big x] w fun e w' => e = .returned (Big (Fix.sq x)) ∧ Below w.heap.size w w' := by
  have HX := Lib.hid hx
  have XL : Hid (x < 65536 ^ 17) := Lib.hid (by omega)
  clear hx
  obtain ⟨R, hR⟩ : ∃ R, Fix.sq x = R := ⟨_, rfl⟩
  rw [hR]
  have HR := Lib.hid hR
  clear hR
  unfold Big
  go_enter Tryd.func35, Tryd.ntmps35
  go_upto_region 2 with fail
  refine world_var (fun W hW => ?_)
  have r0 : Row W w.heap.size (BigM.dg x) := by rw [hW]; exact ((row_new w _).alloc _).alloc _
  have r1 : Row W (w.heap.size + 1) (BigM.dg 0) := by
    rw [hW, dg_zero]
    have := (row_new (w.alloc (.cells (arr (BigM.dg x)) 47)) (fun _ => 0)).alloc (.cells (arr fun _ => 0) 47)
    rw [World.size_alloc] at this
    exact this
  have r2 : Row W (w.heap.size + 1 + 1) (BigM.dg 0) := by
    rw [hW, dg_zero]
    have := row_new ((w.alloc (.cells (arr (BigM.dg x)) 47)).alloc (.cells (arr fun _ => 0) 47)) (fun _ => 0)
    rw [World.size_alloc, World.size_alloc] at this
    exact this
  have B0 : Below w.heap.size w W := by rw [hW]; go_grown
  have l2 := r2.lt
  refine root_one (B := W.heap.size) (by kernel_rfl) rfl rfl rfl rfl rfl (Nat.le_refl _) ?_
  intro p w1 B1 hp Ro
  simp only [Act.put, List.setIfInBounds_toArray, List.set_cons_succ, List.set_cons_zero, ptr, Big]
  go_upto_region 3 with fail
  refine root_high (B := w1.heap.size) (by kernel_rfl) rfl rfl rfl rfl rfl (Nat.le_refl _) rfl Ro ?_
  intro h w2 B2 hh Rh Ro2
  have I : BRootIs w.heap.size p h := ⟨by omega, by have := B1.size; omega, by have := Ro.lt; omega⟩
  have T1 := B0.trans (B1.mono B0.size)
  have S : BRootAt w.heap.size p h x 0 1 w w2 := ⟨T1.trans (B2.mono T1.size), (r0.below B1).below B2, (r1.below B1).below B2, (r2.below B1).below B2, Ro2, Rh⟩
  have II := Lib.hid I
  have SS := Lib.hid S
  clear hW r0 r1 r2 B0 l2 B1 hp Ro B2 hh Rh Ro2 I T1 S
  clear w1
  clear W
  simp only [Act.put, List.setIfInBounds_toArray, List.set_cons_succ, List.set_cons_zero, ptr, Big]
  go_wp2_with fail
  go_loopw [6] (fun i wr => ∃ k : Nat, i = .int .i64 k ∧ k ≤ 66 ∧ BRootAt w.heap.size p h x 0 (2 ^ k) w wr) (fun i _ => 66 - (intOf i).toNat)
  case atStart => exact ⟨0, rfl, by omega, by simpa using SS.out⟩
  case round =>
    obtain ⟨k, rfl, hk, S⟩ := hrel
    have S2 := Lib.hid S
    clear S SS
    by_cases hlt : k < 66
    · have k1 : (k : Int) < 66 := by omega
      go_upto_region 7 with fail
      refine root_dbl x 0 (2 ^ k) (B := w.heap.size) (by kernel_rfl) rfl rfl rfl rfl rfl rfl S2.out.size rfl S2.out.ra rfl S2.out.rz rfl S2.out.rl rfl S2.out.ro rfl S2.out.rh (by have := II.out.hh; omega) (by have := II.out.hh; omega) (by have := II.out.hh; omega) (by have := II.out.hh; omega) II.out.ne ?_
      intro w3 B3 Ra Rz Rl Ro Rh
      have d2 : 2 ^ (k + 1) = 2 ^ k + 2 ^ k := by rw [Nat.pow_succ]; omega
      have S3 := Lib.hid (show BRootAt w.heap.size p h x 0 (2 ^ (k + 1)) w w3 from ⟨S2.out.below.trans B3, Ra, Rz, Rl, Ro, by rw [d2]; exact Rh⟩)
      clear B3 Ra Rz Rl Ro Rh d2 S2
      simp only [Act.put, List.setIfInBounds_toArray, List.set_cons_succ, List.set_cons_zero, Big]
      go_wp2_with fail
      go_roundw
      case rel => exact ⟨k + 1, by simp, by omega, S3.out⟩
      case measure => simp [intOf]; omega
    · obtain rfl : k = 66 := by omega
      have hxx : x < 2 ^ 66 * 2 ^ 66 := by have := HX.out; omega
      have S4 := Lib.hid (show BRoot2 w.heap.size p h x w (2 ^ 66) wr from ⟨0, 2 ^ 66, by omega, by omega, by omega, by omega, hxx, S2.out⟩)
      clear S2 hxx
      go_wp2_with fail
      go_loopg [7] (2 ^ 66) (fun g s wr => BRoot2 w.heap.size p h x w g wr)
      case atStart => exact S4.out
      case round =>
        obtain ⟨lo, hi, hg, hlt2, h66, hlo, hhi, S⟩ := hrel
        have SS := Lib.hid S
        have HG := Lib.hid hg
        have HLT := Lib.hid hlt2
        have H66 := Lib.hid h66
        have HLO := Lib.hid hlo
        have HHI := Lib.hid hhi
        clear S S4 hg hlt2 h66 hlo hhi
        by_cases more : lo + 1 < hi
        · have C1 : decide (lo + 1 < hi) = true := decide_eq_true more
          have MORE := Lib.hid more
          clear more
          go_upto_region 8 with fail
          refine root_less lo hi (by have := HLT.out; have := H66.out; omega) (by have := H66.out; omega) (B := wr.heap.size) (by kernel_rfl) rfl rfl rfl rfl rfl rfl rfl (Nat.le_refl _) rfl SS.out.rl rfl SS.out.ro rfl SS.out.rh ?_
          intro w3 B3 _ _ _
          have S3 := Lib.hid (SS.out.sub SS.out.size B3)
          clear SS B3
          rw [C1]
          simp only [Act.put, List.setIfInBounds_toArray, List.set_cons_succ, List.set_cons_zero, Big]
          go_upto_region 9 with fail
          refine root_mid lo hi (by have := HLT.out; have := H66.out; omega) (B := w3.heap.size) (by kernel_rfl) rfl rfl rfl rfl rfl rfl rfl rfl (Nat.le_refl _) rfl S3.out.rl rfl S3.out.rh ?_
          intro m w4 B4 hm Rm _ _
          have S5 := Lib.hid (S3.out.sub S3.out.size B4)
          have IM : Hid (w.heap.size + 1 + 1 < m ∧ p ≠ m ∧ h ≠ m) := Lib.hid ⟨by have := S3.out.rl.lt; omega, by have := S3.out.ro.lt; omega, by have := S3.out.rh.lt; omega⟩
          obtain ⟨mid, hmid⟩ : ∃ mid, (lo + hi) / 2 = mid := ⟨_, rfl⟩
          rw [hmid] at Rm ⊢
          have RM := Lib.hid Rm
          have m1 : lo < mid := by have := MORE.out; omega
          have m2 : mid < hi := by have := MORE.out; omega
          have M1 := Lib.hid m1
          have M2 := Lib.hid m2
          have mm : mid * mid < 2 ^ 66 * 2 ^ 66 := Nat.mul_lt_mul'' (by have := H66.out; omega) (by have := H66.out; omega)
          have MM : Hid (mid * mid < 65536 ^ 17) := Lib.hid (by omega)
          clear S3 B4 hm Rm hmid m1 m2 mm
          simp only [Act.put, List.setIfInBounds_toArray, List.set_cons_succ, List.set_cons_zero, ptr, Big]
          by_cases less : x < mid * mid
          · have C2 : decide (x < mid * mid) = true := decide_eq_true less
            have LS := Lib.hid less
            clear less
            go_upto_region 10 with fail
            refine root_cmp x mid (by have := M2.out; have := H66.out; omega) XL.out MM.out (B := w4.heap.size) (by kernel_rfl) rfl rfl rfl rfl rfl rfl rfl (Nat.le_refl _) rfl S5.out.ra rfl RM.out ?_
            intro w5 B5 _ Rm
            have S6 := Lib.hid (S5.out.sub S5.out.size B5)
            have RM := Lib.hid Rm
            clear S5 B5 Rm
            rw [C2]
            simp only [Act.put, List.setIfInBounds_toArray, List.set_cons_succ, List.set_cons_zero, Big]
            go_upto_region 11 with fail
            refine root_seth x lo hi mid (B := w.heap.size) (by kernel_rfl) rfl rfl rfl rfl S6.out.size rfl S6.out.ra rfl S6.out.rz rfl S6.out.rl rfl S6.out.ro rfl S6.out.rh (by have := II.out.hh; omega) rfl RM.out (by have := II.out.hh; omega) (by have := II.out.hh; omega) (by have := II.out.hh; omega) II.out.ne IM.out.2.2 ?_
            intro w6 B6 Ra Rz Rl Ro Rh _
            have S7 := Lib.hid (show BRootAt w.heap.size p h x lo mid w w6 from ⟨S6.out.below.trans B6, Ra, Rz, Rl, Ro, Rh⟩)
            clear S6 B6 Ra Rz Rl Ro Rh
            simp only [Act.put, List.setIfInBounds_toArray, List.set_cons_succ, List.set_cons_zero, Big]
            go_wp2_with fail
            go_roundg (mid - lo)
            case rel => exact ⟨lo, mid, rfl, M1.out, by have := M2.out; have := H66.out; omega, HLO.out, LS.out, S7.out⟩
            case measure =>
              have := M1.out
              have := M2.out
              have := HG.out
              omega
          · have C2 : decide (x < mid * mid) = false := decide_eq_false less
            have LS := Lib.hid (Nat.le_of_not_lt less)
            clear less
            go_upto_region 10 with fail
            refine root_cmp x mid (by have := M2.out; have := H66.out; omega) XL.out MM.out (B := w4.heap.size) (by kernel_rfl) rfl rfl rfl rfl rfl rfl rfl (Nat.le_refl _) rfl S5.out.ra rfl RM.out ?_
            intro w5 B5 _ Rm
            have S6 := Lib.hid (S5.out.sub S5.out.size B5)
            have RM := Lib.hid Rm
            clear S5 B5 Rm
            rw [C2]
            simp only [Act.put, List.setIfInBounds_toArray, List.set_cons_succ, List.set_cons_zero, Big]
            go_upto_region 12 with fail
            refine root_setl x lo hi mid (B := w.heap.size) (by kernel_rfl) rfl rfl rfl rfl S6.out.size rfl S6.out.ra rfl S6.out.rz rfl S6.out.rl (by omega) rfl S6.out.ro rfl S6.out.rh rfl RM.out (by omega) (by omega) (by have := II.out.hp; omega) (by have := II.out.hh; omega) (by have := IM.out.1; omega) ?_
            intro w6 B6 Ra Rz Rl Ro Rh _
            have S7 := Lib.hid (show BRootAt w.heap.size p h x mid hi w w6 from ⟨S6.out.below.trans B6, Ra, Rz, Rl, Ro, Rh⟩)
            clear S6 B6 Ra Rz Rl Ro Rh
            simp only [Act.put, List.setIfInBounds_toArray, List.set_cons_succ, List.set_cons_zero, Big]
            go_wp2_with fail
            go_roundg (hi - mid)
            case rel => exact ⟨mid, hi, rfl, M2.out, H66.out, LS.out, HHI.out, S7.out⟩
            case measure =>
              have := M1.out
              have := M2.out
              have := HG.out
              omega
        · have C1 : decide (lo + 1 < hi) = false := decide_eq_false more
          have e : hi = lo + 1 := by have := HLT.out; omega
          subst e
          have v : R = lo := by rw [← HR.out]; exact Fix.sq_of HLO.out HHI.out
          subst v
          clear more
          go_upto_region 8 with fail
          refine root_less R (R + 1) (by have := H66.out; omega) (by have := H66.out; omega) (B := wr.heap.size) (by kernel_rfl) rfl rfl rfl rfl rfl rfl rfl (Nat.le_refl _) rfl SS.out.rl rfl SS.out.ro rfl SS.out.rh ?_
          intro w3 B3 _ _ _
          have S3 := Lib.hid (SS.out.sub SS.out.size B3)
          clear SS B3
          rw [C1]
          simp only [Act.put, List.setIfInBounds_toArray, List.set_cons_succ, List.set_cons_zero, Big]
          go_upto_region 13 with fail
          refine root_res R (B := w.heap.size) (by kernel_rfl) rfl rfl rfl rfl S3.out.size rfl S3.out.rz (by omega) rfl S3.out.rl (by omega) ?_
          intro w4 B4 Rz Rl
          have HB := Lib.hid (S3.out.below.trans B4)
          have HZ := Lib.hid Rz
          clear B4 Rz Rl
          simp only [Act.put, List.setIfInBounds_toArray, List.set_cons_succ, List.set_cons_zero, Big]
          go_wp2_with fail
          exact bodyPost_ret (v := .agg (arr (BigM.dg R))) (results_cell_row Tryd.results35 _ _ (w.heap.size + 1) 47 (arr (BigM.dg R)) (0, 0) _ rfl HZ.out uBig rfl (iBig _)) rfl ⟨rfl, HB.out⟩
end Go.Proofs.YtlniojmjakmcjaaDoor
