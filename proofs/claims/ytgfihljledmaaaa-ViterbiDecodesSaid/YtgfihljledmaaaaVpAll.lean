/- The contract of viterbi's allSteps over this program. -/
import Derived.Test.YtgfihljledmaaaaCvEnc
import Derived.Test.YtgfihljledmaaaaRegH
namespace Go.Proofs.Ytgfihljledmaaaa
open Go.RowKit
set_option linter.unusedVariables false

theorem zeroAllV (w : World) : Sem.run Try.prog (zeroValue 65) w = .ok (.agg (arrK .i64 384 (fun _ => 0))) w := by rw [arrK_zero]; kernel_rfl
theorem iAllV (f : Nat → Nat) : (Try.prog.info? 65).map (·.size) = some (arrK .i64 384 f).size := by rw [arrK_size]; kernel_rfl
/-- The table of all steps, in memory. -/
def TabV (w : World) (b : Nat) (f : Nat → Nat) : Prop := RowK .i64 384 65 w b f
set_option maxRecDepth 100000 in
set_option maxHeartbeats 1000000 in
theorem vallSteps_any (w : World) :
    Calls Try.prog 34 #[] w fun e w' => e = .returned (.agg (arrK .i64 384 tabN)) ∧ Below w.heap.size w w' := by
  have R0 := RowK.new w .i64 384 65 (fun _ => 0)
  have B0 := ba (Below.refl w.heap.size w) (.cells (arrK .i64 384 (fun _ => 0)) 65)
  have R1 := RowK.new (w.alloc (.cells (arrK .i64 384 (fun _ => 0)) 65)) .i64 384 65 (fun _ => 0)
  have B1 := ba B0 (.cells (arrK .i64 384 (fun _ => 0)) 65)
  have R2 := RowK.alloc R0 (.cells (arrK .i64 384 (fun _ => 0)) 65)
  rw [World.size_alloc] at R1
  have Z := Lib.hid (fun w => zeroAllV w)
  have HR1 := Lib.hid (R1.congr (g := tabK 0) (fun i _ => by unfold tabK; rw [if_neg (by omega)]))
  have HR2 := Lib.hid R2
  have HB1 := Lib.hid B1
  clear R0 B0 R1 B1 R2
  obtain ⟨z, hz⟩ : ∃ z, arrK .i64 384 (fun _ => 0) = z := ⟨_, rfl⟩
  rw [hz] at HR1 HR2 HB1 Z
  clear hz
  go_enter Try.func34, Try.ntmps34
  go_wp2_with (simp only [Z.out])
  go_loopw [7] (fun x wr => ∃ i : Nat, i ≤ 64 ∧ x = .int .i64 (i : Nat) ∧ RowK .i64 384 65 wr (w.heap.size + 1) (tabK (2 * i)) ∧ RowK .i64 384 65 wr w.heap.size (fun _ => 0) ∧ Below w.heap.size w wr) (fun x _ => 64 - (intOf x).toNat)
  case atStart => exact ⟨0, Nat.zero_le _, rfl, HR1.out, HR2.out, HB1.out⟩
  case round =>
    obtain ⟨i, hi, rfl, hR, hZ, hB⟩ := hrel
    have HR := Lib.hid hR
    have HZ := Lib.hid hZ
    have HB := Lib.hid hB
    clear hR hZ hB
    by_cases hlt : i < 64
    · have t1 : decide ((i : Int) < 64) = true := by simp; omega
      go_wp2_with fail
      go_loopw [10] (fun x wr => ∃ j : Nat, j ≤ 2 ∧ x = .int .i64 (j : Nat) ∧ RowK .i64 384 65 wr (w.heap.size + 1) (tabK (2 * i + j)) ∧ RowK .i64 384 65 wr w.heap.size (fun _ => 0) ∧ Below w.heap.size w wr) (fun x _ => 2 - (intOf x).toNat)
      case atStart => exact ⟨0, Nat.zero_le _, rfl, HR.out, HZ.out, HB.out⟩
      case round =>
        obtain ⟨j, hj, rfl, hR, hZ, hB⟩ := hrel
        have GR := Lib.hid hR
        have GZ := Lib.hid hZ
        have GB := Lib.hid hB
        clear hR hZ hB HR HZ HB
        by_cases hlj : j < 2
        · have t2 : decide ((j : Int) < 2) = true := by simp; omega
          have N := Lib.hid (fun w => step_in i j hlt hlj w)
          have tn := Lib.hid (tab_nums i j hlj)
          unfold tupV stepV at N
          obtain ⟨x, hx⟩ : ∃ x, Cv.nx i j = x := ⟨_, rfl⟩
          obtain ⟨y, hy⟩ : ∃ x, Cv.s1 i j = x := ⟨_, rfl⟩
          obtain ⟨v, hv⟩ : ∃ x, Cv.s2 i j = x := ⟨_, rfl⟩
          rw [hx, hy, hv] at N tn
          clear hx hy hv
          have o1 : (i : Int) < 64 := by omega
          have o2 : (j : Int) < 2 := by omega
          go_wp2_with fail
          (with_reducible refine (N.out _).mono ?_)
          rintro e w1 ⟨rfl, D1⟩
          have C1 := GR.out.below D1
          have Z1 := GZ.out.below D1
          have E1 := bt GB.out D1
          have m0 := C1.cell (show i * 6 + j * 3 < 384 by omega)
          have z0 := C1.frozen (i * 6 + j * 3)
          have m1 := (C1.set (i * 6 + j * 3) x).cell (show i * 6 + j * 3 + 1 < 384 by omega)
          have z1 := (C1.set (i * 6 + j * 3) x).frozen (i * 6 + j * 3 + 1)
          have m2 := ((C1.set (i * 6 + j * 3) x).set (i * 6 + j * 3 + 1) y).cell (show i * 6 + j * 3 + 2 < 384 by omega)
          have z2 := ((C1.set (i * 6 + j * 3) x).set (i * 6 + j * 3 + 1) y).frozen (i * 6 + j * 3 + 2)
          have C2 := Lib.hid ((((C1.set (i * 6 + j * 3) x).set (i * 6 + j * 3 + 1) y).set (i * 6 + j * 3 + 2) v).congr (g := tabK (2 * i + (j + 1))) (fun c _ => by
            show (if c = i * 6 + j * 3 + 2 then v else if c = i * 6 + j * 3 + 1 then y else if c = i * 6 + j * 3 then x else tabK (2 * i + j) c) = tabK (2 * i + (j + 1)) c
            unfold tabK
            by_cases e2 : c = i * 6 + j * 3 + 2
            · subst e2
              rw [if_pos rfl, if_pos (show i * 6 + j * 3 + 2 < 3 * (2 * i + (j + 1)) by omega)]
              exact tn.out.2.2.symm
            · rw [if_neg e2]
              by_cases e1 : c = i * 6 + j * 3 + 1
              · subst e1
                rw [if_pos rfl, if_pos (show i * 6 + j * 3 + 1 < 3 * (2 * i + (j + 1)) by omega)]
                exact tn.out.2.1.symm
              · rw [if_neg e1]
                by_cases e0 : c = i * 6 + j * 3
                · subst e0
                  rw [if_pos rfl, if_pos (show i * 6 + j * 3 < 3 * (2 * i + (j + 1)) by omega)]
                  exact tn.out.1.symm
                · rw [if_neg e0]
                  by_cases g : c < 3 * (2 * i + j)
                  · rw [if_pos g, if_pos (show c < 3 * (2 * i + (j + 1)) by omega)]
                  · rw [if_neg g, if_neg (show ¬ c < 3 * (2 * i + (j + 1)) by omega)]))
          have Z2 := Lib.hid (((Z1.setOther (c := w.heap.size + 1) (i := i * 6 + j * 3) (by omega) (.int .i64 (x : Nat))).setOther (c := w.heap.size + 1) (i := i * 6 + j * 3 + 1) (by omega) (.int .i64 (y : Nat))).setOther (c := w.heap.size + 1) (i := i * 6 + j * 3 + 2) (by omega) (.int .i64 (v : Nat)))
          have E2 := Lib.hid (((E1.setCell (p := ⟨w.heap.size + 1, i * 6 + j * 3, none⟩) (Nat.le_succ _) (.int .i64 (x : Nat))).setCell (p := ⟨w.heap.size + 1, i * 6 + j * 3 + 1, none⟩) (Nat.le_succ _) (.int .i64 (y : Nat))).setCell (p := ⟨w.heap.size + 1, i * 6 + j * 3 + 2, none⟩) (Nat.le_succ _) (.int .i64 (v : Nat)))
          clear C1 Z1 E1 D1 GR GZ GB N tn
          go_wp2_with fail
          go_roundw
          case rel => exact ⟨j + 1, by omega, by go_num, C2.out, Z2.out, E2.out⟩
          case measure => simp [intOf]; omega
        · have t2 : decide ((j : Int) < 2) = false := by simp; omega
          have j2 : j = 2 := by omega
          have C2 := Lib.hid (show RowK .i64 384 65 wr (w.heap.size + 1) (tabK (2 * (i + 1))) by rw [show 2 * (i + 1) = 2 * i + j by omega]; exact GR.out)
          clear j2 GR
          go_wp2_with fail
          go_roundw
          case rel => exact ⟨i + 1, by omega, by go_num, C2.out, GZ.out, GB.out⟩
          case measure => simp [intOf]; omega
    · have t1 : decide ((i : Int) < 64) = false := by simp; omega
      have C9 := Lib.hid (HR.out.congr (g := tabN) (fun c hc => by unfold tabK; rw [if_pos (by omega)]))
      clear HR
      go_upto_region 12 with fail
      refine wp_region_lit ?_
      refine wpList_load_row rfl 65 (.tmp 1) rfl (w.heap.size + 1) rfl _ _ _ _ C9.out Try.underlying65 rfl (iAllV _) ?_
      simp only [Act.put, List.setIfInBounds_toArray, List.set_cons_succ, List.set_cons_zero]
      refine wpList_store_row rfl 65 (.tmp 0) (.tmp 30) rfl w.heap.size (arrK .i64 384 tabN) rfl rfl _ _ HZ.out (iAllV _) (by rw [arrK_size, arrK_size]) (arrK_one _ _ _) ?_
      refine wpList_nil ?_
      simp only [Exit.then]
      rename (∀ (a : Act) (w : World), Code.wp _ Code.ret _ a w → _) => hK
      apply hK
      apply wp_ret
      exact bodyPost_ret (v := .agg (arrK .i64 384 tabN)) (results_cell_row Try.results34 _ _ w.heap.size 65 (arrK .i64 384 tabN) (0, 0) _ rfl (setRow_heap _ _ _ _ _ _ HZ.out) Try.underlying65 rfl (iAllV _)) rfl ⟨rfl, below_setRow HB.out (Nat.le_refl _) _⟩
end Go.Proofs.Ytgfihljledmaaaa
