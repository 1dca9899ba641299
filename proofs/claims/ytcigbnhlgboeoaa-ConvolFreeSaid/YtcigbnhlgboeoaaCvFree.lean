/- ConvolFree: the least number of different symbols on a way that leaves the state 0 with a bit 1 and returns to it is 10. No condition. -/
import Derived.Test.YtcigbnhlgboeoaaRowKit
import Derived.Test.YtcigbnhlgboeoaaCvAwake
namespace Go.Proofs.Ytcigbnhlgboeoaa
open Go.ChangeShapes Go.WideShapes Go.ChangeAt Go.RowKit
set_option linter.unusedVariables false

namespace convolFree
/-- The states of the way of the message 80, and what it costs to come there. -/
def P (j : Nat) : Nat := [32, 16, 8, 4, 2, 1, 0].getD j 0
def D (j : Nat) : Nat := [2, 3, 5, 7, 7, 8, 10].getD j 0
theorem way : ∀ j, j < 6 → Cv.nx (P j) 0 = P (j + 1) ∧ D (j + 1) = D j + Cv.cost (P j) 0 ∧ 1 ≤ P j ∧ P j < 64 := by decide
/-- What is known of a state, or of the way back. -/
def val (f : Nat → Nat) (back s : Nat) : Nat := if s = 0 then back else f s
/-- The numbers in round r behind q of its 126 steps. -/
structure Good (r q : Nat) (f : Nat → Nat) (back : Nat) : Prop where
  lo : ∀ s, 1 ≤ s → s < 64 → 10 ≤ f s + Cv.bk s ∧ f s ≤ 1000
  bl : 10 ≤ back ∧ back ≤ 1000
  up : ∀ j, j < 7 → (j = 0 ∨ j ≤ r ∨ (j = r + 1 ∧ 2 * (P (j - 1) - 1) < q)) → val f back (P j) ≤ D j
theorem good_up {r q : Nat} {f f' : Nat → Nat} {back back' n k : Nat} (h : Good r q f back) (hq : q < 126) (hn : Cv.nx (q / 2 + 1) (q % 2) = n) (hk : f (q / 2 + 1) + Cv.cost (q / 2 + 1) (q % 2) = k)
    (hle : ∀ s, val f' back' s ≤ val f back s) (hnew : val f' back' n ≤ k) : ∀ j, j < 7 → (j = 0 ∨ j ≤ r ∨ (j = r + 1 ∧ 2 * (P (j - 1) - 1) < q + 1)) → val f' back' (P j) ≤ D j := by
  intro j hj hd
  by_cases g : j = 0 ∨ j ≤ r ∨ (j = r + 1 ∧ 2 * (P (j - 1) - 1) < q)
  · exact Nat.le_trans (hle _) (h.up j hj g)
  · obtain ⟨i, rfl⟩ : ∃ i, j = i + 1 := ⟨j - 1, by omega⟩
    rw [Nat.add_sub_cancel] at hd g
    obtain ⟨w1, w2, w3, w4⟩ := way i (by omega)
    have e1 : q / 2 + 1 = P i := by omega
    have e2 : q % 2 = 0 := by omega
    rw [e1, e2] at hn hk
    rw [w1] at hn
    have u := h.up i (by omega) (by omega)
    unfold val at u
    rw [if_neg (by omega)] at u
    rw [hn, w2]
    exact Nat.le_trans hnew (by omega)
theorem good_back {r q : Nat} {f : Nat → Nat} {back k : Nat} (h : Good r q f back) (hq : q < 126) (hn : Cv.nx (q / 2 + 1) (q % 2) = 0) (hk : f (q / 2 + 1) + Cv.cost (q / 2 + 1) (q % 2) = k) : Good r (q + 1) f (min back k) := by
  have st := Cv.bk_step (q / 2 + 1) (by omega) (q % 2) (by omega) (by omega)
  rw [hn, Cv.bk_zero] at st
  have l := h.lo (q / 2 + 1) (by omega) (by omega)
  have b := h.bl
  refine ⟨h.lo, by omega, good_up h hq hn hk (fun s => ?_) ?_⟩
  · unfold val
    split <;> omega
  · show (if (0 : Nat) = 0 then min back k else f 0) ≤ k
    rw [if_pos rfl]
    omega
theorem good_least {r q : Nat} {f : Nat → Nat} {back n k : Nat} (h : Good r q f back) (hq : q < 126) (hn : Cv.nx (q / 2 + 1) (q % 2) = n) (hn0 : n ≠ 0) (hk : f (q / 2 + 1) + Cv.cost (q / 2 + 1) (q % 2) = k) : Good r (q + 1) (fun j => if j = n then min (f n) k else f j) back := by
  have st := Cv.bk_step (q / 2 + 1) (by omega) (q % 2) (by omega) (by omega)
  rw [hn] at st
  have l := h.lo (q / 2 + 1) (by omega) (by omega)
  refine ⟨fun s h1 h2 => ?_, h.bl, good_up h hq hn hk (fun s => ?_) ?_⟩
  · have ls := h.lo s h1 h2
    by_cases e : s = n
    · rw [if_pos e]
      rw [e] at ls ⊢
      omega
    · rw [if_neg e]
      exact ls
  · unfold val
    by_cases e : s = 0
    · rw [if_pos e, if_pos e]
      exact Nat.le_refl _
    · rw [if_neg e, if_neg e]
      by_cases g : s = n
      · show (if s = n then min (f n) k else f s) ≤ f s
        rw [if_pos g, g]
        omega
      · show (if s = n then min (f n) k else f s) ≤ f s
        rw [if_neg g]
        exact Nat.le_refl _
  · unfold val
    rw [if_neg hn0]
    show (if n = n then min (f n) k else f n) ≤ k
    rw [if_pos rfl]
    omega
theorem P_le : ∀ j, P j ≤ 32 := by
  intro j
  by_cases h : j < 7
  · revert h
    revert j
    decide
  · unfold P
    rw [List.getD_eq_getElem?_getD, List.getElem?_eq_none (by simp; omega)]
    decide
theorem good_round {r : Nat} {f : Nat → Nat} {back : Nat} (h : Good r 126 f back) : Good (r + 1) 0 f back :=
  ⟨h.lo, h.bl, fun j hj hd => h.up j hj (by
    have := P_le (j - 1)
    omega)⟩
theorem good_start : Good 0 0 (fun j => if j = 32 then 2 else 1000) 1000 := by
  refine ⟨fun s h1 h2 => ?_, by omega, fun j hj hd => ?_⟩
  · by_cases e : s = 32
    · rw [if_pos e, e]
      decide
    · rw [if_neg e]
      omega
  · obtain rfl : j = 0 := by omega
    decide
theorem good_end {f : Nat → Nat} {back : Nat} (h : Good 64 0 f back) : back = 10 := by
  have u : back ≤ 10 := h.up 6 (by omega) (by omega)
  have := h.bl
  omega
theorem cost_dfr (s b : Nat) (h : Cv.s1 s b < 2 ∧ Cv.s2 s b < 2) : dfr ((Cv.s1 s b : Nat) : Int) ((Cv.s2 s b : Nat) : Int) = Cv.cost s b := by
  unfold dfr Cv.cost
  obtain ⟨h1, h2⟩ := h
  by_cases e1 : Cv.s1 s b = 0
  · by_cases e2 : Cv.s2 s b = 1
    · rw [if_pos (by omega), if_pos (by omega)]; omega
    · rw [if_pos (by omega), if_neg (by omega)]; omega
  · by_cases e2 : Cv.s2 s b = 1
    · rw [if_neg (by omega), if_pos (by omega)]; omega
    · rw [if_neg (by omega), if_neg (by omega)]; omega
theorem quiet_left {P : Program} {f : FuncId} {args : Array Value} {w : World} {n : Nat} {v : Value}
    (h : Calls P f args (w.drewN n) fun e w' => e = .returned v ∧ w.drewN n = w') : Calls P f args (w.drewN n) fun e w'' => e = .returned v ∧ ∃ m, w'' = w.drewN m :=
  h.mono fun _ _ ⟨he, hm⟩ => ⟨he, n, hm.symm⟩
theorem iRow (f : Nat → Nat) : (Try.prog.info? 36).map (·.size) = some (arrK .i64 64 f).size := by rw [arrK_size]; kernel_rfl
theorem zeroRow (w : World) : Sem.run Try.prog (zeroValue 36) w = .ok (.agg (arrK .i64 64 (fun _ => 0))) w := by rw [arrK_zero]; kernel_rfl
theorem built0 : Try.prog.built 36 [] = some (arrK .i64 64 (fun _ => 0)) := by rw [arrK_zero]; kernel_rfl
theorem lit64 : arrK .i64 64 (fun _ => 0) = #[.int .i64 0, .int .i64 0, .int .i64 0, .int .i64 0, .int .i64 0, .int .i64 0, .int .i64 0, .int .i64 0, .int .i64 0, .int .i64 0, .int .i64 0, .int .i64 0, .int .i64 0, .int .i64 0, .int .i64 0, .int .i64 0, .int .i64 0, .int .i64 0, .int .i64 0, .int .i64 0, .int .i64 0, .int .i64 0, .int .i64 0, .int .i64 0, .int .i64 0, .int .i64 0, .int .i64 0, .int .i64 0, .int .i64 0, .int .i64 0, .int .i64 0, .int .i64 0, .int .i64 0, .int .i64 0, .int .i64 0, .int .i64 0, .int .i64 0, .int .i64 0, .int .i64 0, .int .i64 0, .int .i64 0, .int .i64 0, .int .i64 0, .int .i64 0, .int .i64 0, .int .i64 0, .int .i64 0, .int .i64 0, .int .i64 0, .int .i64 0, .int .i64 0, .int .i64 0, .int .i64 0, .int .i64 0, .int .i64 0, .int .i64 0, .int .i64 0, .int .i64 0, .int .i64 0, .int .i64 0, .int .i64 0, .int .i64 0, .int .i64 0, .int .i64 0] := by rw [arrK_zero]; rfl
section
variable {ops : Array Oper} {rest : List Oper} {o : Oper} {a : Act} {w : World} {Q : Exit → Act → World → Prop}
theorem wpList_build0 (hg : o.guard = none) (ho : o.op = .build 36 #[])
    (h : wpList Try.prog ops Q rest (a.put o.dst (.agg (arrK .i64 64 (fun _ => 0)))) w) : wpList Try.prog ops Q (o :: rest) a w := by
  have e : (Try.prog.built 36 ((#[] : Array (Nat × Operand)).map fun (i, x) => (i, a.eval x)).toList) = some (arrK .i64 64 (fun _ => 0)) := by
    have := built0
    simpa using this
  refine wpList_build hg 36 #[] ho (by rw [e]; rfl) ?_
  rw [e]
  exact h
set_option maxRecDepth 100000 in
theorem wpList_alloc0 (hg : o.guard = none) (ho : o.op = .alloc 36) (h : wpList Try.prog ops Q rest (a.put o.dst (.pointer (some ⟨w.heap.size, 0, none⟩))) (w.alloc (.cells (arrK .i64 64 (fun _ => 0)) 36))) : wpList Try.prog ops Q (o :: rest) a w :=
  wpList_plain hg fun _ hK => by
    have hrun : (execOp a.eval o).run Try.prog w = .ok (.value (.pointer (some ⟨w.heap.size, 0, none⟩))) (w.alloc (.cells (arrK .i64 64 (fun _ => 0)) 36)) := by
      rw [lit64]
      simp only [execOp, ho]
      go_simp
    unfold Oper.wp
    rw [hrun, Oper.upon_value]
    exact hK _ _ h
end
set_option maxRecDepth 100000 in
set_option maxHeartbeats 1000000 in
theorem walk (w : World) :
    Calls Try.prog 8 #[] w fun e w' => e = .returned (.bool true) ∧ Below w.heap.size w w' := by
  have AW := Lib.hid (fun w => awake_any w)
  have AS := Lib.hid (fun i k hi hk w => step_in i k hi hk w)
  have AD := Lib.hid (fun a b w => differ_any a b w)
  have Z := Lib.hid (fun w => zeroRow w)
  have R1 := Lib.hid (show RowK .i64 64 36 ((w.alloc (.cells (arrK .i64 64 (fun _ => 0)) 36)).setRow w.heap.size (arrK .i64 64 (fun _ => 0))) w.heap.size (fun _ => 0) from setRow_heap _ _ _ _ _ _ (RowK.new w .i64 64 36 (fun _ => 0)))
  have B1 := Lib.hid (below_setRow (ba (Below.refl w.heap.size w) (.cells (arrK .i64 64 (fun _ => 0)) 36)) (Nat.le_refl _) (arrK .i64 64 (fun _ => 0)))
  have RN := Lib.hid (RowK.new w .i64 64 36 (fun _ => 0))
  go_enter Try.func8, Try.ntmps8
  go_upto_region 1 with fail
  refine wp_region_lit ?_
  refine wpList_build0 rfl rfl ?_
  simp only [Act.put, List.setIfInBounds_toArray, List.set_cons_succ, List.set_cons_zero]
  refine wpList_alloc0 rfl rfl ?_
  simp only [Act.put, List.setIfInBounds_toArray, List.set_cons_succ, List.set_cons_zero]
  refine wpList_store_row rfl 36 (.tmp 1) (.tmp 14) rfl w.heap.size (arrK .i64 64 (fun _ => 0)) rfl rfl _ _ RN.out (iRow _) rfl (arrK_one _ _ _) ?_
  refine wpList_nil ?_
  simp only [Act.put]
  obtain ⟨w1, hw1⟩ : ∃ w1, (w.alloc (.cells (arrK .i64 64 (fun _ => 0)) 36)).setRow w.heap.size (arrK .i64 64 (fun _ => 0)) = w1 := ⟨_, rfl⟩
  obtain ⟨z, hz⟩ : ∃ z, arrK .i64 64 (fun _ => 0) = z := ⟨_, rfl⟩
  rw [hw1] at R1 B1 ⊢
  rw [hz]
  clear hw1 hz RN Z
  go_wp2_with fail
  go_loopw [2] (fun x wr => ∃ i : Nat, i ≤ 64 ∧ x = .int .i64 (i : Nat) ∧ RowK .i64 64 36 wr w.heap.size (fun j => if j < i then 1000 else 0) ∧ Below w.heap.size w wr) (fun x _ => 64 - (intOf x).toNat)
  case atStart => exact ⟨0, Nat.zero_le _, rfl, R1.out.congr (fun i _ => by rw [if_neg (Nat.not_lt_zero i)]), B1.out⟩
  case round =>
    obtain ⟨i, hi, rfl, hR, hB⟩ := hrel
    have HR := Lib.hid hR
    have HB := Lib.hid hB
    clear hR hB R1 B1
    by_cases hlt : i < 64
    · have t1 : decide ((i : Int) < 64) = true := by simp; omega
      have c1 := HR.out.cell hlt
      rw [if_neg (Nat.lt_irrefl i)] at c1
      have f1 := HR.out.frozen i
      have R2 := Lib.hid ((HR.out.set i 1000).congr (g := fun j => if j < i + 1 then 1000 else 0) (fun j _ => by
        by_cases e : j = i
        · rw [if_pos e, if_pos (by omega)]
        · rw [if_neg e]
          by_cases g : j < i
          · rw [if_pos g, if_pos (by omega)]
          · rw [if_neg g, if_neg (by omega)]))
      have B2 := Lib.hid (HB.out.setCell (p := ⟨w.heap.size, i, none⟩) (Nat.le_refl _) (.int .i64 (1000 : Nat)))
      clear AW AS AD
      go_wp2_with fail
      go_roundw
      case rel => exact ⟨i + 1, by omega, by go_num, R2.out, B2.out⟩
      case measure => simp [intOf]; omega
    · have t1 : decide ((i : Int) < 64) = false := by simp; omega
      have R2 := Lib.hid (HR.out.congr (g := fun _ => 1000) (fun j hj => by rw [if_pos (by omega)]))
      have A2 := Lib.hid (AD.out 1 0)
      rw [show dfr 1 0 = 2 by decide] at A2
      clear HR
      go_wp2_with fail
      (with_reducible refine (wstepA _).mono ?_)
      rintro e w2 ⟨rfl, h2⟩
      have R3 := R2.out.below h2
      have B3 := Lib.hid (bt HB.out h2)
      have c2 := R3.cell (i := 32) (by omega)
      have f2 := R3.frozen 32
      have R4 := Lib.hid (show RowK .i64 64 36 (w2.setCell ⟨w.heap.size, 32, none⟩ (.int .i64 2)) w.heap.size (fun j => if j = 32 then 2 else 1000) from RowK.set R3 32 2)
      have B4 := Lib.hid (B3.out.setCell (p := ⟨w.heap.size, 32, none⟩) (Nat.le_refl _) (.int .i64 2))
      clear h2 R2 HB R3
      go_wp2_with fail
      (with_reducible refine (A2.out _).mono ?_)
      rintro e w' ⟨rfl, rfl⟩
      go_wp2_with fail
      obtain ⟨w3, hw3⟩ : ∃ w3, w2.setCell ⟨w.heap.size, 32, none⟩ (.int .i64 2) = w3 := ⟨_, rfl⟩
      rw [hw3] at R4 B4 ⊢
      have G0 := Lib.hid good_start
      obtain ⟨f0, hf0⟩ : ∃ f : Nat → Nat, (fun j => if j = 32 then 2 else 1000) = f := ⟨_, rfl⟩
      rw [hf0] at R4 G0
      clear hw3 hf0 B3 c2 f2 t1 A2
      go_loopw [6, 7] (fun y x wr => ∃ (r : Nat) (back : Nat) (f : Nat → Nat), r ≤ 64 ∧ x = .int .i64 (r : Nat) ∧ y = .int .i64 (back : Nat) ∧ Good r 0 f back ∧ RowK .i64 64 36 wr w.heap.size f ∧ Below w.heap.size w wr) (fun _ x _ => 64 - (intOf x).toNat)
      case atStart => exact ⟨0, 1000, f0, Nat.zero_le _, rfl, rfl, G0.out, R4.out, B4.out⟩
      case round =>
        obtain ⟨r, back, f, hr, rfl, rfl, hG, hR, hB⟩ := hrel
        have HG := Lib.hid hG
        have HR := Lib.hid hR
        have HB := Lib.hid hB
        clear hG hR hB R4 B4 G0
        by_cases hlt : r < 64
        · have t1 : decide ((r : Int) < 64) = true := by simp; omega
          go_wp2_with fail
          go_loopw [6, 8] (fun y x wr => ∃ (s : Nat) (back : Nat) (f : Nat → Nat), 1 ≤ s ∧ s ≤ 64 ∧ x = .int .i64 (s : Nat) ∧ y = .int .i64 (back : Nat) ∧ Good r (2 * (s - 1)) f back ∧ RowK .i64 64 36 wr w.heap.size f ∧ Below w.heap.size w wr) (fun _ x _ => 64 - (intOf x).toNat)
          case atStart => exact ⟨1, back, f, Nat.le_refl _, by omega, rfl, rfl, HG.out, HR.out, HB.out⟩
          case round =>
            clear HG HR HB
            obtain ⟨s, back, f, hs1, hs, rfl, rfl, hG, hR, hB⟩ := hrel
            have HG := Lib.hid hG
            have HR := Lib.hid hR
            have HB := Lib.hid hB
            clear hG hR hB
            by_cases hls : s < 64
            · have t2 : decide ((s : Int) < 64) = true := by simp; omega
              go_wp2_with fail
              go_loopw [6, 9] (fun y x wr => ∃ (b : Nat) (back : Nat) (f : Nat → Nat), b ≤ 2 ∧ x = .int .i64 (b : Nat) ∧ y = .int .i64 (back : Nat) ∧ Good r (2 * (s - 1) + b) f back ∧ RowK .i64 64 36 wr w.heap.size f ∧ Below w.heap.size w wr) (fun _ x _ => 2 - (intOf x).toNat)
              case atStart => exact ⟨0, back, f, Nat.zero_le _, rfl, rfl, HG.out, HR.out, HB.out⟩
              case round =>
                clear HG HR HB
                obtain ⟨b, back, f, hb, rfl, rfl, hG, hR, hB⟩ := hrel
                have HG := Lib.hid hG
                have HR := Lib.hid hR
                have HB := Lib.hid hB
                clear hR hB
                by_cases hlb : b < 2
                · have t3 : decide ((b : Int) < 2) = true := by simp; omega
                  have q1 : (2 * (s - 1) + b) / 2 + 1 = s := by omega
                  have q2 : (2 * (s - 1) + b) % 2 = b := by omega
                  have q3 : 2 * (s - 1) + b < 126 := by omega
                  have GB := Lib.hid (fun k hn hk => good_back (k := k) hG q3 hn hk)
                  have GL := Lib.hid (fun n k hn h0 hk => good_least (n := n) (k := k) hG q3 hn h0 hk)
                  rw [q1, q2] at GB GL
                  have fl := (hG.lo s hs1 hls).2
                  have bl := hG.bl.2
                  have S1 := Lib.hid (AS.out s b hls hlb)
                  unfold tupV stepV at S1
                  have DF := Lib.hid (fun w => differ_any (Cv.s1 s b : Nat) (Cv.s2 s b : Nat) w)
                  rw [cost_dfr s b ⟨Cv.s1_lt s b, Cv.s2_lt s b⟩] at DF
                  have n64 := Cv.nx_lt hls hlb
                  have x2 := Cv.s1_lt s b
                  have y2 := Cv.s2_lt s b
                  have cc : Cv.cost s b ≤ 2 := by unfold Cv.cost; omega
                  obtain ⟨n, hn⟩ : ∃ n, Cv.nx s b = n := ⟨_, rfl⟩
                  obtain ⟨x, hx⟩ : ∃ n, Cv.s1 s b = n := ⟨_, rfl⟩
                  obtain ⟨y, hy⟩ : ∃ n, Cv.s2 s b = n := ⟨_, rfl⟩
                  obtain ⟨c, hc⟩ : ∃ n, Cv.cost s b = n := ⟨_, rfl⟩
                  rw [hn, hx, hy] at S1
                  rw [hx, hy, hc] at DF
                  rw [hn, hc] at GB GL
                  rw [hn] at n64
                  rw [hx] at x2
                  rw [hy] at y2
                  rw [hc] at cc
                  obtain ⟨v, hv⟩ : ∃ v, f s = v := ⟨_, rfl⟩
                  rw [hv] at GB GL fl
                  obtain ⟨k, hk⟩ : ∃ k, v + c = k := ⟨_, rfl⟩
                  have GB1 := Lib.hid (fun h0 => GB.out k h0 hk)
                  have GL1 := Lib.hid (fun h0 => GL.out n k rfl h0 hk)
                  have HV := Lib.hid hv
                  have k1 : (v : Int) + (c : Int) = (k : Int) := by omega
                  have k2 : k ≤ 1002 := by omega
                  have d1 : decide ((n : Int) < 0) = false := by simp
                  have s9 : (s : Int) < 64 := by omega
                  have d2 : decide ((63 : Int) < (n : Int)) = false := by simp; omega
                  clear hn hx hy hc hv hk GB GL hG AS q1 q2 q3
                  go_wp2_with fail
                  (with_reducible refine (S1.out _).mono ?_)
                  rintro e w4 ⟨rfl, h4⟩
                  have R5 := HR.out.below h4
                  have HR5 := Lib.hid R5
                  have B5 := Lib.hid (bt HB.out h4)
                  have cs := R5.cell hls
                  rw [HV.out] at cs
                  clear h4 R5 HR HB
                  go_wp2_with fail
                  go_quiet ((go_at_call 18; exact quiet_left (DF.out _)))
                  have R6 := RowK.drewN HR5.out nq
                  have HR6 := Lib.hid R6
                  have B6 := Lib.hid (below_drewN B5.out nq)
                  by_cases e0 : n = 0
                  · obtain ⟨m, hm⟩ : ∃ m, min back k = m := ⟨_, rfl⟩
                    have GB2 := Lib.hid (GB1.out e0)
                    rw [hm] at GB2
                    have mn : min (back : Int) (k : Int) = (m : Int) := by omega
                    have n1 : ((n : Int) == 0) = true := by simp; omega
                    have m2 : m ≤ 1002 := by omega
                    clear GB1 GL1 hm e0 R6 HR5 cs S1 DF
                    go_wp2_with fail
                    go_roundw
                    case rel => exact ⟨b + 1, m, f, by omega, by go_num, rfl, GB2.out, HR6.out, B6.out⟩
                    case measure => simp [intOf]; omega
                  · have cn := R6.cell n64
                    have fn := R6.frozen n
                    obtain ⟨u, hu⟩ : ∃ u, f n = u := ⟨_, rfl⟩
                    obtain ⟨m, hm⟩ : ∃ m, min u k = m := ⟨_, rfl⟩
                    have GL2 := Lib.hid (GL1.out e0)
                    rw [hu, hm] at GL2
                    rw [hu] at cn
                    have n9 : (n : Int) < 64 := by omega
                    have mn : min (u : Int) (k : Int) = (m : Int) := by omega
                    have n1 : ((n : Int) == 0) = false := by simp; omega
                    have m2 : m ≤ 1002 := by omega
                    have R7 := Lib.hid (R6.set n m)
                    have B7 := Lib.hid (B6.out.setCell (p := ⟨w.heap.size, n, none⟩) (Nat.le_refl _) (.int .i64 (m : Nat)))
                    clear GB1 GL1 hm hu e0 R6 HR5 HR6 B6 cs S1 DF
                    go_wp2_with fail
                    go_roundw
                    case rel => exact ⟨b + 1, back, _, by omega, by go_num, rfl, GL2.out, R7.out, B7.out⟩
                    case measure => simp [intOf]; omega
                · have t3 : decide ((b : Int) < 2) = false := by simp; omega
                  have HG2 := Lib.hid (show Good r (2 * (s + 1 - 1)) f back by rw [show 2 * (s + 1 - 1) = 2 * (s - 1) + b by omega]; exact hG)
                  clear hG HG
                  go_wp2_with fail
                  go_roundw
                  case rel => exact ⟨s + 1, back, f, by omega, by omega, by go_num, rfl, HG2.out, HR.out, HB.out⟩
                  case measure => simp [intOf]; omega
            · have t2 : decide ((s : Int) < 64) = false := by simp; omega
              have HG2 := Lib.hid (good_round (show Good r 126 f back by rw [show 126 = 2 * (s - 1) by omega]; exact HG.out))
              clear HG
              go_wp2_with fail
              go_roundw
              case rel => exact ⟨r + 1, back, f, by omega, by go_num, rfl, HG2.out, HR.out, HB.out⟩
              case measure => simp [intOf]; omega
        · have t1 : decide ((r : Int) < 64) = false := by simp; omega
          have b10 := good_end (show Good 64 0 f back by rw [show 64 = r by omega]; exact HG.out)
          have z1 : ((back : Int) == 10) = true := by simp; omega
          clear HG HR b10
          go_wp2_with fail
          (with_reducible refine (AW.out _).mono ?_)
          rintro e w4 ⟨rfl, h4⟩
          have B5 := Lib.hid (bt HB.out h4)
          clear h4 HB
          go_wp2_with fail
          go_ret
          exact ⟨rfl, B5.out⟩

set_option maxRecDepth 100000 in
theorem lifted (os : Os) (started : os.Started) (H : Type) (enc : TypeId × Value → H) :
    ReturnsInHanded {} Try.checked os 8 .any (Rows.convolFreeSpec.pre6 enc Try.prog Try.f8 Rows.convolFreeRow.domain false) (Rows.convolFreeSpec.post enc Try.prog Try.f8 false true false false) := by
  refine returnsInHanded_of_change (C := Try.checked) own started (by kernel_rfl) Try.func8
    (ChangeSpec.witness6 (enc := enc) (C := Try.checked) false ⟨#[], #[], []⟩ 8 (by kernel_rfl) (by kernel_rfl) (by kernel_rfl) (by kernel_rfl)) ?_
  intro W base args ds gs before hval0 hW _ _
  have hval : ∀ (j : Nat) t v, Try.f8.params[j]? = some t → args[j]? = some v → Value.okWide Try.prog W .any base t v := hval0
  have hW' := hW
  obtain ⟨p, q, hA0, hV, rfl, hfz, hnd⟩ := hW
  have hA : DataW.TrodAll enc Try.prog W 0 (fun _ => true) true Try.f8.params.toList args.toList ds p := hA0
  rw [Try.params8] at hA hval
  obtain ⟨hargs, rfl, rfl⟩ := trodAll_nil hA
  obtain rfl : args = #[] := by cases args; simp_all
  obtain ⟨rfl, rfl⟩ := trodVars_none hV
  clear hA0 hval0
  simp only [List.append_nil] at hW'
  refine (walk  W).mono fun e W' ⟨he, hg⟩ => ?_
  subst he
  exact ⟨_, rfl, post_of_below (pa := []) (pv := []) hW' (fun _ _ _ => trodAll_cons_mk (shut_bool Try.underlying4 _) trodAll_mk0) (fun sp _ => trodAll_mk0) (fun _ _ => rfl) rfl
    hg (ok_one (by kernel_rfl) rfl (okWide_bool_mk Try.underlying4 _))⟩

theorem proved : Rows.ConvolFreeSaid :=
  OpenClaim.holds_of_wide 8 Try.f8 rfl rfl rfl rfl rfl rfl rfl ⟨rfl, rfl, rfl, rfl, rfl⟩ rfl rfl rfl rfl rfl (by kernel_rfl) Try.func8 (by kernel_rfl)
    (of_decide_eq_true (by kernel_rfl)) (by unfold Func.isWrapper; first | (rw [if_pos (by decide +kernel)]; kernel_rfl) | (rw [if_neg (by decide +kernel)]; exact ⟨rfl, rfl⟩))
    (fun os started H enc _ => lifted os started H enc)
#print axioms proved
end convolFree
end Go.Proofs.Ytcigbnhlgboeoaa
