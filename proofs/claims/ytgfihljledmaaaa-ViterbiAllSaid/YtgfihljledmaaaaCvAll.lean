/- The contract of convol's allSteps over this program: the table of all steps. -/
import Derived.Test.YtgfihljledmaaaaCvStep
import Derived.Test.YtgfihljledmaaaaRegH
import Derived.Laws.IdiomCopy
namespace Go.Proofs.Ytgfihljledmaaaa
open Go.RowKit
set_option linter.unusedVariables false

structure AsRegion (i j b : Nat) (A : Act) (w0 : World) (s : Nat → Bool) (a : Act) (w : World) : Prop where
  off : Off [10, 11, 12, 13, 14, 15, 16] a A
  before : Below w0.heap.size w0 w
  t0 : s 0 = true → a.eval (.tmp 10) = .int .i64 (i : Nat)
  t1 : s 1 = true → a.eval (.tmp 11) = .int .i64 (j : Nat)
  t2 : s 2 = true → a.eval (.tmp 12) = .int .i64 (i : Nat)
  t3 : s 3 = true → a.eval (.tmp 13) = .int .i64 (j : Nat)
  t4 : s 4 = true → a.eval (.tmp 14) = .agg (stepV i j)
  t5 : s 5 = true → a.eval (.tmp 15) = .pointer (some ⟨b, i * 6, none⟩)
  t6 : s 6 = true → a.eval (.tmp 16) = .pointer (some ⟨b, i * 6 + j * 3, none⟩)
set_option maxHeartbeats 2000000 in
set_option maxRecDepth 100000 in
theorem asRegion {id : Nat} {l : List Oper} {A : Act} {w : World} {Q : Exit → Act → World → Prop} (i j b : Nat)
    (hi : i < 64) (hj : j < 2)
    (hB : tableH l.toArray 7 (fun i => match i with | 0 => [] | 1 => [] | 2 => [] | 3 => [] | 4 => [2, 3] | 5 => [0] | 6 => [1, 5] | _ => []) (fun _ => []) = true)
    (h0 : pick l 0 = some (.move (.tmp 2), some 10))
    (h1 : pick l 1 = some (.move (.tmp 3), some 11))
    (h2 : pick l 2 = some (.move (.tmp 2), some 12))
    (h3 : pick l 3 = some (.move (.tmp 3), some 13))
    (h4 : pick l 4 = some (.call { callee := .value (.func 43), args := #[.tmp 12, .tmp 13], argTypes := #[3, 3] }, some 14))
    (h5 : pick l 5 = some (.indexAddr 80 (.tmp 1) (.tmp 10), some 15))
    (h6 : pick l 6 = some (.indexAddr 79 (.tmp 15) (.tmp 11), some 16))
    (hs : A.tmps.size = 20)
    (x2 : A.eval (.tmp 2) = .int .i64 (i : Nat))
    (x3 : A.eval (.tmp 3) = .int .i64 (j : Nat))
    (x1 : A.eval (.tmp 1) = .pointer (some ⟨b, 0, none⟩))
    (h : ∀ w1, Below w.heap.size w w1 → wpList Try.prog l.toArray Q (l.drop 7) (((((((A.put (some 10) (.int .i64 (i : Nat))).put (some 11) (.int .i64 (j : Nat))).put (some 12) (.int .i64 (i : Nat))).put (some 13) (.int .i64 (j : Nat))).put (some 14) (.agg (stepV i j))).put (some 15) (.pointer (some ⟨b, i * 6, none⟩))).put (some 16) (.pointer (some ⟨b, i * 6 + j * 3, none⟩))) w1) :
    (Code.region id l.toArray true).wp Try.prog Q A w := by
  refine wp_region_head (by kernel_rfl) _ _ _ hB (AsRegion i j b A w) ⟨Off.refl _ _, (Below.refl _ _).drew, by simp, by simp, by simp, by simp, by simp, by simp, by simp⟩ ?_ ?_
  · intro s a w' S i' o il ho hsi hT K hK
    have sz : a.tmps.size = 20 := by rw [S.off.2.1]; exact hs
    have y2 : a.eval (.tmp 2) = .int .i64 (i : Nat) := by rw [S.off.eval (by decide)]; exact x2
    have y3 : a.eval (.tmp 3) = .int .i64 (j : Nat) := by rw [S.off.eval (by decide)]; exact x3
    have y1 : a.eval (.tmp 1) = .pointer (some ⟨b, 0, none⟩) := by rw [S.off.eval (by decide)]; exact x1
    match i', il, ho, hsi, hT with
    | 0, _, ho, hsi, hT =>
      obtain ⟨e1, e2⟩ := pick_of h0 ho
      have BW := S.before
      refine step_val (v := .int .i64 (i : Nat)) (by simp only [execOp, e1, y2]; go_simp) (hK _ _ ?_)
      rw [e2]
      exact ⟨S.off.put (by decide) _, S.before, fun _ => (eval_put _ _ _ (by omega)).trans rfl, fun g => by rw [eval_put_ne _ _ _ _ (by decide)]; exact S.t1 (by simpa using g), fun g => by rw [eval_put_ne _ _ _ _ (by decide)]; exact S.t2 (by simpa using g), fun g => by rw [eval_put_ne _ _ _ _ (by decide)]; exact S.t3 (by simpa using g), fun g => by rw [eval_put_ne _ _ _ _ (by decide)]; exact S.t4 (by simpa using g), fun g => by rw [eval_put_ne _ _ _ _ (by decide)]; exact S.t5 (by simpa using g), fun g => by rw [eval_put_ne _ _ _ _ (by decide)]; exact S.t6 (by simpa using g)⟩
    | 1, _, ho, hsi, hT =>
      obtain ⟨e1, e2⟩ := pick_of h1 ho
      have BW := S.before
      refine step_val (v := .int .i64 (j : Nat)) (by simp only [execOp, e1, y3]; go_simp) (hK _ _ ?_)
      rw [e2]
      exact ⟨S.off.put (by decide) _, S.before, fun g => by rw [eval_put_ne _ _ _ _ (by decide)]; exact S.t0 (by simpa using g), fun _ => (eval_put _ _ _ (by omega)).trans rfl, fun g => by rw [eval_put_ne _ _ _ _ (by decide)]; exact S.t2 (by simpa using g), fun g => by rw [eval_put_ne _ _ _ _ (by decide)]; exact S.t3 (by simpa using g), fun g => by rw [eval_put_ne _ _ _ _ (by decide)]; exact S.t4 (by simpa using g), fun g => by rw [eval_put_ne _ _ _ _ (by decide)]; exact S.t5 (by simpa using g), fun g => by rw [eval_put_ne _ _ _ _ (by decide)]; exact S.t6 (by simpa using g)⟩
    | 2, _, ho, hsi, hT =>
      obtain ⟨e1, e2⟩ := pick_of h2 ho
      have BW := S.before
      refine step_val (v := .int .i64 (i : Nat)) (by simp only [execOp, e1, y2]; go_simp) (hK _ _ ?_)
      rw [e2]
      exact ⟨S.off.put (by decide) _, S.before, fun g => by rw [eval_put_ne _ _ _ _ (by decide)]; exact S.t0 (by simpa using g), fun g => by rw [eval_put_ne _ _ _ _ (by decide)]; exact S.t1 (by simpa using g), fun _ => (eval_put _ _ _ (by omega)).trans rfl, fun g => by rw [eval_put_ne _ _ _ _ (by decide)]; exact S.t3 (by simpa using g), fun g => by rw [eval_put_ne _ _ _ _ (by decide)]; exact S.t4 (by simpa using g), fun g => by rw [eval_put_ne _ _ _ _ (by decide)]; exact S.t5 (by simpa using g), fun g => by rw [eval_put_ne _ _ _ _ (by decide)]; exact S.t6 (by simpa using g)⟩
    | 3, _, ho, hsi, hT =>
      obtain ⟨e1, e2⟩ := pick_of h3 ho
      have BW := S.before
      refine step_val (v := .int .i64 (j : Nat)) (by simp only [execOp, e1, y3]; go_simp) (hK _ _ ?_)
      rw [e2]
      exact ⟨S.off.put (by decide) _, S.before, fun g => by rw [eval_put_ne _ _ _ _ (by decide)]; exact S.t0 (by simpa using g), fun g => by rw [eval_put_ne _ _ _ _ (by decide)]; exact S.t1 (by simpa using g), fun g => by rw [eval_put_ne _ _ _ _ (by decide)]; exact S.t2 (by simpa using g), fun _ => (eval_put _ _ _ (by omega)).trans rfl, fun g => by rw [eval_put_ne _ _ _ _ (by decide)]; exact S.t4 (by simpa using g), fun g => by rw [eval_put_ne _ _ _ _ (by decide)]; exact S.t5 (by simpa using g), fun g => by rw [eval_put_ne _ _ _ _ (by decide)]; exact S.t6 (by simpa using g)⟩
    | 4, _, ho, hsi, hT =>
      obtain ⟨e1, e2⟩ := pick_of h4 ho
      have D2 : s 2 = true := list_pos hT (d := 2) (by decide)
      have D3 : s 3 = true := list_pos hT (d := 3) (by decide)
      have BW := S.before
      refine step_call 43 (fun args w => by go_simp) _ _ e1 #[.int .i64 (i : Nat), .int .i64 (j : Nat)] (by simp only [List.map_toArray, List.map_cons, List.map_nil, S.t2 D2, S.t3 D3]) ((newStep_any i j hi hj _).mono ?_)
      rintro e w2 ⟨rfl, BB⟩
      refine ⟨_, rfl, hK _ _ ?_⟩
      rw [e2]
      exact ⟨S.off.put (by decide) _, bt BW BB, fun g => by rw [eval_put_ne _ _ _ _ (by decide)]; exact S.t0 (by simpa using g), fun g => by rw [eval_put_ne _ _ _ _ (by decide)]; exact S.t1 (by simpa using g), fun g => by rw [eval_put_ne _ _ _ _ (by decide)]; exact S.t2 (by simpa using g), fun g => by rw [eval_put_ne _ _ _ _ (by decide)]; exact S.t3 (by simpa using g), fun _ => (eval_put _ _ _ (by omega)).trans rfl, fun g => by rw [eval_put_ne _ _ _ _ (by decide)]; exact S.t5 (by simpa using g), fun g => by rw [eval_put_ne _ _ _ _ (by decide)]; exact S.t6 (by simpa using g)⟩
    | 5, _, ho, hsi, hT =>
      obtain ⟨e1, e2⟩ := pick_of h5 ho
      have D0 : s 0 = true := list_pos hT (d := 0) (by decide)
      have BW := S.before
      refine step_val (v := .pointer (some ⟨b, i * 6, none⟩)) (by simp only [execOp, e1, y1, S.t0 D0]; go_simp; intro h; omega) (hK _ _ ?_)
      rw [e2]
      exact ⟨S.off.put (by decide) _, S.before, fun g => by rw [eval_put_ne _ _ _ _ (by decide)]; exact S.t0 (by simpa using g), fun g => by rw [eval_put_ne _ _ _ _ (by decide)]; exact S.t1 (by simpa using g), fun g => by rw [eval_put_ne _ _ _ _ (by decide)]; exact S.t2 (by simpa using g), fun g => by rw [eval_put_ne _ _ _ _ (by decide)]; exact S.t3 (by simpa using g), fun g => by rw [eval_put_ne _ _ _ _ (by decide)]; exact S.t4 (by simpa using g), fun _ => (eval_put _ _ _ (by omega)).trans rfl, fun g => by rw [eval_put_ne _ _ _ _ (by decide)]; exact S.t6 (by simpa using g)⟩
    | 6, _, ho, hsi, hT =>
      obtain ⟨e1, e2⟩ := pick_of h6 ho
      have D1 : s 1 = true := list_pos hT (d := 1) (by decide)
      have D5 : s 5 = true := list_pos hT (d := 5) (by decide)
      have BW := S.before
      refine step_val (v := .pointer (some ⟨b, i * 6 + j * 3, none⟩)) (by simp only [execOp, e1, S.t1 D1, S.t5 D5]; go_simp; intro h; omega) (hK _ _ ?_)
      rw [e2]
      exact ⟨S.off.put (by decide) _, S.before, fun g => by rw [eval_put_ne _ _ _ _ (by decide)]; exact S.t0 (by simpa using g), fun g => by rw [eval_put_ne _ _ _ _ (by decide)]; exact S.t1 (by simpa using g), fun g => by rw [eval_put_ne _ _ _ _ (by decide)]; exact S.t2 (by simpa using g), fun g => by rw [eval_put_ne _ _ _ _ (by decide)]; exact S.t3 (by simpa using g), fun g => by rw [eval_put_ne _ _ _ _ (by decide)]; exact S.t4 (by simpa using g), fun g => by rw [eval_put_ne _ _ _ _ (by decide)]; exact S.t5 (by simpa using g), fun _ => (eval_put _ _ _ (by omega)).trans rfl⟩
    | _ + 7, il, _, _, _ => exact absurd il (by omega)
  · intro s a w' S hall
    have a0 := hall 0 (by omega)
    have a1 := hall 1 (by omega)
    have a2 := hall 2 (by omega)
    have a3 := hall 3 (by omega)
    have a4 := hall 4 (by omega)
    have a5 := hall 5 (by omega)
    have a6 := hall 6 (by omega)
    have e := off_norm _ (by intro d hd; simp at hd; omega) S.off
    simp only [List.foldl, S.t0 a0, S.t1 a1, S.t2 a2, S.t3 a3, S.t4 a4, S.t5 a5, S.t6 a6] at e
    rw [e]
    exact h _ S.before
/-- The number at the place c of the table. -/
def tabN (c : Nat) : Nat := if c % 3 = 0 then Cv.nx (c / 6) (c / 3 % 2) else if c % 3 = 1 then Cv.s1 (c / 6) (c / 3 % 2) else Cv.s2 (c / 6) (c / 3 % 2)
/-- The table as it grows. -/
def tabK (m c : Nat) : Nat := if c < 3 * m then tabN c else 0
theorem stepV_arr (i j : Nat) (hj : j < 2) : stepV i j = arrK .i64 3 (fun q => tabN (i * 6 + j * 3 + q)) := by
  have e : ∀ q, q < 3 → (i * 6 + j * 3 + q) % 3 = q ∧ (i * 6 + j * 3 + q) / 6 = i ∧ (i * 6 + j * 3 + q) / 3 % 2 = j := fun q hq => by omega
  apply Array.ext_getElem?
  intro k
  by_cases hk : k < 3
  · rw [arrK_get _ _ _ _ hk]
    obtain ⟨e1, e2, e3⟩ := e k hk
    unfold tabN
    rw [e1, e2, e3]
    match k, hk with
    | 0, _ => rfl
    | 1, _ => rfl
    | 2, _ => rfl
  · rw [Array.getElem?_eq_none (by show 3 ≤ k; omega), Array.getElem?_eq_none (by rw [arrK_size]; omega)]
theorem zeroAll (w : World) : Sem.run Try.prog (zeroValue 80) w = .ok (.agg (arrK .i64 384 (fun _ => 0))) w := by rw [arrK_zero]; kernel_rfl
theorem iAll (f : Nat → Nat) : (Try.prog.info? 80).map (·.size) = some (arrK .i64 384 f).size := by rw [arrK_size]; kernel_rfl
theorem run_store_stp (w : World) (b o : Nat) (f : Nat → Nat) (h : ∀ j, j < 3 → (w.cell? ⟨b, o + j, none⟩).isSome = true) (hf : ∀ j, j < 3 → w.frozen? ⟨b, o + j, none⟩ = false) :
    (storeVar 78 ⟨b, o, none⟩ (.agg (arrK .i64 3 f))).run Try.prog w = .ok () (w.setCells b o (arrK .i64 3 f).toList) := by
  have := run_storeCells_cells (P := Try.prog) b o (arrK .i64 3 f).toList 0 w (fun j hj => by
    rw [Array.length_toList, arrK_size] at hj
    exact h j hj) (fun j hj => by
    rw [Array.length_toList, arrK_size] at hj
    exact hf j hj) (fun v hv => (Array.all_eq_true_iff_forall_mem.1 (arrK_one .i64 3 f)) v (by simpa using hv))
  rw [Nat.add_zero] at this
  simp [storeVar, Sem.run_bind, Value.cells, arrK_size, this]
section
variable {Q : Exit → Act → World → Prop}
theorem wpList_store_stp {ops : Array Oper} {rest : List Oper} {o : Oper} {a : Act} {w : World} (hg : o.guard = none) (x y : Operand) (ho : o.op = .store 78 x y) (b p : Nat) (f : Nat → Nat) (hx : a.eval x = .pointer (some ⟨b, p, none⟩)) (hy : a.eval y = .agg (arrK .i64 3 f))
    (h : ∀ j, j < 3 → (w.cell? ⟨b, p + j, none⟩).isSome = true) (hf : ∀ j, j < 3 → w.frozen? ⟨b, p + j, none⟩ = false) (hK : wpList Try.prog ops Q rest (a.put o.dst undef) (w.setCells b p (arrK .i64 3 f).toList)) : wpList Try.prog ops Q (o :: rest) a w :=
  wpList_plain hg fun _ hk => by
    unfold Oper.wp execOp
    simp only [ho, hx, hy, Instr.storeAt, Instr.sureAddr, Sem.run_bind, Sem.run_pure, Result.andThen_ok, run_store_stp w b p f h hf]
    exact hk _ _ hK
end
theorem arr3 (f : Nat → Nat) : (arrK .i64 3 f).toList = [.int .i64 (f 0 : Nat), .int .i64 (f 1 : Nat), .int .i64 (f 2 : Nat)] := rfl
/-- Three numbers of a row are stored. -/
theorem RowK.set3 {n : Nat} {t : TypeId} {w : World} {b : Nat} {f : Nat → Nat} (h : RowK .i64 n t w b f) (p : Nat) (g : Nat → Nat) : RowK .i64 n t (w.setCells b p (arrK .i64 3 g).toList) b (fun j => if p ≤ j ∧ j < p + 3 then g (j - p) else f j) := by
  rw [arr3]
  refine (((h.set p (g 0)).set (p + 1) (g 1)).set (p + 1 + 1) (g 2)).congr (fun j _ => ?_)
  by_cases e2 : j = p + 1 + 1
  · subst e2
    rw [if_pos rfl, if_pos (by omega), show p + 1 + 1 - p = 2 by omega]
  · rw [if_neg e2]
    by_cases e1 : j = p + 1
    · subst e1
      rw [if_pos rfl, if_pos (by omega), show p + 1 - p = 1 by omega]
    · rw [if_neg e1]
      by_cases e0 : j = p
      · subst e0
        rw [if_pos rfl, if_pos (by omega), show j - j = 0 by omega]
      · rw [if_neg e0, if_neg (by omega)]
theorem below_set3 {w0 w : World} {b p : Nat} (h : Below w0.heap.size w0 w) (hb : w0.heap.size ≤ b) (g : Nat → Nat) : Below w0.heap.size w0 (w.setCells b p (arrK .i64 3 g).toList) := by
  rw [arr3]
  exact ((h.setCell (p := ⟨b, p, none⟩) hb _).setCell (p := ⟨b, p + 1, none⟩) hb _).setCell (p := ⟨b, p + 1 + 1, none⟩) hb _
theorem RowK.other3 {n : Nat} {t : TypeId} {w : World} {b c p : Nat} {f : Nat → Nat} (h : RowK .i64 n t w b f) (hb : b ≠ c) (g : Nat → Nat) : RowK .i64 n t (w.setCells c p (arrK .i64 3 g).toList) b f := by
  rw [arr3]
  exact ((h.setOther hb _).setOther hb _).setOther hb _
/-- The table of all steps, in memory. -/
def Tab (w : World) (b : Nat) : Prop := RowK .i64 384 80 w b tabN
set_option maxRecDepth 100000 in
set_option maxHeartbeats 1000000 in
theorem allSteps_any (w : World) :
    Calls Try.prog 39 #[] w fun e w' => e = .returned (.agg (arrK .i64 384 tabN)) ∧ Below w.heap.size w w' := by
  have R0 := RowK.new w .i64 384 80 (fun _ => 0)
  have B0 := ba (Below.refl w.heap.size w) (.cells (arrK .i64 384 (fun _ => 0)) 80)
  have R1 := RowK.new (w.alloc (.cells (arrK .i64 384 (fun _ => 0)) 80)) .i64 384 80 (fun _ => 0)
  have B1 := ba B0 (.cells (arrK .i64 384 (fun _ => 0)) 80)
  have R2 := RowK.alloc R0 (.cells (arrK .i64 384 (fun _ => 0)) 80)
  rw [World.size_alloc] at R1
  have Z := Lib.hid (fun w => zeroAll w)
  have HR1 := Lib.hid (R1.congr (g := tabK 0) (fun i _ => by unfold tabK; rw [if_neg (by omega)]))
  have HR2 := Lib.hid R2
  have HB1 := Lib.hid B1
  clear R0 B0 R1 B1 R2
  obtain ⟨z, hz⟩ : ∃ z, arrK .i64 384 (fun _ => 0) = z := ⟨_, rfl⟩
  rw [hz] at HR1 HR2 HB1 Z
  clear hz
  go_enter Try.func39, Try.ntmps39
  go_wp2_with (simp only [Z.out])
  go_loopw [4] (fun x wr => ∃ i : Nat, i ≤ 64 ∧ x = .int .i64 (i : Nat) ∧ RowK .i64 384 80 wr (w.heap.size + 1) (tabK (2 * i)) ∧ RowK .i64 384 80 wr w.heap.size (fun _ => 0) ∧ Below w.heap.size w wr) (fun x _ => 64 - (intOf x).toNat)
  case atStart => exact ⟨0, Nat.zero_le _, rfl, HR1.out, HR2.out, HB1.out⟩
  case round =>
    obtain ⟨i, hi, rfl, hR, hZ, hB⟩ := hrel
    have HR := Lib.hid hR
    have HZ := Lib.hid hZ
    have HB := Lib.hid hB
    clear hR hZ hB
    by_cases hlt : i < 64
    · have t1 : decide ((i : Int) < 64) = true := by simp; omega
      go_wp2_with fail
      go_loopw [7] (fun x wr => ∃ j : Nat, j ≤ 2 ∧ x = .int .i64 (j : Nat) ∧ RowK .i64 384 80 wr (w.heap.size + 1) (tabK (2 * i + j)) ∧ RowK .i64 384 80 wr w.heap.size (fun _ => 0) ∧ Below w.heap.size w wr) (fun x _ => 2 - (intOf x).toNat)
      case atStart => exact ⟨0, Nat.zero_le _, rfl, HR.out, HZ.out, HB.out⟩
      case round =>
        obtain ⟨j, hj, rfl, hR, hZ, hB⟩ := hrel
        have GR := Lib.hid hR
        have GZ := Lib.hid hZ
        have GB := Lib.hid hB
        clear hR hZ hB HR HZ HB
        by_cases hlj : j < 2
        · have t2 : decide ((j : Int) < 2) = true := by simp; omega
          go_upto_region 8 with fail
          refine asRegion i j (w.heap.size + 1) hlt hlj (by kernel_rfl) rfl rfl rfl rfl rfl rfl rfl rfl rfl rfl rfl ?_
          intro w1 B1
          simp only [Act.put, List.setIfInBounds_toArray, List.set_cons_succ, List.set_cons_zero, List.drop_succ_cons, List.drop_zero]
          have C1 := GR.out.below B1
          have Z1 := GZ.out.below B1
          have E1 := bt GB.out B1
          rw [stepV_arr i j hlj]
          refine wpList_store_stp rfl (.tmp 16) (.tmp 14) rfl (w.heap.size + 1) (i * 6 + j * 3) (fun q => tabN (i * 6 + j * 3 + q)) rfl rfl (fun q hq => by rw [C1.cell (show i * 6 + j * 3 + q < 384 by omega)]; rfl) (fun q hq => C1.frozen _) ?_
          refine wpList_nil ?_
          simp only [Act.put]
          have C2 := Lib.hid ((C1.set3 (i * 6 + j * 3) (fun q => tabN (i * 6 + j * 3 + q))).congr (g := tabK (2 * i + (j + 1))) (fun c _ => by
            unfold tabK
            by_cases e : i * 6 + j * 3 ≤ c ∧ c < i * 6 + j * 3 + 3
            · rw [if_pos e, if_pos (by omega), show i * 6 + j * 3 + (c - (i * 6 + j * 3)) = c by omega]
            · rw [if_neg e]
              by_cases g : c < 3 * (2 * i + j)
              · rw [if_pos g, if_pos (by omega)]
              · rw [if_neg g, if_neg (by omega)]))
          have Z2 := Lib.hid (Z1.other3 (c := w.heap.size + 1) (p := i * 6 + j * 3) (by omega) (fun q => tabN (i * 6 + j * 3 + q)))
          have E2 := Lib.hid (below_set3 (p := i * 6 + j * 3) E1 (Nat.le_succ _) (fun q => tabN (i * 6 + j * 3 + q)))
          obtain ⟨w2, hw2⟩ : ∃ w2, w1.setCells (w.heap.size + 1) (i * 6 + j * 3) (arrK .i64 3 (fun q => tabN (i * 6 + j * 3 + q))).toList = w2 := ⟨_, rfl⟩
          obtain ⟨sv, hsv⟩ : ∃ sv, arrK .i64 3 (fun q => tabN (i * 6 + j * 3 + q)) = sv := ⟨_, rfl⟩
          rw [hw2] at C2 Z2 E2 ⊢
          rw [hsv]
          clear hw2 hsv C1 Z1 E1 B1 GR GZ GB
          go_wp2_with fail
          go_roundw
          case rel => exact ⟨j + 1, by omega, by go_num, C2.out, Z2.out, E2.out⟩
          case measure => simp [intOf]; omega
        · have t2 : decide ((j : Int) < 2) = false := by simp; omega
          have j2 : j = 2 := by omega
          have C2 := Lib.hid (show RowK .i64 384 80 wr (w.heap.size + 1) (tabK (2 * (i + 1))) by rw [show 2 * (i + 1) = 2 * i + j by omega]; exact GR.out)
          clear j2 GR
          go_wp2_with fail
          go_roundw
          case rel => exact ⟨i + 1, by omega, by go_num, C2.out, GZ.out, GB.out⟩
          case measure => simp [intOf]; omega
    · have t1 : decide ((i : Int) < 64) = false := by simp; omega
      have C9 := Lib.hid (HR.out.congr (g := tabN) (fun c hc => by unfold tabK; rw [if_pos (by omega)]))
      clear HR
      go_upto_region 11 with fail
      refine wp_region_lit ?_
      refine wpList_load_row rfl 80 (.tmp 1) rfl (w.heap.size + 1) rfl _ _ _ _ C9.out Try.underlying80 rfl (iAll _) ?_
      simp only [Act.put, List.setIfInBounds_toArray, List.set_cons_succ, List.set_cons_zero]
      refine wpList_store_row rfl 80 (.tmp 0) (.tmp 19) rfl w.heap.size (arrK .i64 384 tabN) rfl rfl _ _ HZ.out (iAll _) (by rw [arrK_size, arrK_size]) (arrK_one _ _ _) ?_
      refine wpList_nil ?_
      simp only [Exit.then]
      rename (∀ (a : Act) (w : World), Code.wp _ Code.ret _ a w → _) => hK
      apply hK
      apply wp_ret
      exact bodyPost_ret (v := .agg (arrK .i64 384 tabN)) (results_cell_row Try.results39 _ _ w.heap.size 80 (arrK .i64 384 tabN) (0, 0) _ rfl (setRow_heap _ _ _ _ _ _ HZ.out) Try.underlying80 rfl (iAll _)) rfl ⟨rfl, below_setRow HB.out (Nat.le_refl _) _⟩
end Go.Proofs.Ytgfihljledmaaaa
