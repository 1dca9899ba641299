/- The contract of slices.MinFunc over survivors, of one or of two, over this program. -/
import Derived.Test.YtgfihljledmaaaaVpCmp
import Derived.Test.YtgfihljledmaaaaVpCel
namespace Go.Proofs.Ytgfihljledmaaaa
open Go.RowKit
set_option linter.unusedVariables false

theorem iSv : (Try.prog.info? 68).map (·.size) = some 2 := by kernel_rfl
theorem pair_range {w : World} {b o : Nat} {x y : Value} (h0 : w.cell? ⟨b, o, none⟩ = some x) (h1 : w.cell? ⟨b, o + 1, none⟩ = some y) : w.rangeAt b o [x, y] := by
  intro j v hv
  match j, hv with
  | 0, hv => cases hv; exact h0
  | 1, hv => cases hv; exact h1
theorem calledS (pb ps ob os u : Int) (w : World) (h : cmpS pb ps ob os = u) : Calls Try.prog 42 (#[] ++ #[.agg #[.int .i64 pb, .int .i64 ps], .agg #[.int .i64 ob, .int .i64 os]] ++ #[]) w fun e w' => e = .returned (.int .i64 u) ∧ Below w.heap.size w w' := by
  subst h
  exact compare_any pb ps ob os w
structure MinRegion (W M : Nat) (b0 s0 b1 s1 u : Int) (A : Act) (w0 : World) (s : Nat → Bool) (a : Act) (w : World) : Prop where
  off : Off [20, 21, 22, 23, 24, 25, 26] a A
  before : Below w0.heap.size w0 w
  t0 : s 0 = true → a.eval (.tmp 20) = .func (.func 42) #[] #[]
  t1 : s 1 = true → a.eval (.tmp 21) = .slice (some ⟨W, 0, none⟩) 2 2
  t2 : s 2 = true → a.eval (.tmp 22) = .int .i64 1
  t3 : s 3 = true → a.eval (.tmp 23) = .pointer (some ⟨W, 2, none⟩)
  t4 : s 4 = true → a.eval (.tmp 24) = .agg #[.int .i64 b1, .int .i64 s1]
  t5 : s 5 = true → a.eval (.tmp 25) = .agg #[.int .i64 b0, .int .i64 s0]
  t6 : s 6 = true → a.eval (.tmp 26) = .int .i64 u
set_option maxHeartbeats 2000000 in
set_option maxRecDepth 100000 in
theorem minRegion {id : Nat} {l : List Oper} {A : Act} {w : World} {Q : Exit → Act → World → Prop} (W M : Nat) (b0 s0 b1 s1 u : Int)
    (hu : cmpS b1 s1 b0 s0 = u)
    (lW : W < w.heap.size) (lM : M < w.heap.size)
    (c2 : w.cell? ⟨W, 2, none⟩ = some (.int .i64 b1)) (c3 : w.cell? ⟨W, 2 + 1, none⟩ = some (.int .i64 s1)) (m0 : w.cell? ⟨M, 0, none⟩ = some (.int .i64 b0)) (m1 : w.cell? ⟨M, 0 + 1, none⟩ = some (.int .i64 s0))
    (hB : tableH l.toArray 7 (fun i => match i with | 0 => [] | 1 => [] | 2 => [] | 3 => [1, 2] | 4 => [3] | 5 => [] | 6 => [0, 4, 5] | _ => []) (fun _ => []) = true)
    (h0 : pick l 0 = some (.move (.tmp 1), some 20))
    (h1 : pick l 1 = some (.move (.tmp 0), some 21))
    (h2 : pick l 2 = some (.move (.tmp 6), some 22))
    (h3 : pick l 3 = some (.indexAddr 73 (.tmp 21) (.tmp 22), some 23))
    (h4 : pick l 4 = some (.load 68 (.tmp 23), some 24))
    (h5 : pick l 5 = some (.load 68 (.tmp 5), some 25))
    (h6 : pick l 6 = some (.call { callee := .value (.tmp 20), args := #[.tmp 24, .tmp 25], argTypes := #[68, 68] }, some 26))
    (hs : A.tmps.size = 33)
    (x0 : A.eval (.tmp 0) = .slice (some ⟨W, 0, none⟩) 2 2)
    (x1 : A.eval (.tmp 1) = .func (.func 42) #[] #[])
    (x5 : A.eval (.tmp 5) = .pointer (some ⟨M, 0, none⟩))
    (x6 : A.eval (.tmp 6) = .int .i64 1)
    (h : ∀ w1, Below w.heap.size w w1 → wpList Try.prog l.toArray Q (l.drop 7) (((((((A.put (some 20) (.func (.func 42) #[] #[])).put (some 21) (.slice (some ⟨W, 0, none⟩) 2 2)).put (some 22) (.int .i64 1)).put (some 23) (.pointer (some ⟨W, 2, none⟩))).put (some 24) (.agg #[.int .i64 b1, .int .i64 s1])).put (some 25) (.agg #[.int .i64 b0, .int .i64 s0])).put (some 26) (.int .i64 u)) w1) :
    (Code.region id l.toArray true).wp Try.prog Q A w := by
  refine wp_region_head (by kernel_rfl) _ _ _ hB (MinRegion W M b0 s0 b1 s1 u A w) ⟨Off.refl _ _, (Below.refl _ _).drew, by simp, by simp, by simp, by simp, by simp, by simp, by simp⟩ ?_ ?_
  · intro s a w' S i' o il ho hsi hT K hK
    have sz : a.tmps.size = 33 := by rw [S.off.2.1]; exact hs
    have y0 : a.eval (.tmp 0) = .slice (some ⟨W, 0, none⟩) 2 2 := by rw [S.off.eval (by decide)]; exact x0
    have y1 : a.eval (.tmp 1) = .func (.func 42) #[] #[] := by rw [S.off.eval (by decide)]; exact x1
    have y5 : a.eval (.tmp 5) = .pointer (some ⟨M, 0, none⟩) := by rw [S.off.eval (by decide)]; exact x5
    have y6 : a.eval (.tmp 6) = .int .i64 1 := by rw [S.off.eval (by decide)]; exact x6
    match i', il, ho, hsi, hT with
    | 0, _, ho, hsi, hT =>
      obtain ⟨e1, e2⟩ := pick_of h0 ho
      have BW := S.before
      refine step_val (v := .func (.func 42) #[] #[]) (by simp only [execOp, e1, y1]; go_simp) (hK _ _ ?_)
      rw [e2]
      exact ⟨S.off.put (by decide) _, S.before, fun _ => (eval_put _ _ _ (by omega)).trans rfl, fun g => by rw [eval_put_ne _ _ _ _ (by decide)]; exact S.t1 (by simpa using g), fun g => by rw [eval_put_ne _ _ _ _ (by decide)]; exact S.t2 (by simpa using g), fun g => by rw [eval_put_ne _ _ _ _ (by decide)]; exact S.t3 (by simpa using g), fun g => by rw [eval_put_ne _ _ _ _ (by decide)]; exact S.t4 (by simpa using g), fun g => by rw [eval_put_ne _ _ _ _ (by decide)]; exact S.t5 (by simpa using g), fun g => by rw [eval_put_ne _ _ _ _ (by decide)]; exact S.t6 (by simpa using g)⟩
    | 1, _, ho, hsi, hT =>
      obtain ⟨e1, e2⟩ := pick_of h1 ho
      have BW := S.before
      refine step_val (v := .slice (some ⟨W, 0, none⟩) 2 2) (by simp only [execOp, e1, y0]; go_simp) (hK _ _ ?_)
      rw [e2]
      exact ⟨S.off.put (by decide) _, S.before, fun g => by rw [eval_put_ne _ _ _ _ (by decide)]; exact S.t0 (by simpa using g), fun _ => (eval_put _ _ _ (by omega)).trans rfl, fun g => by rw [eval_put_ne _ _ _ _ (by decide)]; exact S.t2 (by simpa using g), fun g => by rw [eval_put_ne _ _ _ _ (by decide)]; exact S.t3 (by simpa using g), fun g => by rw [eval_put_ne _ _ _ _ (by decide)]; exact S.t4 (by simpa using g), fun g => by rw [eval_put_ne _ _ _ _ (by decide)]; exact S.t5 (by simpa using g), fun g => by rw [eval_put_ne _ _ _ _ (by decide)]; exact S.t6 (by simpa using g)⟩
    | 2, _, ho, hsi, hT =>
      obtain ⟨e1, e2⟩ := pick_of h2 ho
      have BW := S.before
      refine step_val (v := .int .i64 1) (by simp only [execOp, e1, y6]; go_simp) (hK _ _ ?_)
      rw [e2]
      exact ⟨S.off.put (by decide) _, S.before, fun g => by rw [eval_put_ne _ _ _ _ (by decide)]; exact S.t0 (by simpa using g), fun g => by rw [eval_put_ne _ _ _ _ (by decide)]; exact S.t1 (by simpa using g), fun _ => (eval_put _ _ _ (by omega)).trans rfl, fun g => by rw [eval_put_ne _ _ _ _ (by decide)]; exact S.t3 (by simpa using g), fun g => by rw [eval_put_ne _ _ _ _ (by decide)]; exact S.t4 (by simpa using g), fun g => by rw [eval_put_ne _ _ _ _ (by decide)]; exact S.t5 (by simpa using g), fun g => by rw [eval_put_ne _ _ _ _ (by decide)]; exact S.t6 (by simpa using g)⟩
    | 3, _, ho, hsi, hT =>
      obtain ⟨e1, e2⟩ := pick_of h3 ho
      have D1 : s 1 = true := list_pos hT (d := 1) (by decide)
      have D2 : s 2 = true := list_pos hT (d := 2) (by decide)
      have BW := S.before
      refine step_val (v := .pointer (some ⟨W, 2, none⟩)) (by simp only [execOp, e1, S.t1 D1, S.t2 D2]; go_simp) (hK _ _ ?_)
      rw [e2]
      exact ⟨S.off.put (by decide) _, S.before, fun g => by rw [eval_put_ne _ _ _ _ (by decide)]; exact S.t0 (by simpa using g), fun g => by rw [eval_put_ne _ _ _ _ (by decide)]; exact S.t1 (by simpa using g), fun g => by rw [eval_put_ne _ _ _ _ (by decide)]; exact S.t2 (by simpa using g), fun _ => (eval_put _ _ _ (by omega)).trans rfl, fun g => by rw [eval_put_ne _ _ _ _ (by decide)]; exact S.t4 (by simpa using g), fun g => by rw [eval_put_ne _ _ _ _ (by decide)]; exact S.t5 (by simpa using g), fun g => by rw [eval_put_ne _ _ _ _ (by decide)]; exact S.t6 (by simpa using g)⟩
    | 4, _, ho, hsi, hT =>
      obtain ⟨e1, e2⟩ := pick_of h4 ho
      have D3 : s 3 = true := list_pos hT (d := 3) (by decide)
      have BW := S.before
      refine wp_load_mid 68 (.tmp 23) e1 W 2 (S.t3 D3) [.int .i64 b1, .int .i64 s1] _ (pair_range ((BW.cell (p := ⟨W, 2, none⟩) lW).trans c2) ((BW.cell (p := ⟨W, 2 + 1, none⟩) lW).trans c3)) Try.underlying68 rfl iSv (hK _ _ ?_)
      rw [e2]
      exact ⟨S.off.put (by decide) _, S.before, fun g => by rw [eval_put_ne _ _ _ _ (by decide)]; exact S.t0 (by simpa using g), fun g => by rw [eval_put_ne _ _ _ _ (by decide)]; exact S.t1 (by simpa using g), fun g => by rw [eval_put_ne _ _ _ _ (by decide)]; exact S.t2 (by simpa using g), fun g => by rw [eval_put_ne _ _ _ _ (by decide)]; exact S.t3 (by simpa using g), fun _ => (eval_put _ _ _ (by omega)).trans rfl, fun g => by rw [eval_put_ne _ _ _ _ (by decide)]; exact S.t5 (by simpa using g), fun g => by rw [eval_put_ne _ _ _ _ (by decide)]; exact S.t6 (by simpa using g)⟩
    | 5, _, ho, hsi, hT =>
      obtain ⟨e1, e2⟩ := pick_of h5 ho
      have BW := S.before
      refine wp_load_mid 68 (.tmp 5) e1 M 0 (y5) [.int .i64 b0, .int .i64 s0] _ (pair_range ((BW.cell (p := ⟨M, 0, none⟩) lM).trans m0) ((BW.cell (p := ⟨M, 0 + 1, none⟩) lM).trans m1)) Try.underlying68 rfl iSv (hK _ _ ?_)
      rw [e2]
      exact ⟨S.off.put (by decide) _, S.before, fun g => by rw [eval_put_ne _ _ _ _ (by decide)]; exact S.t0 (by simpa using g), fun g => by rw [eval_put_ne _ _ _ _ (by decide)]; exact S.t1 (by simpa using g), fun g => by rw [eval_put_ne _ _ _ _ (by decide)]; exact S.t2 (by simpa using g), fun g => by rw [eval_put_ne _ _ _ _ (by decide)]; exact S.t3 (by simpa using g), fun g => by rw [eval_put_ne _ _ _ _ (by decide)]; exact S.t4 (by simpa using g), fun _ => (eval_put _ _ _ (by omega)).trans rfl, fun g => by rw [eval_put_ne _ _ _ _ (by decide)]; exact S.t6 (by simpa using g)⟩
    | 6, _, ho, hsi, hT =>
      obtain ⟨e1, e2⟩ := pick_of h6 ho
      have D0 : s 0 = true := list_pos hT (d := 0) (by decide)
      have D4 : s 4 = true := list_pos hT (d := 4) (by decide)
      have D5 : s 5 = true := list_pos hT (d := 5) (by decide)
      have BW := S.before
      refine step_callc 42 #[] #[] (fun args w => by go_simp) _ (by simp only [S.t0 D0]) _ _ e1 #[.agg #[.int .i64 b1, .int .i64 s1], .agg #[.int .i64 b0, .int .i64 s0]] (by simp only [List.map_toArray, List.map_cons, List.map_nil, S.t4 D4, S.t5 D5]) ((calledS b1 s1 b0 s0 u _ hu).mono ?_)
      rintro e w2 ⟨rfl, BB⟩
      refine ⟨_, rfl, hK _ _ ?_⟩
      rw [e2]
      exact ⟨S.off.put (by decide) _, bt BW BB, fun g => by rw [eval_put_ne _ _ _ _ (by decide)]; exact S.t0 (by simpa using g), fun g => by rw [eval_put_ne _ _ _ _ (by decide)]; exact S.t1 (by simpa using g), fun g => by rw [eval_put_ne _ _ _ _ (by decide)]; exact S.t2 (by simpa using g), fun g => by rw [eval_put_ne _ _ _ _ (by decide)]; exact S.t3 (by simpa using g), fun g => by rw [eval_put_ne _ _ _ _ (by decide)]; exact S.t4 (by simpa using g), fun g => by rw [eval_put_ne _ _ _ _ (by decide)]; exact S.t5 (by simpa using g), fun _ => (eval_put _ _ _ (by omega)).trans rfl⟩
    | _ + 7, il, _, _, _ => exact absurd il (by omega)
  · intro s a w' S hall
    have a0 := hall 0 (by omega)
    have a1 := hall 1 (by omega)
    have a2 := hall 2 (by omega)
    have a3 := hall 3 (by omega)
    have a4 := hall 4 (by omega)
    have a5 := hall 5 (by omega)
    have a6 := hall 6 (by omega)
    have e := off_norm _ (by intro d hd; simp at hd; omega) S.off
    simp only [List.foldl, S.t0 a0, S.t1 a1, S.t2 a2, S.t3 a3, S.t4 a4, S.t5 a5, S.t6 a6] at e
    rw [e]
    exact h _ S.before
theorem newCell (w : World) (C D : Array Value) (s t : TypeId) (j : Nat) (v : Value) (h : D[j]? = some v) : ((w.alloc (.cells C s)).alloc (.cells D t)).cell? ⟨w.heap.size + 1, j, none⟩ = some v := by
  have := World.cell?_alloc_new (w.alloc (.cells C s)) D t j
  rw [World.size_alloc] at this
  rw [this]
  exact h
set_option maxRecDepth 100000 in
set_option maxHeartbeats 1000000 in
theorem min1_any (W : Nat) (b0 s0 : Int) (w : World) (lW : W < w.heap.size) (c0 : w.cell? ⟨W, 0, none⟩ = some (.int .i64 b0)) (c1 : w.cell? ⟨W, 1, none⟩ = some (.int .i64 s0)) :
    Calls Try.prog 41 #[.slice (some ⟨W, 0, none⟩) 1 2, .func (.func 42) #[] #[]] w fun e w' => e = .returned (.agg #[.int .i64 b0, .int .i64 s0]) ∧ Below w.heap.size w w' := by
  have B1 := Lib.hid (ba (Below.refl w.heap.size w) (.cells #[.int .i64 0, .int .i64 0] 68))
  go_enter Try.func41, Try.ntmps41
  go_wp2_with fail
  refine wp_loop_rounds 1 ?_
  rw [rounds_succ]
  go_wp2_with fail
  exact bodyPost_ret (v := .agg #[.int .i64 b0, .int .i64 s0]) (results_cell_row Try.results41 _ _ w.heap.size 68 _ (0, 0) _ rfl ((Below.heap_alloc _ _ _ (by rw [World.size_alloc]; omega)).trans (heap_alloc_new _ _)) Try.underlying68 rfl iSv) rfl ⟨rfl, ba (ba (Below.refl _ _) _) _⟩
set_option maxRecDepth 100000 in
set_option maxHeartbeats 1000000 in
theorem min2_any (W : Nat) (b0 s0 b1 s1 : Int) (w : World) (lW : W < w.heap.size) (c0 : w.cell? ⟨W, 0, none⟩ = some (.int .i64 b0)) (c1 : w.cell? ⟨W, 1, none⟩ = some (.int .i64 s0)) (c2 : w.cell? ⟨W, 2, none⟩ = some (.int .i64 b1)) (c3 : w.cell? ⟨W, 3, none⟩ = some (.int .i64 s1)) :
    Calls Try.prog 41 #[.slice (some ⟨W, 0, none⟩) 2 2, .func (.func 42) #[] #[]] w fun e w' => e = .returned (if cmpS b1 s1 b0 s0 < 0 then .agg #[.int .i64 b1, .int .i64 s1] else .agg #[.int .i64 b0, .int .i64 s0]) ∧ Below w.heap.size w w' := by
  obtain ⟨u, hu⟩ : ∃ u, cmpS b1 s1 b0 s0 = u := ⟨_, rfl⟩
  have HU := Lib.hid hu
  rw [hu]
  clear hu
  obtain ⟨z, hz⟩ : ∃ z : Value, (if u < 0 then .agg #[.int .i64 b1, .int .i64 s1] else .agg #[.int .i64 b0, .int .i64 s0]) = z := ⟨_, rfl⟩
  rw [hz]
  have HZ := Lib.hid hz
  clear hz
  go_enter Try.func41, Try.ntmps41
  go_wp2_with fail
  refine wp_loop_rounds 2 ?_
  rw [rounds_succ]
  go_upto_region 7 with fail
  have BM := ba (ba (Below.refl w.heap.size w) (.cells #[.int .i64 0, .int .i64 0] 68)) (.cells #[.int .i64 b0, .int .i64 s0] 68)
  refine minRegion W (w.heap.size + 1) b0 s0 b1 s1 u HU.out (Nat.lt_of_lt_of_le lW BM.size) (by rw [World.size_alloc, World.size_alloc]; omega) ((BM.cell (p := ⟨W, 2, none⟩) lW).trans c2) ((BM.cell (p := ⟨W, 3, none⟩) lW).trans c3) (newCell w _ _ _ _ 0 _ rfl) (newCell w _ _ _ _ 1 _ rfl) (by kernel_rfl) rfl rfl rfl rfl rfl rfl rfl rfl rfl rfl rfl rfl ?_
  intro w1 D1
  simp only [Act.put, List.setIfInBounds_toArray, List.set_cons_succ, List.set_cons_zero, List.drop_succ_cons, List.drop_zero]
  have RH : w1.heap[w.heap.size]? = some (.cells #[.int .i64 0, .int .i64 0] 68 (0, 0)) := (D1.block _ (by rw [World.size_alloc, World.size_alloc]; omega)).trans ((Below.heap_alloc _ _ _ (by rw [World.size_alloc]; omega)).trans (heap_alloc_new _ _))
  have CM := (Cel.new (n := 2) (f := fun j => if j = 0 then .int .i64 b0 else .int .i64 s0) (w.alloc (.cells #[.int .i64 0, .int .i64 0] 68)) #[.int .i64 b0, .int .i64 s0] 68 (fun j hj => match j, hj with | 0, _ => rfl | 1, _ => rfl)).below D1
  rw [World.size_alloc] at CM
  have HB := Lib.hid (bt BM D1)
  have e2 := (bt BM D1).cell (p := ⟨W, 2, none⟩) lW
  have e3 := (bt BM D1).cell (p := ⟨W, 3, none⟩) lW
  rw [c2] at e2
  rw [c3] at e3
  clear BM D1 c0 c1 c2 c3 lW
  by_cases q : u < 0
  · have t1 : decide (u < 0) = true := by simpa using q
    have m0 := CM.cell (j := 0) (by omega)
    have m1 := CM.cell (j := 1) (by omega)
    have z0 := CM.frozen (j := 0) (by omega)
    have z1 := CM.frozen (j := 1) (by omega)
    have k1 := (CM.set 0 (.int .i64 b1)).cell (j := 1) (by omega)
    have y1 := (CM.set 0 (.int .i64 b1)).frozen (j := 1) (by omega)
    have C2 := Lib.hid ((CM.set 0 (.int .i64 b1)).set 1 (.int .i64 s1))
    have R2 := Lib.hid (show ((w1.setCell ⟨w.heap.size + 1, 0, none⟩ (.int .i64 b1)).setCell ⟨w.heap.size + 1, 1, none⟩ (.int .i64 s1)).heap[w.heap.size]? = _ from (Below.heap_setCell _ _ _ _ (by show w.heap.size ≠ w.heap.size + 1; omega)).trans ((Below.heap_setCell _ _ _ _ (by show w.heap.size ≠ w.heap.size + 1; omega)).trans RH))
    have B2 := Lib.hid ((HB.out.setCell (p := ⟨w.heap.size + 1, 0, none⟩) (Nat.le_succ _) (.int .i64 b1)).setCell (p := ⟨w.heap.size + 1, 1, none⟩) (Nat.le_succ _) (.int .i64 s1))
    have HZ1 := Lib.hid (HZ.out.symm.trans (if_pos q))
    clear HZ CM RH HB q HU
    go_wp2_with fail
    rw [rounds_succ]
    go_upto_region 9 with fail
    refine wp_region_lit ?_
    refine wpList_load_mid rfl 68 (.tmp 5) rfl (w.heap.size + 1) 0 rfl [.int .i64 b1, .int .i64 s1] _ (C2.out.range 0 _ (fun j v hv => match j, hv with | 0, hv => ⟨by omega, by cases hv; rfl⟩ | 1, hv => ⟨by omega, by cases hv; rfl⟩)) Try.underlying68 rfl iSv ?_
    simp only [Act.put, List.setIfInBounds_toArray, List.set_cons_succ, List.set_cons_zero]
    refine wpList_store_row rfl 68 (.tmp 4) (.tmp 32) rfl w.heap.size #[.int .i64 b1, .int .i64 s1] rfl rfl _ _ R2.out iSv rfl (by simp [Value.oneCell']) ?_
    refine wpList_nil ?_
    simp only [Exit.then]
    rename (∀ (a : Act) (w : World), Code.wp _ Code.ret _ a w → _) => hK
    apply hK
    apply wp_ret
    exact bodyPost_ret (v := .agg #[.int .i64 b1, .int .i64 s1]) (results_cell_row Try.results41 _ _ w.heap.size 68 #[.int .i64 b1, .int .i64 s1] (0, 0) _ rfl (setRow_heap _ _ _ _ _ _ R2.out) Try.underlying68 rfl iSv) rfl ⟨by rw [HZ1.out], below_setRow B2.out (Nat.le_refl _) _⟩
  · have t1 : decide (u < 0) = false := by simpa using q
    have C2 := Lib.hid CM
    have R2 := Lib.hid RH
    have B2 := Lib.hid HB.out
    have HZ1 := Lib.hid (HZ.out.symm.trans (if_neg q))
    clear HZ CM RH HB q HU
    go_wp2_with fail
    rw [rounds_succ]
    go_upto_region 9 with fail
    refine wp_region_lit ?_
    refine wpList_load_mid rfl 68 (.tmp 5) rfl (w.heap.size + 1) 0 rfl [.int .i64 b0, .int .i64 s0] _ (C2.out.range 0 _ (fun j v hv => match j, hv with | 0, hv => ⟨by omega, by cases hv; rfl⟩ | 1, hv => ⟨by omega, by cases hv; rfl⟩)) Try.underlying68 rfl iSv ?_
    simp only [Act.put, List.setIfInBounds_toArray, List.set_cons_succ, List.set_cons_zero]
    refine wpList_store_row rfl 68 (.tmp 4) (.tmp 32) rfl w.heap.size #[.int .i64 b0, .int .i64 s0] rfl rfl _ _ R2.out iSv rfl (by simp [Value.oneCell']) ?_
    refine wpList_nil ?_
    simp only [Exit.then]
    rename (∀ (a : Act) (w : World), Code.wp _ Code.ret _ a w → _) => hK
    apply hK
    apply wp_ret
    exact bodyPost_ret (v := .agg #[.int .i64 b0, .int .i64 s0]) (results_cell_row Try.results41 _ _ w.heap.size 68 #[.int .i64 b0, .int .i64 s0] (0, 0) _ rfl (setRow_heap _ _ _ _ _ _ R2.out) Try.underlying68 rfl iSv) rfl ⟨by rw [HZ1.out], below_setRow B2.out (Nat.le_refl _) _⟩
end Go.Proofs.Ytgfihljledmaaaa
