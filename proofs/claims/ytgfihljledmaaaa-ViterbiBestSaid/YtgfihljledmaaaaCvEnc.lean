/- The contract of convol's Encode over this program. -/
import Derived.Test.YtgfihljledmaaaaCvAll
import Derived.Test.YtgfihljledmaaaaCvIter
namespace Go.Proofs.Ytgfihljledmaaaa
open Go.RowKit Go.Shelf
attribute [local go_sem] Oper.semAt_some
set_option linter.unusedVariables false

section
variable {F : Fence} {n : Nat} {P : Program} {ops : Array Oper} {Q : Exit → Act → World → Prop} {a : Act} {w : World} {rest : List Oper} {o : Oper}
/-- A whole row is stored, inside a fence. -/
theorem wpListIn_store_rowI (hg : o.guard = none) (ty : TypeId) (x y : Operand) (ho : o.op = .store ty x y) (g : Nat) (cells : Array Value) (hx : a.eval x = .pointer (some ⟨g, 0, none⟩)) (hy : a.eval y = .agg cells)
    (t : TypeId) (old : Array Value) (hgg : w.heap[g]? = some (.cells old t (0, 0))) (hi : (P.info? ty).map (·.size) = some cells.size) (hold : old.size = cells.size) (h1 : cells.all (·.oneCell') = true)
    (h : wpListIn F n P ops Q rest (a.put o.dst undef) (w.setRow g cells)) : wpListIn F n P ops Q (o :: rest) a w := by
  refine wpListIn_plain hg fun K hK => ?_
  unfold Oper.wpIn
  refine ⟨?_, ?_⟩
  · simp [Oper.about, ho]
  · rw [Oper.semAt_plain F _ _ (by rw [ho]; intro c hc'; cases hc')]
    unfold execOp
    simp only [ho, hx, hy, Instr.storeAt, Instr.sureAddr, Sem.run_bind, Sem.run_pure, Result.andThen_ok, run_storeVar_row w g t ty old cells hgg hi hold h1]
    exact hK _ _ h
end
theorem run_load_stp (w : World) (b o : Nat) (f : Nat → Nat) (h : ∀ j, j < 3 → w.cell? ⟨b, o + j, none⟩ = some (.int .i64 (f j : Nat))) : (loadVar 78 ⟨b, o, none⟩).run Try.prog w = .ok (.agg (arrK .i64 3 f)) w := by
  have hl : (loadCells ⟨b, o, none⟩ (arrK .i64 3 f).toList.length).run Try.prog w = .ok (arrK .i64 3 f).toList.toArray w :=
    run_loadCells_list (P := Try.prog) w ⟨b, o, none⟩ (arrK .i64 3 f).toList (fun j v hv => by
      rw [Array.getElem?_toList] at hv
      have hj : j < 3 := by
        have := (Array.getElem?_eq_some_iff.1 hv).1
        rwa [arrK_size] at this
      rw [arrK_get _ _ _ _ hj] at hv
      cases hv
      rw [add_off]
      exact h j hj)
  have ag : (isAgg 78).run Try.prog w = .ok true w := by kernel_rfl
  simp only [Array.length_toList, Array.toArray_toList, arrK_size] at hl
  simp [loadVar, Sem.run_bind, hl, ag]
theorem wpListIn_load_stp {F : Fence} {n : Nat} {ops : Array Oper} {Q : Exit → Act → World → Prop} {a : Act} {w : World} {rest : List Oper} {o : Oper} (hg : o.guard = none) (x : Operand) (ho : o.op = .load 78 x) (b p z0 z1 z2 : Nat) (hx : a.eval x = .pointer (some ⟨b, p, none⟩))
    (h0 : w.cell? ⟨b, p, none⟩ = some (.int .i64 z0)) (h1 : w.cell? ⟨b, p + 1, none⟩ = some (.int .i64 z1)) (h2 : w.cell? ⟨b, p + 1 + 1, none⟩ = some (.int .i64 z2)) (hK : wpListIn F n Try.prog ops Q rest (a.put o.dst (.agg #[.int .i64 z0, .int .i64 z1, .int .i64 z2])) w) : wpListIn F n Try.prog ops Q (o :: rest) a w := by
  refine wpListIn_plain hg fun K hK' => ?_
  have hl := run_load_stp w b p (fun q => if q = 0 then z0 else if q = 1 then z1 else z2) (fun j hj => match j, hj with
    | 0, _ => h0
    | 1, _ => h1
    | 2, _ => h2)
  rw [show arrK .i64 3 (fun q => if q = 0 then z0 else if q = 1 then z1 else z2) = #[.int .i64 z0, .int .i64 z1, .int .i64 z2] from rfl] at hl
  unfold Oper.wpIn
  refine ⟨?_, ?_⟩
  · simp [Oper.about, ho]
  · rw [Oper.semAt_plain F _ _ (by rw [ho]; intro c hc'; cases hc')]
    unfold execOp
    simp only [ho, hx, Instr.loadAt, Instr.sureAddr, Sem.run_bind, Sem.run_pure, Result.andThen_ok, hl]
    exact hK' _ _ hK
theorem tab_nums (s b : Nat) (hb : b < 2) : tabN (s * 6 + b * 3) = Cv.nx s b ∧ tabN (s * 6 + b * 3 + 1) = Cv.s1 s b ∧ tabN (s * 6 + b * 3 + 1 + 1) = Cv.s2 s b := by
  unfold tabN
  refine ⟨?_, ?_, ?_⟩
  · rw [if_pos (by omega), show (s * 6 + b * 3) / 6 = s by omega, show (s * 6 + b * 3) / 3 % 2 = b by omega]
  · rw [if_neg (by omega), if_pos (by omega), show (s * 6 + b * 3 + 1) / 6 = s by omega, show (s * 6 + b * 3 + 1) / 3 % 2 = b by omega]
  · rw [if_neg (by omega), if_neg (by omega), show (s * 6 + b * 3 + 1 + 1) / 6 = s by omega, show (s * 6 + b * 3 + 1 + 1) / 3 % 2 = b by omega]

set_option maxHeartbeats 1000000 in
theorem bitsOf_in (F : Fence) (n : Nat) (hF : F.fn 40) (hro : F.round = none) (s : ByteArray) (w : World) :
    CallsIn F n Try.prog 40 #[.string s] w fun e w' => e = .returned (.func (.func 44) #[] #[.pointer (some ⟨w.heap.size, 0, none⟩)]) ∧ w' = w.alloc (.cells #[.string s] 9) := by
  refine callsIn_of_wp Try.func40 rfl hF ?_ hro
  simp only [Try.ntmps40, List.size_toArray, List.length_cons, List.length_nil, Nat.reduceAdd, Nat.reduceSub, Array.replicate_succ, Array.replicate_zero, List.push_toArray, List.append_toArray, List.nil_append, List.cons_append]
  gi_wp2
  go_ret
  exact ⟨rfl, rfl⟩
/-- The iterator hands on the message's bits, as long as the box of the string stays. -/
theorem bitsOf_stops (F : Fence) (n : Nat) (hF : F.fn 44) (hro : F.round = none) (hn : 1 ≤ n) (B : Nat) (s : ByteArray) (m : Nat) (hm : s.size = m) (hs : m ≤ 1100) (g : Nat → Cv.Bit) (hg : ∀ i, (g i).1 = Cv.mb (Gal.co s.data.toList) m i) (w : World) (hb : Boxed w B 9 (.string s)) :
    SeqStopsK F n Try.prog 44 #[.pointer (some ⟨B, 0, none⟩)] (fun x : Cv.Bit => #[Value.int .i64 (x.1 : Nat)]) (KeepS B s)
      (fun ys => ys = Cv.upto g (8 * m + 6)) (fun _ => True) (8 * m + 6) w := fun l J Jx W hW _ _ hY h0 => by
  have hb' : Boxed W B 9 (.string s) := (hW.block B hb.lt).trans hb
  refine (bits1_in F n hF hro hn l B s m hm hs g hg J Jx hY W hb' h0).mono ?_
  rintro e W' ⟨he, h | ⟨pre, _, hj⟩⟩
  · exact ⟨he, .inl h⟩
  · exact ⟨he, .inr ⟨pre, trivial, hj⟩⟩
/-- What an append leaves as it was. -/
theorem append_keeps {W1 w3 : World} {n₀ k : Nat} {v : Value} {xs : List Value} {tmp : Obj} (hrow : W1.ownsRow n₀ 5 1 v k xs) (hgrow : (W1.alloc tmp).grownBy w3 v.ownBlock) (j : Nat) (o : Obj) (hj : W1.heap[j]? = some o)
    (ho : ∀ cs m, o ≠ .cells cs 5 m) : w3.heap[j]? = some o := by
  have hl : j < W1.heap.size := (Array.getElem?_eq_some_iff.1 hj).1
  have hne : some j ≠ v.ownBlock := by
    rcases hrow.2 with ⟨rfl, _⟩ | ⟨g, cap, cur, rfl, _, hgb, _⟩
    · simp [Value.ownBlock]
    · intro e'
      obtain rfl : j = g := by simpa [Value.ownBlock] using e'
      rw [hj] at hgb
      exact ho _ _ (Option.some.inj hgb)
  rw [hgrow.block j (by rw [World.size_alloc]; omega) hne, Below.heap_alloc _ _ _ hl]
  exact hj
theorem cell_setCell_row (W : World) (b c : Nat) (v : Value) (h : b ≠ c) : (W.setCell ⟨c, 0, none⟩ v).cell? ⟨b, 0, none⟩ = W.cell? ⟨b, 0, none⟩ :=
  World.cell?_setCell_other (h := fun e => h (congrArg Addr.block e).symm) ..
/-- A row's block is cells: it abides what turns no cells. -/
theorem rowK_own {β : Type} {k : IntKind} {n : Nat} {t : TypeId} {b : Nat} {f : Nat → Nat} : Own (fun (_ : β) W => RowK k n t W b f) := fun s X Y row hs hg hrow => by
  have hl : b < X.heap.size := RowK.lt hs
  refine (hg.block b hl (fun e' => ?_)).trans hs
  obtain ⟨o, ho, hc⟩ := hrow b e'.symm
  rw [show X.heap[b]? = _ from hs] at ho
  cases ho
  cases hc
/-- What stands in the cells between two rounds of Encode. -/
def EncI (n₀ B4 B5 B6 : Nat) (w : World) (pre : List Cv.Bit) (W : World) : Prop :=
  ((∃ v, Boxed W B5 37 v ∧ W.ownsRow n₀ 5 1 v (2 * pre.length) (vals (symB (Cv.gl pre)) (2 * pre.length)) ∧ True) ∧ Boxed W B6 3 (.int .i64 (Cv.stt (Cv.gl pre) pre.length : Nat)) ∧ RowK .i64 384 80 W B4 tabN) ∧ Below n₀ w W
theorem encI_own {n₀ B4 B5 B6 B : Nat} {w : World} (h1 : n₀ ≤ w.heap.size) (h2 : n₀ ≤ B) : OwnFrom B (EncI n₀ B4 B5 B6 w) :=
  OwnFrom.and (OwnFrom.and (Own.from (holdsRow_own n₀ B5 _ _ 1 (fun pre : List Cv.Bit => 2 * pre.length) (fun pre => vals (symB (Cv.gl pre)) (2 * pre.length)) (fun _ _ => True)) _)
    (OwnFrom.and (Own.from (boxed_own B6 _ _) _) (Own.from rowK_own _))) (ownFrom_below h1 h2)
theorem vals_snoc (pre : List Cv.Bit) (x : Cv.Bit) (st : Nat) (hst : Cv.stt (Cv.gl pre) pre.length = st) :
    vals (symB (Cv.gl (pre ++ [x]))) (2 * (pre ++ [x]).length) = vals (symB (Cv.gl pre)) (2 * pre.length) ++ [.int .u8 (Cv.s1 st x.1 : Nat), .int .u8 (Cv.s2 st x.1 : Nat)] := by
  have hlen : (pre ++ [x]).length = pre.length + 1 := by simp
  have hs : Cv.stt (Cv.gl (pre ++ [x])) pre.length = st := by
    rw [← hst]
    exact Cv.stt_congr _ (fun i hi => Cv.gl_old pre x i hi)
  rw [hlen, vals_two, hs, Cv.gl_new]
  congr 1
  exact vals_congr (fun i hi => by
    unfold symB
    rw [Cv.sym_congr pre.length (fun j hj => Cv.gl_old pre x j hj) i hi])
theorem stt_snoc (pre : List Cv.Bit) (x : Cv.Bit) (st : Nat) (hst : Cv.stt (Cv.gl pre) pre.length = st) : Cv.stt (Cv.gl (pre ++ [x])) (pre ++ [x]).length = Cv.nx st x.1 := by
  have hlen : (pre ++ [x]).length = pre.length + 1 := by simp
  have hs : Cv.stt (Cv.gl (pre ++ [x])) pre.length = st := by
    rw [← hst]
    exact Cv.stt_congr _ (fun i hi => Cv.gl_old pre x i hi)
  rw [hlen]
  show Cv.nx (Cv.stt _ pre.length) _ = _
  rw [hs, Cv.gl_new]

set_option maxRecDepth 100000 in
set_option maxHeartbeats 2000000 in
theorem encode_in (n : Nat) (hn : 3 ≤ n) (s : ByteArray) (m : Nat) (hm : s.size = m) (hs : m ≤ 1100) (w : World) :
    CallsIn Fence.wide n Try.prog 30 #[.string s] w fun e W' => e = .returned (.tuple #[.string (encS s m), .int .i64 0]) ∧ Below w.heap.size w W' := by
  have hn1 : 1 ≤ n := by omega
  have AS := Lib.hid (fun w => allSteps_any w)
  have Z := Lib.hid (fun w => zeroAll w)
  have SY := Lib.hid (fun w => symbols_any (m : Int) w)
  rw [show symN (m : Int) = ((16 * m + 12 : Nat) : Int) by unfold symN; rw [if_neg (by omega)]; omega] at SY
  obtain ⟨N, hN⟩ : ∃ N, 16 * m + 12 = N := ⟨_, rfl⟩
  rw [hN] at SY
  obtain ⟨i0, hi, hz0, hz1, hz2⟩ := info_parts info_u8
  have l1 : decide ((1100 : Int) < (m : Int)) = false := by simp; omega
  refine callsIn_of_wp_marks Try.func30 rfl trivial ?_ rfl
  simp only [Try.ntmps30, List.size_toArray, List.length_cons, List.length_nil, Nat.reduceAdd, Nat.reduceSub, Array.replicate_succ, Array.replicate_zero, List.push_toArray, List.append_toArray, List.nil_append, List.cons_append]
  gi_wp2_with (first
    | (refine ⟨trivial, ?_⟩; gi_at_call 39; refine (callsIn_wide.2 (AS.out _)).mono ?_; rintro e w1 ⟨rfl, h1⟩; have RT := Lib.hid (setRow_heap (w1.alloc (.cells (arrK .i64 384 (fun _ => 0)) 80)) w1.heap.size _ (arrK .i64 384 tabN) _ _ (RowK.new w1 .i64 384 80 (fun _ => 0))); have BT := Lib.hid (below_setRow (ba h1 (.cells (arrK .i64 384 (fun _ => 0)) 80)) h1.size (arrK .i64 384 tabN)))
    | (simp only [Z.out])
    | (refine wpListIn_store_rowI rfl 80 (.tmp 4) (.tmp 12) rfl w1.heap.size (arrK .i64 384 tabN) rfl rfl _ _ (RowK.new w1 .i64 384 80 (fun _ => 0)) (iAll _) (by rw [arrK_size, arrK_size]) (arrK_one _ _ _) ?_; have W2 : ∃ w2, (w1.alloc (.cells (arrK .i64 384 (fun _ => 0)) 80)).setRow w1.heap.size (arrK .i64 384 tabN) = w2 := ⟨_, rfl⟩; obtain ⟨w2, hw2⟩ := W2; rw [hw2] at RT BT ⊢)
    | (refine ⟨trivial, ?_⟩; gi_at_call 33; refine (callsIn_wide.2 (SY.out _)).mono ?_; rintro e w3 ⟨rfl, rfl⟩)
    | (gi_at_make; refine wpListIn_make_own _ rfl _ _ 37 rfl w.heap.size 5 i0 (.int .u8 0) 1 Try.underlying37 hi hz0 hz1 .i64 .i64 _ N rfl rfl rfl (by rw [hz2]; omega) (by unfold maxLen; omega) BT.out.size ?_; intro w4 hown hgrow)
    | (refine ⟨trivial, ?_⟩; gi_at_call 40; refine (bitsOf_in Fence.wide (n - 1) trivial rfl s _).mono ?_; rintro e w' ⟨rfl, rfl⟩))
  simp only [World.size_alloc]
  have B2 := Lib.hid (BT.out.grown hgrow BT.out.size (fun k e => by cases e))
  have s2 : w2.heap.size = w1.heap.size + 1 := by rw [← hw2]; simp
  have s4 := hgrow.size
  have R4 := RowK.below (show RowK .i64 384 80 w2 w1.heap.size tabN from RT.out) ((Below.refl _ _).grown hgrow (Nat.le_refl _) (fun k e => by cases e))
  obtain ⟨w6, hw6⟩ : ∃ w6, ((w4.alloc (.cells #[.slice (some ⟨w2.heap.size, 0, none⟩) 0 N] 37)).alloc (.cells #[.int .i64 0] 3)).alloc (.cells #[.string s] 9) = w6 := ⟨_, rfl⟩
  have X5 := ((Boxed.new w4 37 (.slice (some ⟨w2.heap.size, 0, none⟩) 0 N)).alloc (.cells #[.int .i64 0] 3)).alloc (.cells #[.string s] 9)
  have X6 := (Boxed.new (w4.alloc (.cells #[.slice (some ⟨w2.heap.size, 0, none⟩) 0 N] 37)) 3 (.int .i64 0)).alloc (.cells #[.string s] 9)
  have X7 := Boxed.new ((w4.alloc (.cells #[.slice (some ⟨w2.heap.size, 0, none⟩) 0 N] 37)).alloc (.cells #[.int .i64 0] 3)) 9 (.string s)
  have R6 := ((R4.alloc (.cells #[.slice (some ⟨w2.heap.size, 0, none⟩) 0 N] 37)).alloc (.cells #[.int .i64 0] 3)).alloc (.cells #[.string s] 9)
  have O6 := ((hown.alloc (.cells #[.slice (some ⟨w2.heap.size, 0, none⟩) 0 N] 37)).alloc (.cells #[.int .i64 0] 3)).alloc (.cells #[.string s] 9)
  have E6 := ba (ba (ba B2.out (.cells #[.slice (some ⟨w2.heap.size, 0, none⟩) 0 N] 37)) (.cells #[.int .i64 0] 3)) (.cells #[.string s] 9)
  have s6 : w6.heap.size = w4.heap.size + 1 + 1 + 1 := by rw [← hw6]; simp
  simp only [World.size_alloc] at X6 X7
  rw [hw6] at X5 X6 X7 R6 O6 E6 ⊢
  have sw := E6.size
  have ww := BT.out.size
  have w14 : w1.heap.size < w4.heap.size := by omega
  clear hw6 hown hgrow R4 AS Z SY hw2 RT B2
  have bw : w.heap.size ≤ w1.heap.size := h1.size
  obtain ⟨b2, hb2⟩ : ∃ b, w2.heap.size = b := ⟨_, rfl⟩
  obtain ⟨b4, hb4⟩ : ∃ b, w1.heap.size = b := ⟨_, rfl⟩
  obtain ⟨b5, hb5⟩ : ∃ b, w4.heap.size = b := ⟨_, rfl⟩
  rw [hb2] at X5 O6 ⊢
  rw [hb4] at R6 bw w14 ⊢
  rw [hb5] at X5 X6 X7 s6 w14 ⊢
  have HS6 := Lib.hid s6
  clear hb2 hb4 hb5 s2 s4 ww BT h1 s6
  refine wpIn_rangeFunc_ownF (F := Fence.wide) Fence.wide_round hn1 (gf := 44) (lb := #[.pointer (some ⟨b5 + 1 + 1, 0, none⟩)]) rfl trivial (enters_of Try.func44 (by kernel_rfl) rfl)
    (bitsOf_stops Fence.wide (n - 1) trivial rfl (by omega) (b5 + 1 + 1) s m hm hs (fun i => ⟨Cv.mb (Gal.co s.data.toList) m i, Cv.mb_lt _ _ _⟩) (fun _ => rfl) w6 X7) (fun h k a => k (h a)) (keepS_b (by have := HS6.out; omega)) (Below.refl _ _) (fun _ => rfl)
    (EncI w.heap.size b4 b5 (b5 + 1) w)
    (fun _ _ _ => False)
    (encI_own (Nat.le_refl _) sw)
    (fun _ _ _ _ _ hs _ _ => hs)
    ⟨⟨⟨_, X5, O6, trivial⟩, X6, R6⟩, E6⟩
    (fun x => { tmps := #[.string s, undef, .string ⟨#[]⟩, .int .i64 0, .pointer (some ⟨b4, 0, none⟩), .pointer (some ⟨b5, 0, none⟩), .pointer (some ⟨b5 + 1, 0, none⟩), .int .i64 (x.1 : Nat), undef, .string s, .int .i64 (m : Nat), .bool false, .agg (arrK .i64 384 tabN), .string s, .int .i64 (m : Nat), .int .i64 (N : Nat), .slice (some ⟨b2, 0, none⟩) 0 N, .string s,
      .func (.func 44) #[] #[.pointer (some ⟨b5 + 1 + 1, 0, none⟩)], .int .i64 (x.1 : Nat), undef, undef, undef, undef, undef, undef, undef, undef, undef, undef, undef, undef, undef, undef, undef, undef, undef, undef], defers := [] }) ?assign ?body ?done ?stop
  case assign =>
    intro l x W K hK
    gi_wp2
    exact hK
  case body =>
    rintro r pre ⟨u, u2⟩ W ⟨⟨⟨v, h5, hrow, _⟩, h6, hT⟩, hB⟩ hlen
    have st64 := Cv.stt_lt (Cv.gl_lt pre) pre.length
    obtain ⟨st, hst⟩ : ∃ st, Cv.stt (Cv.gl pre) pre.length = st := ⟨_, rfl⟩
    rw [hst] at h6 st64
    have VS := Lib.hid (vals_snoc pre ⟨u, u2⟩ st hst)
    have SS := Lib.hid (stt_snoc pre ⟨u, u2⟩ st hst)
    have LN := Lib.hid (show 2 * (pre ++ [(⟨u, u2⟩ : Cv.Bit)]).length = 2 * pre.length + 2 by simp; omega)
    obtain ⟨q, hq⟩ : ∃ q, 2 * pre.length = q := ⟨_, rfl⟩
    have q2 : q ≤ 17612 := by omega
    obtain ⟨t0, t1, t2⟩ := tab_nums st u u2
    have c0 := hT.cell (i := st * 6 + u * 3) (by omega)
    have c1 := hT.cell (i := st * 6 + u * 3 + 1) (by omega)
    have c2 := hT.cell (i := st * 6 + u * 3 + 1 + 1) (by omega)
    rw [t0] at c0
    rw [t1] at c1
    rw [t2] at c2
    have x2 := Cv.s1_lt st u
    have y2 := Cv.s2_lt st u
    show Code.wpIn _ _ _ _ _ _ _
    simp only at VS SS
    obtain ⟨z, hz⟩ : ∃ z, Cv.nx st u = z := ⟨_, rfl⟩
    obtain ⟨x, hx⟩ : ∃ z, Cv.s1 st u = z := ⟨_, rfl⟩
    obtain ⟨y, hy⟩ : ∃ z, Cv.s2 st u = z := ⟨_, rfl⟩
    rw [hz] at c0 SS
    rw [hx] at c1 x2 VS
    rw [hy] at c2 y2 VS
    rw [hq] at hrow VS LN
    have HC0 := Lib.hid c0
    have HC1 := Lib.hid c1
    have HC2 := Lib.hid c2
    have k6 := h6.cell
    have k5 := (h5.alloc (.cells #[.int .i64 (z : Nat), .int .i64 (x : Nat), .int .i64 (y : Nat)] 78)).cell
    have HT := Lib.hid hT
    have HB := Lib.hid hB
    have H5 := Lib.hid (h5.alloc (.cells #[.int .i64 (z : Nat), .int .i64 (x : Nat), .int .i64 (y : Nat)] 78))
    have H6 := Lib.hid (h6.alloc (.cells #[.int .i64 (z : Nat), .int .i64 (x : Nat), .int .i64 (y : Nat)] 78))
    have HR := Lib.hid (hrow.alloc (.cells #[.int .i64 (z : Nat), .int .i64 (x : Nat), .int .i64 (y : Nat)] 78))
    have H8 := Lib.hid (heap_alloc_new W (.cells #[.int .i64 (z : Nat), .int .i64 (x : Nat), .int .i64 (y : Nat)] 78))
    have HT1 := Lib.hid (hT.alloc (.cells #[.int .i64 (z : Nat), .int .i64 (x : Nat), .int .i64 (y : Nat)] 78))
    clear c0 c1 c2 t0 t1 t2 hst hz hx hy hT hrow hq X5 X6 X7 R6 O6 E6
    obtain ⟨W1, hW1⟩ : ∃ W1, W.alloc (.cells #[.int .i64 (z : Nat), .int .i64 (x : Nat), .int .i64 (y : Nat)] 78) = W1 := ⟨_, rfl⟩
    have HW1 := Lib.hid hW1
    have sW := Lib.hid (show W1.heap.size = W.heap.size + 1 by rw [← hW1]; simp)
    have WB := Lib.hid hB.size
    rw [hW1] at k5 H5 H6 HR H8 HT1
    have CN := Lib.hid (cells_new (w := W1) (vs := [.int .u8 (x : Nat), .int .u8 (y : Nat)]) (t := 5))
    have d1 : W1.cell? ⟨W.heap.size, 1, none⟩ = some (.int .i64 (x : Nat)) := by rw [cell_of_row _ _ _ _ _ _ H8.out]; rfl
    have d2 : W1.cell? ⟨W.heap.size, 2, none⟩ = some (.int .i64 (y : Nat)) := by rw [cell_of_row _ _ _ _ _ _ H8.out]; rfl
    have b5l := Lib.hid h5.lt
    clear hW1
    gi_wp2_with (first
      | (refine wpListIn_load_stp rfl (.tmp 23) rfl b4 (st * 6 + u * 3) z x y rfl HC0.out HC1.out HC2.out ?_)
      | (simp only [HW1.out])
      | (gi_at_builtin; refine wpListIn_append_own _ rfl _ _ 37 rfl w.heap.size 5 i0 (.int .u8 0) 1 1 Try.underlying37 hi hz0 hz1 hz2 rfl (by decide) _ _ _ rfl (HR.out.alloc _) ⟨W1.heap.size, 0, none⟩ 2 2 [.int .u8 (x : Nat), .int .u8 (y : Nat)] rfl rfl CN.out (by simp [Value.oneCell']) (by unfold maxLen; omega) (by omega) (by have := WB.out; have := sW.out; simp; omega) ?_; intro v' w3 hown' hgrow _; obtain ⟨g', cap', rfl⟩ := ownsRow_succ hown'; obtain ⟨hv1, hv2, hr2, hk2, hb2⟩ := H5.out.appended (by decide) HR.out (by have := WB.out; have := sW.out; omega) (by omega) hown' hgrow; have hc1 := hv1.cell; have hf1 := hv1.frozen;
          have H63 := (show Boxed w3 (b5 + 1) 3 (.int .i64 (st : Nat)) from append_keeps HR.out hgrow _ _ H6.out (fun cs m e => by injection e with e1 e2; exact absurd e2 (by decide))).other (B' := b5) (by omega) (.slice (some ⟨g', 0, none⟩) (q + 2) cap');
          have hc6 := H63.cell; have hf6 := H63.frozen;
          have hc8 : (w3.setCell ⟨b5, 0, none⟩ (.slice (some ⟨g', 0, none⟩) (q + 2) cap')).cell? ⟨W.heap.size, 0, none⟩ = some (.int .i64 (z : Nat)) := (cell_setCell_row _ _ _ _ (by have := b5l.out; omega)).trans (by rw [cell_of_row _ _ _ _ _ _ (append_keeps HR.out hgrow _ _ H8.out (fun cs m e => by injection e with e1 e2; exact absurd e2 (by decide)))]; rfl)))
    have HB1 := hB.alloc hB.size (.cells #[.int .i64 (z : Nat), .int .i64 (x : Nat), .int .i64 (y : Nat)] 78)
    have HK1 := KeepsOthers.alloc W (.cells #[.int .i64 (z : Nat), .int .i64 (x : Nat), .int .i64 (y : Nat)] 78)
    have HS1 : ∀ hb : Boxed W (b5 + 1 + 1) 9 (.string s), Boxed W1 (b5 + 1 + 1) 9 (.string s) := fun hb => by
      rw [← HW1.out]
      exact hb.alloc _
    rw [HW1.out] at HB1 HK1
    refine ⟨(HK1.trans hk2).trans (KeepsOthers.setCell _ _ _), fun hb => ?_, ⟨⟨_, hv2.other (by omega) _, ?_, trivial⟩, ?_, ?_⟩, (HB1.trans hb2).setCell (p := ⟨b5 + 1, 0, none⟩) (by show w.heap.size ≤ b5 + 1; omega) _⟩
    · exact ((show Boxed w3 (b5 + 1 + 1) 9 (.string s) from append_keeps HR.out hgrow _ _ (HS1 hb) (fun cs m e => by injection e with e1 e2; exact absurd e2 (by decide))).other (by omega) _).other (by omega) _
    · rw [VS.out, LN.out]
      exact hr2.kept (grownBy_setCell' _ _ _) (.inr (Boxed.not_row H63 (by decide) hr2).symm)
    · rw [SS.out]
      exact H63.set _
    · exact RowK.setOther (RowK.setOther (show RowK .i64 384 80 w3 b4 tabN from append_keeps HR.out hgrow _ _ HT1.out (fun cs m e => by injection e with e1 e2; exact absurd e2 (by decide))) (by omega) _) (by omega) _
  case done =>
    rintro D ys W hD rfl ⟨⟨⟨v, h5, hrow, _⟩, h6, hT⟩, hB⟩ hK
    have hE : vals (symB (Cv.gl (Cv.upto (fun i => ⟨Cv.mb (Gal.co s.data.toList) m i, Cv.mb_lt _ _ _⟩) (8 * m + 6)))) (2 * (8 * m + 6)) = vals (symB (Cv.mb (Gal.co s.data.toList) m)) (2 * (8 * m + 6)) := vals_congr (fun i hi => by
      unfold symB
      rw [Cv.sym_congr (8 * m + 6) (fun j hj => Cv.gl_upto _ _ j hj) i hi])
    rw [Cv.upto_length, hE] at hrow
    have cv := own_back hrow
    rw [show (⟨(Gal.coefs (symB (Cv.mb (Gal.co s.data.toList) m)) (2 * (8 * m + 6))).toArray⟩ : ByteArray) = encS s m by unfold encS; rw [show 2 * (8 * m + 6) = 16 * m + 12 by omega]] at cv
    have CV := Lib.hid cv
    have k5 := h5.cell
    have HB := Lib.hid hB
    clear cv hE hrow h6 hT hB h5 X5 X6 X7 R6 O6 E6
    gi_wp2_with (simp only [CV.out])
    refine ⟨by simp, .inl ⟨_, _, rfl, run_takeDeferred hK, ?_⟩⟩
    exact ⟨_, results_tmp2 rfl _ _ _, rfl, HB.out.trans (belowK_b (w := w) (Nat.le_refl _) W D _ _ (by omega) hK rfl rfl)⟩
  case stop =>
    rintro D c pre W _ _ h _
    exact h.elim
theorem encode_any (s : ByteArray) (m : Nat) (hm : s.size = m) (hs : m ≤ 1100) (w : World) :
    Calls Try.prog 30 #[.string s] w fun e w' => e = .returned (.tuple #[.string (encS s m), .int .i64 0]) ∧ Below w.heap.size w w' :=
  callsIn_wide.1 (encode_in 3 (by omega) s m hm hs w)
set_option maxHeartbeats 1000000 in
theorem encode_long (s : ByteArray) (n : Nat) (hn : s.size = n) (h1 : 1100 < n) (w : World) :
    Calls Try.prog 30 #[.string s] w fun e w' => e = .returned (.tuple #[.string ⟨#[]⟩, .int .i64 3]) ∧ w = w' := by
  have l1 : decide ((1100 : Int) < (n : Int)) = true := by simp; omega
  go_enter Try.func30, Try.ntmps30
  go_wp2_with fail
  go_ret2
  exact ⟨rfl, rfl⟩
end Go.Proofs.Ytgfihljledmaaaa
