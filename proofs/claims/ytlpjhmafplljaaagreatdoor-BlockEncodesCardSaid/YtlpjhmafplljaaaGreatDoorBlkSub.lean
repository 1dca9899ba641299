/- Rows of nine bytes inside a block of 72; the contracts of block's times and plus over this program. -/
import Derived.Test.YtlpjhmafplljaaaGreatDoorBlkWord
import Derived.Laws.IdiomCopy
namespace Go.Proofs.YtlpjhmafplljaaaGreatDoor
open Go.RowKit
set_option linter.unusedVariables false

theorem uRow : Tryz.prog.underlying 118 = some (.array 9 5) := by kernel_rfl
theorem iRow (f : Nat → Nat) : (Tryz.prog.info? 118).map (·.size) = some (arrK .u8 9 f).size := by rw [arrK_size]; kernel_rfl
theorem zcRow : (#[.int .u8 0, .int .u8 0, .int .u8 0, .int .u8 0, .int .u8 0, .int .u8 0, .int .u8 0, .int .u8 0, .int .u8 0] : Array Value) = arrK .u8 9 (fun _ => 0) := by rw [arrK_zero]; rfl
theorem zcMat : Tryz.zeroCells120 = arrK .u8 72 (fun _ => 0) := by rw [arrK_zero]; kernel_rfl
theorem agg_row (w : World) : (isAgg 118).run Tryz.prog w = .ok true w := by kernel_rfl
theorem agg_u8 (w : World) : (isAgg 5).run Tryz.prog w = .ok false w := by kernel_rfl
theorem size_row (w : World) : (Go.sizeOf 118).run Tryz.prog w = .ok 9 w := by kernel_rfl
theorem arrK_list (f : Nat → Nat) (j : Nat) (v : Value) (h : (arrK .u8 9 f).toList[j]? = some v) : j < 9 ∧ v = .int .u8 (f j : Nat) := by
  rw [Array.getElem?_toList] at h
  have hj : j < 9 := by
    have := (Array.getElem?_eq_some_iff.1 h).1
    rwa [arrK_size] at this
  rw [arrK_get _ _ _ _ hj] at h
  exact ⟨hj, (Option.some.inj h).symm⟩
/-- An element of an array by value. -/
theorem run_index_row (f : Nat → Nat) (k : Nat) (hk : k < 9) (w : World) : (Instr.index 118 (.agg (arrK .u8 9 f)) (.int .i64 (k : Nat))).run Tryz.prog w = .ok (.int .u8 (f k : Nat)) w := by
  have h1 : (0 : Int) ≤ (k : Int) ∧ (k : Int) < ((9 : Nat) : Int) := by omega
  simp [Instr.index, asIntOf, Sem.run_bind, run_underlying uRow, part, h1, arrK_get _ _ f k hk]
  intro h
  omega
theorem addr_add (b o j : Nat) : (⟨b, o, none⟩ : Addr).add j = ⟨b, o + j, none⟩ := by unfold Addr.add; split <;> simp_all
theorem run_load_sub (w : World) (b o : Nat) (f : Nat → Nat) (h : ∀ j, j < 9 → w.cell? ⟨b, o + j, none⟩ = some (.int .u8 (f j : Nat))) : (loadVar 118 ⟨b, o, none⟩).run Tryz.prog w = .ok (.agg (arrK .u8 9 f)) w := by
  have hl : (loadCells ⟨b, o, none⟩ (arrK .u8 9 f).toList.length).run Tryz.prog w = .ok (arrK .u8 9 f).toList.toArray w :=
    run_loadCells_list (P := Tryz.prog) w ⟨b, o, none⟩ (arrK .u8 9 f).toList (fun j v hv => by
      obtain ⟨hj, rfl⟩ := arrK_list f j v hv
      rw [addr_add]
      exact h j hj)
  simp only [Array.length_toList, Array.toArray_toList, arrK_size] at hl
  simp [loadVar, Sem.run_bind, hl]
theorem run_store_sub (w : World) (b o : Nat) (f : Nat → Nat) (h : ∀ j, j < 9 → (w.cell? ⟨b, o + j, none⟩).isSome = true) (hf : ∀ j, j < 9 → w.frozen? ⟨b, o + j, none⟩ = false) :
    (storeVar 118 ⟨b, o, none⟩ (.agg (arrK .u8 9 f))).run Tryz.prog w = .ok () (w.setCells b o (arrK .u8 9 f).toList) := by
  have := run_storeCells_cells (P := Tryz.prog) b o (arrK .u8 9 f).toList 0 w (fun j hj => by
    rw [Array.length_toList, arrK_size] at hj
    exact h j hj) (fun j hj => by
    rw [Array.length_toList, arrK_size] at hj
    exact hf j hj) (fun v hv => (Array.all_eq_true_iff_forall_mem.1 (arrK_one .u8 9 f)) v (by simpa using hv))
  rw [Nat.add_zero] at this
  simp [storeVar, Sem.run_bind, Value.cells, arrK_size, this]
section
variable {Q : Exit → Act → World → Prop}
theorem step_load_sub {o : Oper} {a : Act} {w : World} {K : Act → World → Prop} (x : Operand) (ho : o.op = .load 118 x) (b p : Nat) (f : Nat → Nat) (hx : a.eval x = .pointer (some ⟨b, p, none⟩))
    (h : ∀ j, j < 9 → w.cell? ⟨b, p + j, none⟩ = some (.int .u8 (f j : Nat))) (hK : K (a.put o.dst (.agg (arrK .u8 9 f))) w) : o.wp Tryz.prog a w K Q := by
  unfold Oper.wp execOp
  simp only [ho, hx, Instr.loadAt, Instr.sureAddr, Sem.run_bind, Sem.run_pure, Result.andThen_ok, run_load_sub w b p f h]
  exact hK
theorem step_store_sub {o : Oper} {a : Act} {w : World} {K : Act → World → Prop} (x y : Operand) (ho : o.op = .store 118 x y) (b p : Nat) (f : Nat → Nat) (hx : a.eval x = .pointer (some ⟨b, p, none⟩)) (hy : a.eval y = .agg (arrK .u8 9 f))
    (h : ∀ j, j < 9 → (w.cell? ⟨b, p + j, none⟩).isSome = true) (hf : ∀ j, j < 9 → w.frozen? ⟨b, p + j, none⟩ = false) (hK : K (a.put o.dst undef) (w.setCells b p (arrK .u8 9 f).toList)) : o.wp Tryz.prog a w K Q := by
  unfold Oper.wp execOp
  simp only [ho, hx, hy, Instr.storeAt, Instr.sureAddr, Sem.run_bind, Sem.run_pure, Result.andThen_ok, run_store_sub w b p f h hf]
  exact hK
theorem wpList_store_sub {ops : Array Oper} {rest : List Oper} {o : Oper} {a : Act} {w : World} (hg : o.guard = none) (x y : Operand) (ho : o.op = .store 118 x y) (b p : Nat) (f : Nat → Nat) (hx : a.eval x = .pointer (some ⟨b, p, none⟩)) (hy : a.eval y = .agg (arrK .u8 9 f))
    (h : ∀ j, j < 9 → (w.cell? ⟨b, p + j, none⟩).isSome = true) (hf : ∀ j, j < 9 → w.frozen? ⟨b, p + j, none⟩ = false) (hK : wpList Tryz.prog ops Q rest (a.put o.dst undef) (w.setCells b p (arrK .u8 9 f).toList)) : wpList Tryz.prog ops Q (o :: rest) a w :=
  wpList_plain hg fun _ hk => step_store_sub x y ho b p f hx hy h hf (hk _ _ hK)
end
theorem size_setCells (b : Nat) : ∀ (vs : List Value) (o : Nat) (w : World), (w.setCells b o vs).heap.size = w.heap.size
  | [], _, _ => rfl
  | v :: r, o, w => by rw [World.setCells, size_setCells b r, World.size_setCell]
theorem but_setCells (b : Nat) : ∀ (vs : List Value) (o : Nat) (w w0 : World), But b w0 w → But b w0 (w.setCells b o vs)
  | [], _, _, _, h => h
  | v :: r, o, w, w0, h => by
    rw [World.setCells]
    exact but_setCells b r (o + 1) _ w0 (h.setCell o v)
/-- A matrix of eight rows of nine bytes. -/
def Matx (w : World) (b : Nat) (m : Nat → Nat → BitVec 8) : Prop := NumsK .u8 w b 72 (fun j => (m (j / 9) (j % 9)).toNat)
namespace Matx
variable {w w' : World} {b : Nat} {m m' : Nat → Nat → BitVec 8}
theorem lt (h : Matx w b m) : b < w.heap.size := h.1
theorem cell (h : Matx w b m) {i j : Nat} (hi : i < 8) (hj : j < 9) : w.cell? ⟨b, i * 9 + j, none⟩ = some (.int .u8 ((m i j).toNat : Nat)) := by
  have := NumsK.cell h (j := i * 9 + j) (by omega)
  rwa [show (i * 9 + j) / 9 = i by omega, show (i * 9 + j) % 9 = j by omega] at this
theorem free (h : Matx w b m) {i j : Nat} (hi : i < 8) (hj : j < 9) : w.frozen? ⟨b, i * 9 + j, none⟩ = false := NumsK.frozen h (j := i * 9 + j) (by omega)
theorem isSome (h : Matx w b m) {i : Nat} (hi : i < 8) : ∀ j, j < 9 → (w.cell? ⟨b, i * 9 + j, none⟩).isSome = true := fun j hj => by rw [h.cell hi hj]; rfl
theorem frees (h : Matx w b m) {i : Nat} (hi : i < 8) : ∀ j, j < 9 → w.frozen? ⟨b, i * 9 + j, none⟩ = false := fun j hj => h.free hi hj
theorem below (h : Matx w b m) (hb : Below w.heap.size w w') : Matx w' b m := NumsK.below h hb
theorem but {c : Nat} (h : Matx w b m) (hb : But c w w') (hc : b ≠ c) : Matx w' b m := NumsK.but h hb hc
theorem congr (h : Matx w b m) (e : ∀ i j, i < 8 → j < 9 → m i j = m' i j) : Matx w b m' := NumsK.congr h (fun j hj => by rw [e (j / 9) (j % 9) (by omega) (by omega)])
theorem put (h : Matx w b m) {r c : Nat} (hr : r < 8) (hc : c < 9) (x : BitVec 8) : Matx (w.setCell ⟨b, r * 9 + c, none⟩ (.int .u8 (x.toNat : Nat))) b (fun i j => if i = r ∧ j = c then x else m i j) := by
  refine NumsK.set h (r * 9 + c) x.toNat (by omega) ?_ (fun j hj hn => ?_)
  · show BitVec.toNat (if (r * 9 + c) / 9 = r ∧ (r * 9 + c) % 9 = c then x else _) = _
    rw [if_pos (by omega)]
  · show BitVec.toNat (if j / 9 = r ∧ j % 9 = c then x else _) = _
    rw [if_neg (by omega)]
theorem putRow (h : Matx w b m) {r : Nat} (hr : r < 8) (g : Nat → BitVec 8) : Matx (w.setCells b (r * 9) (arrK .u8 9 (fun j => (g j).toNat)).toList) b (fun i j => if i = r then g j else m i j) := by
  refine ⟨by rw [size_setCells]; exact h.1, fun j hj => ?_⟩
  obtain ⟨h1, h2⟩ := h.2 j hj
  refine ⟨?_, by rw [World.frozen?_setCells]; exact h2⟩
  show _ = some (Value.int .u8 ((BitVec.toNat (if j / 9 = r then _ else _) : Nat) : Int))
  by_cases e : j / 9 = r
  · rw [if_pos e]
    obtain ⟨q, hq, rfl⟩ : ∃ q, q < 9 ∧ j = r * 9 + q := ⟨j % 9, by omega, by omega⟩
    have := World.cell?_setCells_in b (arrK .u8 9 (fun j => (g j).toNat)).toList (r * 9) w (fun i hi => h.isSome hr i (by rw [Array.length_toList, arrK_size] at hi; exact hi)) q (by rw [Array.length_toList, arrK_size]; exact hq)
    rw [this, show (r * 9 + q) % 9 = q by omega]
    have e2 := arrK_get .u8 9 (fun j => (g j).toNat) q hq
    rw [← Array.getElem?_toList, List.getElem?_eq_getElem (by rw [Array.length_toList, arrK_size]; exact hq)] at e2
    exact e2
  · rw [if_neg e, World.cell?_setCells_out]
    · exact h1
    · intro _ _
      rw [Array.length_toList, arrK_size]
      show j < r * 9 ∨ r * 9 + 9 ≤ j
      omega
end Matx
theorem new_mat (w : World) : Matx (w.alloc (.cells Tryz.zeroCells120 120)) w.heap.size (fun _ _ => 0#8) := by
  rw [zcMat]
  refine ⟨by rw [World.size_alloc]; omega, fun j hj => ?_⟩
  have R := RowK.new w .u8 72 120 (fun _ => 0)
  exact ⟨R.cell hj, R.frozen j⟩
/-- A row times x, up to place k. -/
def rtk (x : BitVec 8) (f : Nat → BitVec 8) (k j : Nat) : Nat := (if j < k then Gal.mul x (f j) else f j).toNat
set_option maxRecDepth 100000 in
theorem rowTimes_any (f : Nat → BitVec 8) (x : BitVec 8) (w : World) :
    Calls Tryz.prog 105 #[.agg (arrK .u8 9 (fun j => (f j).toNat)), .int .u8 (x.toNat : Nat)] w fun e w' => e = .returned (.agg (arrK .u8 9 (fun j => (Gal.mul x (f j)).toNat))) ∧ Below w.heap.size w w' := by
  have IX := Lib.hid (fun k hk w => run_index_row (fun j => (f j).toNat) k hk w)
  have MU := Lib.hid (fun k w => mul_any x (f k) w)
  have R0 := RowK.new w .u8 9 118 (fun j => (f j).toNat)
  have B0 := ba (Below.refl w.heap.size w) (.cells (arrK .u8 9 (fun j => (f j).toNat)) 118)
  obtain ⟨F, hF⟩ : ∃ F, arrK .u8 9 (fun j => (f j).toNat) = F := ⟨_, rfl⟩
  have HF := Lib.hid hF
  have R1 := RowK.new (w.alloc (.cells F 118)) .u8 9 118 (fun _ => 0)
  rw [hF] at B0 IX ⊢
  have B1 := ba B0 (.cells (arrK .u8 9 (fun _ => 0)) 118)
  have R2 := RowK.alloc R0 (.cells (arrK .u8 9 (fun _ => 0)) 118)
  rw [hF] at R2
  rw [← zcRow] at R1 B1 R2
  rw [World.size_alloc] at R1
  obtain ⟨X, hX⟩ : ∃ X, x.toNat = X := ⟨_, rfl⟩
  rw [hX] at MU ⊢
  have HR1 := Lib.hid R1
  have HR2 := Lib.hid R2
  have HB1 := Lib.hid B1
  have HR2F := Lib.hid (show ((w.alloc (.cells F 118)).alloc (.cells #[.int .u8 0, .int .u8 0, .int .u8 0, .int .u8 0, .int .u8 0, .int .u8 0, .int .u8 0, .int .u8 0, .int .u8 0] 118)).heap[w.heap.size]? = some (.cells F 118) by have := R2; unfold RowK at this; rw [hF] at this; exact this)
  clear hF hX R0 R1 R2 B0 B1
  go_enter Tryz.func105, Tryz.ntmps105
  go_wp2_with (refine wpList_load_row rfl 118 (.tmp 2) rfl w.heap.size rfl _ _ _ _ HR2F.out uRow rfl (by rw [← HF.out]; exact iRow _) ?_)
  go_loopw [8] (fun i wr => ∃ k : Nat, k ≤ 9 ∧ i = .int .i64 (k : Nat) ∧ RowK .u8 9 118 wr w.heap.size (rtk x f k) ∧ RowK .u8 9 118 wr (w.heap.size + 1) (fun _ => 0) ∧ Below w.heap.size w wr) (fun i _ => 9 - (intOf i).toNat)
  case atStart => exact ⟨0, Nat.zero_le _, rfl, HR2.out, HR1.out, HB1.out⟩
  case round =>
    obtain ⟨k, hk, rfl, hR, hZ, hB⟩ := hrel
    have HR := Lib.hid hR
    have HZ := Lib.hid hZ
    have HB := Lib.hid hB
    clear hR hZ hB
    by_cases hlt : k < 9
    · have ix := Lib.hid (IX.out k hlt)
      have mu := Lib.hid (MU.out k)
      obtain ⟨y, hy⟩ : ∃ y, (f k).toNat = y := ⟨_, rfl⟩
      obtain ⟨v, hv⟩ : ∃ y, (Gal.mul x (f k)).toNat = y := ⟨_, rfl⟩
      rw [hy] at ix mu
      rw [hv] at mu
      have HV := Lib.hid hv
      have k9 : (k : Int) < 9 := by omega
      clear hy hv IX MU
      go_wp2_with (simp only [ix.out])
      (with_reducible refine (mu.out _).mono ?_)
      rintro e w1 ⟨rfl, h1⟩
      have R1 := HR.out.below h1
      have Z1 := Lib.hid (HZ.out.below h1)
      have B1 := Lib.hid (bt HB.out h1)
      have c1 := R1.cell hlt
      have f1 := R1.frozen k
      have HR1 := Lib.hid R1
      obtain ⟨old, hold⟩ : ∃ y, rtk x f k k = y := ⟨_, rfl⟩
      rw [hold] at c1
      have R2 := Lib.hid (show RowK .u8 9 118 (w1.setCell ⟨w.heap.size, k, none⟩ (.int .u8 (v : Nat))) w.heap.size (rtk x f (k + 1)) from (HR1.out.set k v).congr (fun i hi => by
        unfold rtk
        by_cases e : i = k
        · subst e
          rw [if_pos rfl, if_pos (by omega), HV.out]
        · rw [if_neg e]
          by_cases g : i < k
          · rw [if_pos g, if_pos (by omega)]
          · rw [if_neg g, if_neg (by omega)]))
      have Z2 := Lib.hid (Z1.out.setOther (c := w.heap.size) (i := k) (by omega) (.int .u8 (v : Nat)))
      have B2 := Lib.hid (B1.out.setCell (p := ⟨w.heap.size, k, none⟩) (Nat.le_refl _) (.int .u8 (v : Nat)))
      clear R1 h1 hold
      go_wp2_with fail
      go_roundw
      case rel => exact ⟨k + 1, by omega, by go_num, R2.out, Z2.out, B2.out⟩
      case measure => simp [intOf]; omega
    · obtain rfl : k = 9 := by omega
      have R9 := Lib.hid (HR.out.congr (g := fun j => (Gal.mul x (f j)).toNat) (fun j hj => by unfold rtk; rw [if_pos hj]))
      clear HR IX MU
      go_upto_region 6 with fail
      refine wp_region_lit ?_
      refine wpList_load_row rfl 118 (.tmp 2) rfl w.heap.size rfl _ _ _ _ R9.out uRow rfl (iRow _) ?_
      simp only [Act.put, List.setIfInBounds_toArray, List.set_cons_succ, List.set_cons_zero]
      refine wpList_store_row rfl 118 (.tmp 4) (.tmp 18) rfl (w.heap.size + 1) (arrK .u8 9 (fun j => (Gal.mul x (f j)).toNat)) rfl rfl _ _ HZ.out (iRow _) (by rw [arrK_size, arrK_size]) (arrK_one _ _ _) ?_
      refine wpList_nil ?_
      simp only [Exit.then]
      rename (∀ (a : Act) (w : World), Code.wp _ Code.ret _ a w → _) => hK
      apply hK
      apply wp_ret
      exact bodyPost_ret (v := .agg (arrK .u8 9 (fun j => (Gal.mul x (f j)).toNat))) (results_cell_row Tryz.results105 _ _ (w.heap.size + 1) 118 (arrK .u8 9 (fun j => (Gal.mul x (f j)).toNat)) (0, 0) _ rfl (setRow_heap _ _ _ _ _ _ HZ.out) uRow rfl (iRow _)) rfl ⟨rfl, below_setRow HB.out (by omega) _⟩
/-- A row plus another, up to place k. -/
def rpk (f g : Nat → BitVec 8) (k j : Nat) : Nat := (if j < k then f j ^^^ g j else f j).toNat
set_option maxRecDepth 100000 in
theorem rowPlus_any (f g : Nat → BitVec 8) (w : World) :
    Calls Tryz.prog 106 #[.agg (arrK .u8 9 (fun j => (f j).toNat)), .agg (arrK .u8 9 (fun j => (g j).toNat))] w fun e w' => e = .returned (.agg (arrK .u8 9 (fun j => (f j ^^^ g j).toNat))) ∧ Below w.heap.size w w' := by
  have IX := Lib.hid (fun k hk w => run_index_row (fun j => (g j).toNat) k hk w)
  have XR := Lib.hid (fun k => xor8 (f k) (g k))
  have R0 := RowK.new w .u8 9 118 (fun j => (f j).toNat)
  have B0 := ba (Below.refl w.heap.size w) (.cells (arrK .u8 9 (fun j => (f j).toNat)) 118)
  obtain ⟨F, hF⟩ : ∃ F, arrK .u8 9 (fun j => (f j).toNat) = F := ⟨_, rfl⟩
  rw [hF] at B0
  have S0 := RowK.new (w.alloc (.cells F 118)) .u8 9 118 (fun j => (g j).toNat)
  have B1 := ba B0 (.cells (arrK .u8 9 (fun j => (g j).toNat)) 118)
  have R1 := RowK.alloc R0 (.cells (arrK .u8 9 (fun j => (g j).toNat)) 118)
  rw [hF] at R1
  obtain ⟨G, hG⟩ : ∃ F, arrK .u8 9 (fun j => (g j).toNat) = F := ⟨_, rfl⟩
  have Z0 := RowK.new ((w.alloc (.cells F 118)).alloc (.cells G 118)) .u8 9 118 (fun _ => 0)
  rw [hG] at B1 R1 IX
  have B2 := ba B1 (.cells (arrK .u8 9 (fun _ => 0)) 118)
  have R2 := RowK.alloc R1 (.cells (arrK .u8 9 (fun _ => 0)) 118)
  have S1 := RowK.alloc S0 (.cells (arrK .u8 9 (fun _ => 0)) 118)
  rw [hG] at S1
  rw [hF, hG]
  rw [← zcRow] at Z0 B2 R2 S1
  rw [World.size_alloc, World.size_alloc] at Z0
  have HSG := Lib.hid (show (((w.alloc (.cells F 118)).alloc (.cells G 118)).alloc (.cells #[.int .u8 0, .int .u8 0, .int .u8 0, .int .u8 0, .int .u8 0, .int .u8 0, .int .u8 0, .int .u8 0, .int .u8 0] 118)).heap[w.heap.size + 1]? = some (.cells G 118) by have := S1; unfold RowK at this; rw [hG, World.size_alloc] at this; exact this)
  have HIG := Lib.hid (show (Tryz.prog.info? 118).map (·.size) = some G.size by rw [← hG]; exact iRow _)
  have HR2 := Lib.hid R2
  have HZ0 := Lib.hid Z0
  have HB2 := Lib.hid B2
  clear hF hG R0 B0 S0 B1 R1 Z0 B2 R2 S1
  go_enter Tryz.func106, Tryz.ntmps106
  go_wp2_with (refine wpList_load_row rfl 118 (.tmp 3) rfl (w.heap.size + 1) rfl _ _ _ _ HSG.out uRow rfl HIG.out ?_)
  go_loopw [8] (fun i wr => ∃ k : Nat, k ≤ 9 ∧ i = .int .i64 (k : Nat) ∧ RowK .u8 9 118 wr w.heap.size (rpk f g k) ∧ RowK .u8 9 118 wr (w.heap.size + 1 + 1) (fun _ => 0) ∧ Below w.heap.size w wr) (fun i _ => 9 - (intOf i).toNat)
  case atStart => exact ⟨0, Nat.zero_le _, rfl, HR2.out, HZ0.out, HB2.out⟩
  case round =>
    obtain ⟨k, hk, rfl, hR, hZ, hB⟩ := hrel
    have HR := Lib.hid hR
    have HZ := Lib.hid hZ
    have HB := Lib.hid hB
    by_cases hlt : k < 9
    · have ix := Lib.hid (IX.out k hlt)
      have xr := XR.out k
      have c1 := hR.cell hlt
      have f1 := hR.frozen k
      rw [show rpk f g k k = (f k).toNat from congrArg BitVec.toNat (if_neg (Nat.lt_irrefl k))] at c1
      obtain ⟨y, hy⟩ : ∃ y, (f k).toNat = y := ⟨_, rfl⟩
      obtain ⟨z, hz⟩ : ∃ y, (g k).toNat = y := ⟨_, rfl⟩
      obtain ⟨v, hv⟩ : ∃ y, (f k ^^^ g k).toNat = y := ⟨_, rfl⟩
      rw [hy] at c1 xr
      rw [hz] at ix xr
      rw [hv] at xr
      have HV := Lib.hid hv
      have k9 : (k : Int) < 9 := by omega
      have R2 := Lib.hid (show RowK .u8 9 118 (wr.setCell ⟨w.heap.size, k, none⟩ (.int .u8 (v : Nat))) w.heap.size (rpk f g (k + 1)) from (HR.out.set k v).congr (fun i hi => by
        unfold rpk
        by_cases e : i = k
        · subst e
          rw [if_pos rfl, if_pos (by omega), HV.out]
        · rw [if_neg e]
          by_cases g : i < k
          · rw [if_pos g, if_pos (by omega)]
          · rw [if_neg g, if_neg (by omega)]))
      have Z2 := Lib.hid (HZ.out.setOther (c := w.heap.size) (i := k) (by omega) (.int .u8 (v : Nat)))
      have B2 := Lib.hid (HB.out.setCell (p := ⟨w.heap.size, k, none⟩) (Nat.le_refl _) (.int .u8 (v : Nat)))
      clear hR hZ hB hy hz hv IX XR
      go_wp2_with (simp only [ix.out])
      go_roundw
      case rel => exact ⟨k + 1, by omega, by go_num, R2.out, Z2.out, B2.out⟩
      case measure => simp [intOf]; omega
    · obtain rfl : k = 9 := by omega
      have R9 := Lib.hid (HR.out.congr (g := fun j => (f j ^^^ g j).toNat) (fun j hj => by unfold rpk; rw [if_pos hj]))
      clear hR hZ hB HR IX XR
      go_upto_region 6 with fail
      refine wp_region_lit ?_
      refine wpList_load_row rfl 118 (.tmp 2) rfl w.heap.size rfl _ _ _ _ R9.out uRow rfl (iRow _) ?_
      simp only [Act.put, List.setIfInBounds_toArray, List.set_cons_succ, List.set_cons_zero]
      refine wpList_store_row rfl 118 (.tmp 4) (.tmp 19) rfl (w.heap.size + 1 + 1) (arrK .u8 9 (fun j => (f j ^^^ g j).toNat)) rfl rfl _ _ HZ.out (iRow _) (by rw [arrK_size, arrK_size]) (arrK_one _ _ _) ?_
      refine wpList_nil ?_
      simp only [Exit.then]
      rename (∀ (a : Act) (w : World), Code.wp _ Code.ret _ a w → _) => hK
      apply hK
      apply wp_ret
      exact bodyPost_ret (v := .agg (arrK .u8 9 (fun j => (f j ^^^ g j).toNat))) (results_cell_row Tryz.results106 _ _ (w.heap.size + 1 + 1) 118 (arrK .u8 9 (fun j => (f j ^^^ g j).toNat)) (0, 0) _ rfl (setRow_heap _ _ _ _ _ _ HZ.out) uRow rfl (iRow _)) rfl ⟨rfl, below_setRow HB.out (by omega) _⟩
end Go.Proofs.YtlpjhmafplljaaaGreatDoor
