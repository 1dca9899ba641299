/- ChPks -/
import Derived.RangeFuncNested
import Derived.RangeFuncBound
import Derived.RangeFuncCalls
import Derived.RangeFuncLeaves
import Derived.Shelf.Abstract
import Derived.Shelf.RegionOpen
import Derived.WalkKit
import Derived.OwnWalkIn
import Derived.TacticsInMore
import Derived.LoopNIn
import Derived.LoopIn
import Derived.Lib.Hide
import Derived.Test.YtchfkncbemjepaaGreatRangeR
import Derived.Test.YtchfkncbemjepaaGreatChGoOn
/- Layer 11, the landed demux: packets, an iterator over the packets with which a string begins. -/
namespace Go.Proofs.YtchfkncbemjepaaGreat
open Go.RowKit Go.Shelf
attribute [local go_sem] Oper.semAt_some
set_option linter.unusedVariables false
set_option maxRecDepth 100000

section
variable {P : Program} {F : Fence} {nF : Nat} {ops : Array Oper} {rest : List Oper} {op : Oper} {a : Act} {w : World} {Q : Exit → Act → World → Prop}
theorem wpListIn_newT (hgd : op.guard = none) (OP : Op) (ho : op.op = OP) (hnd : ∀ c, OP ≠ .defer c) (hab : op.about P w a.eval = none) (cs : Array Value) (t : TypeId) (mk : Nat → Value) (n : Nat) (f : Nat → Value) (hf : ∀ j, j < n → cs[j]? = some (f j))
    (hrun : (execOp a.eval op).run P w = .ok (.value (mk w.heap.size)) (w.alloc (.cells cs t)))
    (K : ∀ X w', Hid (w.heap.size = X) → Hid (Cel w' X n f) → Hid (Below w.heap.size w w') → Hid (TyB w' X t) → wpListIn F nF P ops Q rest (a.put op.dst (mk X)) w') : wpListIn F nF P ops Q (op :: rest) a w :=
  wpListIn_plain hgd fun _ hK => by
    unfold Oper.wpIn
    refine ⟨fun _ h => (by rw [hab] at h; cases h), ?_⟩
    rw [Oper.semAt_plain F _ _ (by rw [ho]; exact hnd), hrun]
    exact hK _ _ (K w.heap.size _ (Lib.hid rfl) (Lib.hid (Cel.new w cs t hf)) (Lib.hid (ba (Below.refl _ _) _)) (Lib.hid ⟨cs, _, heap_alloc_last w _⟩))
theorem wpListIn_setAllT (hgd : op.guard = none) (ty : TypeId) (x y : Operand) (ho : op.op = .store ty x y) (hab : op.about P w a.eval = none) (X n : Nat) (vs : List Value) (f g : Nat → Value) (C : Cel w X n f) (hn : vs.length = n) (hg : ∀ j, j < n → vs[j]? = some (g j))
    (hx : a.eval x = .pointer (some ⟨X, 0, none⟩)) (hy : a.eval y = .agg vs.toArray) (hi : (P.info? ty).map (·.size) = some n) (h1 : vs.all (·.oneCell') = true)
    (K : ∀ w', Hid (Cel w' X n g) → Hid (But X w w') → Hid (∀ t, TyB w X t → TyB w' X t) → wpListIn F nF P ops Q rest (a.put op.dst undef) w') : wpListIn F nF P ops Q (op :: rest) a w :=
  wpListIn_plain hgd fun _ hK => by
    have there : w.there X 0 vs.toArray.size := C.there 0 _ (by simp [hn])
    unfold Oper.wpIn
    refine ⟨fun _ h => (by rw [hab] at h; cases h), ?_⟩
    rw [Oper.semAt_plain F _ _ (by rw [ho]; intro c hc'; cases hc')]
    unfold execOp
    simp only [ho, hx, hy, Instr.storeAt, Instr.sureAddr, Sem.run_bind, Sem.run_pure, Result.andThen_ok, run_storeVar_mid w X 0 ty vs.toArray there (by rw [hi]; simp [hn]) (by simpa using h1)]
    refine hK _ _ (K _ (Lib.hid ?_) (Lib.hid (But.of_setCells X _ _ _)) (Lib.hid (fun t h => tyB_setCells X t _ _ _ h)))
    refine (C.setMany 0 vs (by omega) undef).congr (fun j hj => ?_)
    rw [if_pos (by omega), Nat.sub_zero, List.getD_eq_getElem?_getD, hg j hj]
    rfl
end
theorem packets_any (z : ByteArray) (w : World) : Calls Tryz.prog 122 #[.string z] w fun e w' => e = .returned (.func (.func 142) #[] #[.pointer (some ⟨w.heap.size, 0, none⟩)]) ∧ w' = w.alloc (.cells #[.string z] 9) := by
  go_enter Tryz.func122, Tryz.ntmps122
  go_wp2_with fail
  go_ret
  exact ⟨rfl, rfl⟩
theorem bs_cut (l : List UInt8) (i j : Nat) (h : i ≤ j) : (bs l).extract i j = bs ((l.take j).drop i) := by
  apply ByteArray.ext
  apply Array.toList_inj.1
  rw [ext_list _ _ _ h, bs_list, bs_list]
theorem atListIn {F : Fence} {nF : Nat} {P : Program} {ops : Array Oper} {l : List Oper} {a : Act} {w : World} {Q : Exit → Act → World → Prop} (h : wpListIn F nF P ops Q l a w) : wpListIn F nF P ops Q l a w := h
theorem grown_below {w w' : World} (h : Below w.heap.size w w') : w.grownBy w' none := ⟨h.os, h.tape, h.output, h.size, fun k hk _ => h.block k hk⟩
def encP (x : Pkt × List UInt8) : Array Value := #[pkVal x.1, .string (bs x.2)]
set_option maxHeartbeats 8000000 in
theorem packets1_in (n : Nat) (hn : 1 ≤ n) (l B0 : Nat) (d : List UInt8) (hd : d.length ≤ 1030) (J : List (Pkt × List UInt8) → World → Prop) (W : World) (hJ : AbidesFrom W.heap.size J)
    (hY : ∀ pre x W1, (∃ rest, (Ch.pks d.length d).1 = pre ++ x :: rest) → J pre W1 → YieldAt Fence.wide (n - 1) Tryz.prog l (encP x) W1 fun e W' => e = .returned (.bool true) ∧ J (pre ++ [x]) W')
    (b0 : W.cell? ⟨B0, 0, none⟩ = some (.string (bs d))) (h0 : J [] W) :
    CallsIn Fence.wide n Tryz.prog 142 #[.func (.yield l) #[] #[], .pointer (some ⟨B0, 0, none⟩)] W fun e W' => (∃ v, e = .returned v) ∧ ∃ xs, xs = (Ch.pks d.length d).1 ∧ J xs W' := by
  have HY := Lib.hid hY
  have HJ0 := Lib.hid h0
  have TKA := Lib.hid (fun (q : List UInt8) (h : q.length ≤ 1030) w => by
    have := ptake_any (bs q) (by rw [bs_size]; omega) w
    rw [bs_list] at this
    exact this)
  clear hY h0
  refine callsIn_of_wp Tryz.func142 rfl trivial ?_ rfl
  simp only [Tryz.ntmps142, List.size_toArray, List.length_cons, List.length_nil, Nat.reduceAdd, Nat.reduceSub, Array.replicate_succ, Array.replicate_zero, List.push_toArray, List.append_toArray, List.nil_append, List.cons_append]
  gi_wp2
  gi_loopw [3] (fun x wr => ∃ (pre : List (Pkt × List UInt8)) (q : List UInt8), x = .string (bs q) ∧ pre.length + q.length ≤ d.length ∧ (Ch.pks d.length d).1 = pre ++ (Ch.pks q.length q).1 ∧ J pre wr) (fun x _ => match x with | .string z => z.size | _ => 0)
  case atStart => exact ⟨[], d, rfl, by simp, rfl, HJ0.out⟩
  case round =>
    obtain ⟨pre, q, rfl, hl, he, hj⟩ := hrel
    have HJ := Lib.hid hj
    have HL := Lib.hid hl
    have HE := Lib.hid he
    have qs : q.length ≤ 1030 := by omega
    have TK := Lib.hid (TKA.out q qs wr)
    obtain ⟨z, hz⟩ : ∃ z, bs q = z := ⟨_, rfl⟩
    have ZS := Lib.hid (show z.size = q.length by rw [← hz, bs_size])
    have HZ := Lib.hid hz
    rw [hz] at TK ⊢
    clear hj hl he hz
    rcases hT : Pk.take q with ⟨p, k⟩ | _ | _
    · rw [hT] at TK
      unfold tkV at TK
      obtain ⟨k7, kl, -, -, -⟩ := Ch.take_pos hT
      have PK := Lib.hid (show (Ch.pks q.length q).1 = (p, q.take k) :: (Ch.pks (q.drop k).length (q.drop k)).1 by
        obtain ⟨m, hm⟩ : ∃ m, q.length = m + 1 := ⟨q.length - 1, by omega⟩
        rw [hm, Ch.pks_ok hT, Ch.pks_more m (q.drop k).length (q.drop k) (by rw [List.length_drop]; omega) (Nat.le_refl _)])
      have EX1 : z.extract 0 k = bs (q.take k) := by rw [← HZ.out, bs_cut _ _ _ (Nat.zero_le _)]; rfl
      have EX2 : z.extract k z.size = bs (q.drop k) := by rw [← HZ.out, bs_cut _ _ _ (by rw [bs_size]; omega), bs_size, List.take_of_length_le (Nat.le_refl _)]
      have KN := Lib.hid (And.intro k7 kl)
      have kz : k ≤ z.size := by rw [ZS.out]; exact kl
      gi_wp2
      refine ⟨trivial, (callsIn_wide.2 TK.out).mono ?_⟩
      rintro e w2 ⟨rfl, b2⟩
      have B2 := Lib.hid b2
      clear b2
      gi_wp2_with (first
        | ((with_reducible refine atListIn ?_); refine wpListIn_newT rfl (.alloc 125) rfl (fun c h => by cases h) rfl #[.bool false, .int .i64 0, .int .i64 0, .int .i64 0, .string ⟨#[]⟩] 125 (fun X => .pointer (some ⟨X, 0, none⟩)) 5 (pkCel pk0) (pkC_cells pk0) (alloc_pkC rfl) ?_; intro X w3 HX CX BX TX)
        | ((with_reducible refine atListIn ?_); refine wpListIn_setAllT rfl 125 (.tmp 4) (.tmp 11) rfl rfl X 5 [.bool p.cmd, .int .i64 p.ap, .int .i64 p.fl, .int .i64 p.ct, .string p.da] _ (pkCel p) CX.out rfl (pkC_list p) rfl rfl pkC_info (by simp [Value.oneCell']) ?_; intro w4 C4 U4 V4))
      have B4 := Lib.hid (show Below wr.heap.size wr w4 from bt B2.out (But.under BX.out U4.out (Nat.le_of_eq HX.out)))
      have J4 := Lib.hid (hJ pre wr w4 none HJ.out (grown_below B4.out) (fun r e => by cases e))
      obtain ⟨fn, tmps, assign, body, hy, hR⟩ := HY.out pre (p, q.take k) w4.drew ⟨_, by rw [HE.out, PK.out]⟩ (hJ pre w4 w4.drew none J4.out (grown_below (Below.refl _ _).drew) (fun r e => by cases e))
      have HR := Lib.hid hR
      clear hR
      unfold encP pkVal at hy
      simp only at hy
      have cp0 : w4.cell? ⟨X, 0, none⟩ = some (.bool p.cmd) := C4.out.cell (j := 0) (by omega)
      have cp1 : w4.cell? ⟨X, 1, none⟩ = some (.int .i64 p.ap) := C4.out.cell (j := 1) (by omega)
      have cp2 : w4.cell? ⟨X, 2, none⟩ = some (.int .i64 p.fl) := C4.out.cell (j := 2) (by omega)
      have cp3 : w4.cell? ⟨X, 3, none⟩ = some (.int .i64 p.ct) := C4.out.cell (j := 3) (by omega)
      have cp4 : w4.cell? ⟨X, 4, none⟩ = some (.string p.da) := C4.out.cell (j := 4) (by omega)
      refine wpIn_region_still_tailW 8 (by kernel_rfl) (by kernel_rfl) (by kernel_rfl) ?_
      simp only [List.take_succ_cons, List.take_zero, List.drop_succ_cons, List.drop_zero]
      repeat still_step
      refine wpStill_nil ?_
      gi_wp2
      refine HR.out.mono ?_
      rintro e W3 ⟨rfl, hJ3⟩
      have HJ3 := Lib.hid hJ3
      clear hJ3
      gi_wp2
      go_roundw
      case rel => exact ⟨pre ++ [(p, q.take k)], q.drop k, rfl, by rw [List.length_append, List.length_drop]; have := HL.out; have := KN.out; simp; omega, by rw [HE.out, PK.out, List.append_assoc]; rfl, HJ3.out⟩
      case measure => simp; rw [bs_size, List.length_drop]; have := KN.out; have := ZS.out; omega
    · rw [hT] at TK
      unfold tkV at TK
      have PK := Lib.hid (show (Ch.pks q.length q).1 = [] by rw [Ch.pks_no (fun p k => by rw [hT]; simp)])
      clear hT qs
      gi_wp2
      refine ⟨trivial, (callsIn_wide.2 TK.out).mono ?_⟩
      rintro e w2 ⟨rfl, b2⟩
      have B2 := Lib.hid b2
      clear b2
      gi_wp2_with (first
        | ((with_reducible refine atListIn ?_); refine wpListIn_newT rfl (.alloc 125) rfl (fun c h => by cases h) rfl #[.bool false, .int .i64 0, .int .i64 0, .int .i64 0, .string ⟨#[]⟩] 125 (fun X => .pointer (some ⟨X, 0, none⟩)) 5 (pkCel pk0) (pkC_cells pk0) (alloc_pkC rfl) ?_; intro X w3 HX CX BX TX)
        | ((with_reducible refine atListIn ?_); refine wpListIn_setAllT rfl 125 (.tmp 4) (.tmp 11) rfl rfl X 5 [.bool false, .int .i64 0, .int .i64 0, .int .i64 0, .string ⟨#[]⟩] _ (pkCel pk0) CX.out rfl (pkC_list pk0) rfl rfl pkC_info (by simp [Value.oneCell']) ?_; intro w4 C4 U4 V4))
      have B4 := Lib.hid (show Below wr.heap.size wr w4 from bt B2.out (But.under BX.out U4.out (Nat.le_of_eq HX.out)))
      have J4 := Lib.hid (hJ pre wr w4 none HJ.out (grown_below B4.out) (fun r e => by cases e))
      refine wpIn_region_still_tailW 8 (by kernel_rfl) (by kernel_rfl) (by kernel_rfl) ?_
      simp only [List.take_succ_cons, List.take_zero, List.drop_succ_cons, List.drop_zero]
      repeat still_step
      refine wpStill_nil ?_
      gi_wp2
      refine ⟨fun _ h => (by cases h), ?_⟩
      gi_wp2
      refine bodyPost_ret (results_none rfl _ _ _) rfl ?_
      exact ⟨⟨_, rfl⟩, _, rfl, by rw [HE.out, PK.out, List.append_nil]; exact hJ pre w4 w4.drew none J4.out (grown_below (Below.refl _ _).drew) (fun r e => by cases e)⟩
    · rw [hT] at TK
      unfold tkV at TK
      have PK := Lib.hid (show (Ch.pks q.length q).1 = [] by rw [Ch.pks_no (fun p k => by rw [hT]; simp)])
      clear hT qs
      gi_wp2
      refine ⟨trivial, (callsIn_wide.2 TK.out).mono ?_⟩
      rintro e w2 ⟨rfl, b2⟩
      have B2 := Lib.hid b2
      clear b2
      gi_wp2_with (first
        | ((with_reducible refine atListIn ?_); refine wpListIn_newT rfl (.alloc 125) rfl (fun c h => by cases h) rfl #[.bool false, .int .i64 0, .int .i64 0, .int .i64 0, .string ⟨#[]⟩] 125 (fun X => .pointer (some ⟨X, 0, none⟩)) 5 (pkCel pk0) (pkC_cells pk0) (alloc_pkC rfl) ?_; intro X w3 HX CX BX TX)
        | ((with_reducible refine atListIn ?_); refine wpListIn_setAllT rfl 125 (.tmp 4) (.tmp 11) rfl rfl X 5 [.bool false, .int .i64 0, .int .i64 0, .int .i64 0, .string ⟨#[]⟩] _ (pkCel pk0) CX.out rfl (pkC_list pk0) rfl rfl pkC_info (by simp [Value.oneCell']) ?_; intro w4 C4 U4 V4))
      have B4 := Lib.hid (show Below wr.heap.size wr w4 from bt B2.out (But.under BX.out U4.out (Nat.le_of_eq HX.out)))
      have J4 := Lib.hid (hJ pre wr w4 none HJ.out (grown_below B4.out) (fun r e => by cases e))
      refine wpIn_region_still_tailW 8 (by kernel_rfl) (by kernel_rfl) (by kernel_rfl) ?_
      simp only [List.take_succ_cons, List.take_zero, List.drop_succ_cons, List.drop_zero]
      repeat still_step
      refine wpStill_nil ?_
      gi_wp2
      refine ⟨fun _ h => (by cases h), ?_⟩
      gi_wp2
      refine bodyPost_ret (results_none rfl _ _ _) rfl ?_
      exact ⟨⟨_, rfl⟩, _, rfl, by rw [HE.out, PK.out, List.append_nil]; exact hJ pre w4 w4.drew none J4.out (grown_below (Below.refl _ _).drew) (fun r e => by cases e)⟩
theorem packets_yields (n : Nat) (hn : 1 ≤ n) (d : List UInt8) (hd : d.length ≤ 1030) (B0 : Nat) (w : World) (l0 : B0 < w.heap.size) (b0 : w.cell? ⟨B0, 0, none⟩ = some (.string (bs d))) :
    Yields n Tryz.prog 142 #[.pointer (some ⟨B0, 0, none⟩)] encP (fun pre x => ∃ rest, (Ch.pks d.length d).1 = pre ++ x :: rest) (fun xs => xs = (Ch.pks d.length d).1) w := fun l J W hW hJ hY h0 =>
  packets1_in n hn l B0 d hd J W hJ hY ((hW.cell (p := ⟨B0, 0, none⟩) l0).trans b0) h0
end Go.Proofs.YtchfkncbemjepaaGreat
