/- Laws for the walk: copy and make of elements of several cells. -/
import Derived.Test.YtgfihljledmaaaaVpFirst
import Derived.Test.YtgfihljledmaaaaVpAll
import Derived.Laws.IdiomCopy
namespace Go.Proofs.Ytgfihljledmaaaa
open Go.RowKit
set_option linter.unusedVariables false

section
variable {P : Program}
theorem run_copy_many (w : World) (dT sT ty elem : TypeId) (b o dLen dCap : Nat) (a : Addr) (sLen sCap n size : Nat) (cs : List Value)
    (hu : P.underlying dT = some (.slice elem)) (hs : (P.info? elem).map (·.size) = some size) (hn : Nat.min sLen dLen = n) (hl : cs.length = n * size)
    (hsrc : ∀ j v, cs[j]? = some v → w.cell? (a.add j) = some v) (hc : ∀ j, j < cs.length → (w.cell? ⟨b, o + j, none⟩).isSome = true) (hf : ∀ j, j < cs.length → w.frozen? ⟨b, o + j, none⟩ = false) (h1 : ∀ v ∈ cs, v.oneCell' = true) :
    (Builtin.copy_ #[dT, sT] ty #[.slice (some ⟨b, o, none⟩) dLen dCap, .slice (some a) sLen sCap]).run P w = .ok (goInt n) (w.setCells b o cs) := by
  have hfc := run_firstCells_some (P := P) w size n a sLen sCap cs hl hsrc
  have hst := run_storeCells_cells (P := P) b o cs 0 w (by simpa using hc) (by simpa using hf) h1
  rw [Nat.add_zero] at hst
  cases hq : P.info? elem with
  | none => simp [hq] at hs
  | some i =>
    have hi : i.size = size := by simpa [hq] using hs
    simp [Builtin.copy_, run_underlying hu, Builtin.lenOf, sizeOf, typeInfo, hq, hi, hn, hfc, hst]
theorem wpList_copy_many {w : World} {ops : Array Oper} {rest : List Oper} {o : Oper} {a : Act} {Q : Exit → Act → World → Prop} (hgd : o.guard = none) (d s : Operand) (dT sT : TypeId)
    (ho : o.op = .call { callee := .builtin .copy, args := #[d, s], argTypes := #[dT, sT] }) (elem : TypeId) (size : Nat) (hu : P.underlying dT = some (.slice elem)) (hsz : (P.info? elem).map (·.size) = some size)
    (g off dLen dCap : Nat) (ad : Addr) (sLen sCap n : Nat) (hd : a.eval d = .slice (some ⟨g, off, none⟩) dLen dCap) (hs : a.eval s = .slice (some ad) sLen sCap) (cs : List Value) (hn : Nat.min sLen dLen = n) (hl : cs.length = n * size)
    (hsrc : ∀ j v, cs[j]? = some v → w.cell? (ad.add j) = some v) (hc : w.there g off cs.length) (h1 : ∀ v ∈ cs, v.oneCell' = true)
    (h : wpList P ops Q rest (a.put o.dst (goInt n)) (w.setCells g off cs)) : wpList P ops Q (o :: rest) a w := by
  refine wpList_plain hgd fun K hK => ?_
  have hrun := run_copy_many (P := P) w dT sT o.type elem g off dLen dCap ad sLen sCap n size cs hu hsz hn hl hsrc (fun j hj => (hc j hj).1) (fun j hj => (hc j hj).2) h1
  unfold Oper.wp
  simp [execOp, ho, resolve, invoke, builtin, hd, hs, hrun, Result.andThen]
  exact hK _ _ h
theorem wpList_make_z {w : World} {ops : Array Oper} {rest : List Oper} {o : Oper} {a : Act} {Q : Exit → Act → World → Prop} (hgd : o.guard = none) (x y : Operand) (t e : TypeId) (ho : o.op = .makeSlice t x y) (z : Value) (size bytes : Nat)
    (ht : P.underlying t = some (.slice e)) (hi : (P.info? e).map (fun i => (i.zero, i.size, i.bytes)) = some (some z, size, bytes)) (M : Nat) (hx : a.eval x = .int .i64 (M : Nat)) (hy : a.eval y = .int .i64 (M : Nat)) (hb : bytes * M ≤ 281474976710656) (h63 : M ≤ 1000000000000)
    (h : wpList P ops Q rest (a.put o.dst (.slice (some ⟨w.heap.size, 0, none⟩) M M)) (w.alloc (.cells (madeCells z.cells (M * size)) e))) : wpList P ops Q (o :: rest) a w := by
  refine wpList_plain hgd fun K hK => ?_
  cases hq : P.info? e with
  | none => simp [hq] at hi
  | some i =>
    simp only [hq, Option.map_some, Option.some.injEq, Prod.mk.injEq] at hi
    obtain ⟨h1, h2, h3⟩ := hi
    have hrun := run_make (P := P) w t e i z ht hq h1 .i64 .i64 (M : Int) (M : Int) (by omega) (by omega) (by rw [h3]; omega) (by omega)
    rw [Int.toNat_natCast, h2] at hrun
    unfold Oper.wp execOp
    simp only [ho, hx, hy, hrun, Sem.run_bind, Sem.run_pure, Result.andThen_ok]
    exact hK _ _ h
end
theorem info_bits : (Try.prog.info? 74).map (fun i => (i.zero, i.size, i.bytes)) = some (some (.agg (arrK .u8 64 (fun _ => 0))), 64, 64) := by kernel_rfl
theorem made_bits (M j : Nat) (h : j < M * 64) : (madeCells (Value.agg (arrK .u8 64 (fun _ => 0))).cells (M * 64))[j]? = some (.int .u8 0) := by
  unfold madeCells
  have e : (Value.agg (arrK .u8 64 (fun _ => 0))).cells = Array.replicate 64 (.int .u8 0) := by rw [arrK_zero]; rfl
  rw [e]
  simp only [Array.getElem?_map, Array.getElem?_range, h, if_true, Option.map_some]
  have : j % 64 < 64 := Nat.mod_lt _ (by omega)
  simp [this]
theorem cel_of_row {k : IntKind} {n : Nat} {t : TypeId} {w : World} {b : Nat} {f : Nat → Nat} (h : RowK k n t w b f) : Cel w b n (fun j => .int k (f j : Nat)) := ⟨h.lt, fun j hj => ⟨h.cell hj, h.frozen j⟩⟩
end Go.Proofs.Ytgfihljledmaaaa
