/- Layer 9: single operations, run. -/
import Derived.Test.YtphkaambodecdaaPkRef
import Derived.Test.YtphkaambodecdaaVarKit
namespace Go.Proofs.Ytphkaambodecdaa
open Go.RowKit
set_option linter.unusedVariables false
set_option maxRecDepth 100000

section
variable {ev : Operand → Value} {w : World} {o : Oper}
theorem alloc_pk (h : o.op = .alloc 23) : (execOp ev o).run Try.prog w = .ok (.value (.pointer (some ⟨w.heap.size, 0, none⟩))) (w.alloc (.cells #[.bool false, .int .i64 0, .int .i64 0, .int .i64 0, .string ⟨#[]⟩] 23)) := by
  simp only [execOp, h]; go_simp
theorem alloc_int (h : o.op = .alloc 3) : (execOp ev o).run Try.prog w = .ok (.value (.pointer (some ⟨w.heap.size, 0, none⟩))) (w.alloc (.cells #[.int .i64 0] 3)) := by
  simp only [execOp, h]; go_simp
theorem alloc_piece (h : o.op = .alloc 52) : (execOp ev o).run Try.prog w = .ok (.value (.pointer (some ⟨w.heap.size, 0, none⟩))) (w.alloc (.cells #[.bool false, .string ⟨#[]⟩, .int .i64 0, .bool false] 52)) := by
  simp only [execOp, h]; go_simp
theorem alloc_known (h : o.op = .alloc 75) : (execOp ev o).run Try.prog w = .ok (.value (.pointer (some ⟨w.heap.size, 0, none⟩))) (w.alloc (.cells #[.int .i64 0, .slice none 0 0] 75)) := by
  simp only [execOp, h]; go_simp
theorem box_pk {x : Operand} {cmd : Bool} {ap fl ct : Int} {da : ByteArray} (h : o.op = .box 23 x) (hx : ev x = .agg #[.bool cmd, .int .i64 ap, .int .i64 fl, .int .i64 ct, .string da]) : (execOp ev o).run Try.prog w = .ok (.value (.pointer (some ⟨w.heap.size, 0, none⟩))) (w.alloc (.cells #[.bool cmd, .int .i64 ap, .int .i64 fl, .int .i64 ct, .string da] 23)) := by
  simp only [execOp, h, hx]; go_simp
theorem store_bool {x y : Operand} {X i : Nat} {u : Value} {b : Bool} (h : o.op = .store 4 x y) (hx : ev x = .pointer (some ⟨X, i, none⟩)) (hy : ev y = .bool b) (hc : w.cell? ⟨X, i, none⟩ = some u) (hf : w.frozen? ⟨X, i, none⟩ = false) : (execOp ev o).run Try.prog w = .ok .skip (w.setCell ⟨X, i, none⟩ (.bool b)) := by
  simp only [execOp, h, hx, hy]; go_simp
theorem load_bool {x : Operand} {X i : Nat} {b : Bool} (h : o.op = .load 4 x) (hx : ev x = .pointer (some ⟨X, i, none⟩)) (hc : w.cell? ⟨X, i, none⟩ = some (.bool b)) : (execOp ev o).run Try.prog w = .ok (.value (.bool b)) w := by
  simp only [execOp, h, hx]; go_simp
theorem store_int {x y : Operand} {X i : Nat} {u : Value} {b : Int} (h : o.op = .store 3 x y) (hx : ev x = .pointer (some ⟨X, i, none⟩)) (hy : ev y = .int .i64 b) (hc : w.cell? ⟨X, i, none⟩ = some u) (hf : w.frozen? ⟨X, i, none⟩ = false) : (execOp ev o).run Try.prog w = .ok .skip (w.setCell ⟨X, i, none⟩ (.int .i64 b)) := by
  simp only [execOp, h, hx, hy]; go_simp
theorem load_int {x : Operand} {X i : Nat} {b : Int} (h : o.op = .load 3 x) (hx : ev x = .pointer (some ⟨X, i, none⟩)) (hc : w.cell? ⟨X, i, none⟩ = some (.int .i64 b)) : (execOp ev o).run Try.prog w = .ok (.value (.int .i64 b)) w := by
  simp only [execOp, h, hx]; go_simp
theorem store_str {x y : Operand} {X i : Nat} {u : Value} {b : ByteArray} (h : o.op = .store 9 x y) (hx : ev x = .pointer (some ⟨X, i, none⟩)) (hy : ev y = .string b) (hc : w.cell? ⟨X, i, none⟩ = some u) (hf : w.frozen? ⟨X, i, none⟩ = false) : (execOp ev o).run Try.prog w = .ok .skip (w.setCell ⟨X, i, none⟩ (.string b)) := by
  simp only [execOp, h, hx, hy]; go_simp
theorem load_str {x : Operand} {X i : Nat} {b : ByteArray} (h : o.op = .load 9 x) (hx : ev x = .pointer (some ⟨X, i, none⟩)) (hc : w.cell? ⟨X, i, none⟩ = some (.string b)) : (execOp ev o).run Try.prog w = .ok (.value (.string b)) w := by
  simp only [execOp, h, hx]; go_simp
theorem store_bytes {x y : Operand} {X i : Nat} {u : Value} {sa : Option Addr} {m sc : Nat} (h : o.op = .store 73 x y) (hx : ev x = .pointer (some ⟨X, i, none⟩)) (hy : ev y = .slice sa m sc) (hc : w.cell? ⟨X, i, none⟩ = some u) (hf : w.frozen? ⟨X, i, none⟩ = false) : (execOp ev o).run Try.prog w = .ok .skip (w.setCell ⟨X, i, none⟩ (.slice sa m sc)) := by
  simp only [execOp, h, hx, hy]; go_simp
theorem load_bytes {x : Operand} {X i : Nat} {sa : Option Addr} {m sc : Nat} (h : o.op = .load 73 x) (hx : ev x = .pointer (some ⟨X, i, none⟩)) (hc : w.cell? ⟨X, i, none⟩ = some (.slice sa m sc)) : (execOp ev o).run Try.prog w = .ok (.value (.slice sa m sc)) w := by
  simp only [execOp, h, hx]; go_simp
end
end Go.Proofs.Ytphkaambodecdaa
