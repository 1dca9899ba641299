/- ChNone -/
import Derived.ProofKit
import Derived.Test.YtchfkncbemjepaaGreatChSame
/- ChannelsNone: a mux or a demux of layer 11 that is nil or was not returned by its function does nothing, for every input. -/
namespace Go.Proofs.YtchfkncbemjepaaGreat
open Go.ChangeShapes Go.WideShapes Go.ChangeAt Go.RowKit
set_option linter.unusedVariables false

namespace channelsNone
theorem zeroM : ∀ j, j < 52 → (#[.pointer none, .int .i64 0, .int .i64 0, .int .i64 0, .pointer none, .int .i64 0, .int .i64 0, .int .i64 0, .int .i64 0, .int .i64 0, .pointer none, .int .i64 0, .int .i64 0, .int .i64 0, .int .i64 0, .int .i64 0, .pointer none, .int .i64 0, .int .i64 0, .int .i64 0, .int .i64 0, .int .i64 0, .pointer none, .int .i64 0, .int .i64 0, .int .i64 0, .int .i64 0, .int .i64 0, .pointer none, .int .i64 0, .int .i64 0, .int .i64 0, .int .i64 0, .int .i64 0, .pointer none, .int .i64 0, .int .i64 0, .int .i64 0, .int .i64 0, .int .i64 0, .pointer none, .int .i64 0, .int .i64 0, .int .i64 0, .int .i64 0, .int .i64 0, .pointer none, .int .i64 0, .int .i64 0, .int .i64 0, .int .i64 0, .int .i64 0] : Array Value)[j]? = some ((#[.pointer none, .int .i64 0, .int .i64 0, .int .i64 0, .pointer none, .int .i64 0, .int .i64 0, .int .i64 0, .int .i64 0, .int .i64 0, .pointer none, .int .i64 0, .int .i64 0, .int .i64 0, .int .i64 0, .int .i64 0, .pointer none, .int .i64 0, .int .i64 0, .int .i64 0, .int .i64 0, .int .i64 0, .pointer none, .int .i64 0, .int .i64 0, .int .i64 0, .int .i64 0, .int .i64 0, .pointer none, .int .i64 0, .int .i64 0, .int .i64 0, .int .i64 0, .int .i64 0, .pointer none, .int .i64 0, .int .i64 0, .int .i64 0, .int .i64 0, .int .i64 0, .pointer none, .int .i64 0, .int .i64 0, .int .i64 0, .int .i64 0, .int .i64 0, .pointer none, .int .i64 0, .int .i64 0, .int .i64 0, .int .i64 0, .int .i64 0] : Array Value).getD j undef) := fun j hj => by
  match j, hj with
  | 0, _ => rfl
  | 1, _ => rfl
  | 2, _ => rfl
  | 3, _ => rfl
  | 4, _ => rfl
  | 5, _ => rfl
  | 6, _ => rfl
  | 7, _ => rfl
  | 8, _ => rfl
  | 9, _ => rfl
  | 10, _ => rfl
  | 11, _ => rfl
  | 12, _ => rfl
  | 13, _ => rfl
  | 14, _ => rfl
  | 15, _ => rfl
  | 16, _ => rfl
  | 17, _ => rfl
  | 18, _ => rfl
  | 19, _ => rfl
  | 20, _ => rfl
  | 21, _ => rfl
  | 22, _ => rfl
  | 23, _ => rfl
  | 24, _ => rfl
  | 25, _ => rfl
  | 26, _ => rfl
  | 27, _ => rfl
  | 28, _ => rfl
  | 29, _ => rfl
  | 30, _ => rfl
  | 31, _ => rfl
  | 32, _ => rfl
  | 33, _ => rfl
  | 34, _ => rfl
  | 35, _ => rfl
  | 36, _ => rfl
  | 37, _ => rfl
  | 38, _ => rfl
  | 39, _ => rfl
  | 40, _ => rfl
  | 41, _ => rfl
  | 42, _ => rfl
  | 43, _ => rfl
  | 44, _ => rfl
  | 45, _ => rfl
  | 46, _ => rfl
  | 47, _ => rfl
  | 48, _ => rfl
  | 49, _ => rfl
  | 50, _ => rfl
  | 51, _ => rfl
  | j + 52, h => exact absurd h (by omega)
theorem zeroD : ∀ j, j < 37 → (#[.pointer none, .int .i64 0, .int .i64 0, .bool false, .int .i64 0, .string ⟨#[]⟩, .bool false, .int .i64 0, .string ⟨#[]⟩, .string ⟨#[]⟩, .bool false, .int .i64 0, .string ⟨#[]⟩, .string ⟨#[]⟩, .bool false, .int .i64 0, .string ⟨#[]⟩, .string ⟨#[]⟩, .bool false, .int .i64 0, .string ⟨#[]⟩, .string ⟨#[]⟩, .bool false, .int .i64 0, .string ⟨#[]⟩, .string ⟨#[]⟩, .bool false, .int .i64 0, .string ⟨#[]⟩, .string ⟨#[]⟩, .bool false, .int .i64 0, .string ⟨#[]⟩, .string ⟨#[]⟩, .bool false, .int .i64 0, .string ⟨#[]⟩] : Array Value)[j]? = some ((#[.pointer none, .int .i64 0, .int .i64 0, .bool false, .int .i64 0, .string ⟨#[]⟩, .bool false, .int .i64 0, .string ⟨#[]⟩, .string ⟨#[]⟩, .bool false, .int .i64 0, .string ⟨#[]⟩, .string ⟨#[]⟩, .bool false, .int .i64 0, .string ⟨#[]⟩, .string ⟨#[]⟩, .bool false, .int .i64 0, .string ⟨#[]⟩, .string ⟨#[]⟩, .bool false, .int .i64 0, .string ⟨#[]⟩, .string ⟨#[]⟩, .bool false, .int .i64 0, .string ⟨#[]⟩, .string ⟨#[]⟩, .bool false, .int .i64 0, .string ⟨#[]⟩, .string ⟨#[]⟩, .bool false, .int .i64 0, .string ⟨#[]⟩] : Array Value).getD j undef) := fun j hj => by
  match j, hj with
  | 0, _ => rfl
  | 1, _ => rfl
  | 2, _ => rfl
  | 3, _ => rfl
  | 4, _ => rfl
  | 5, _ => rfl
  | 6, _ => rfl
  | 7, _ => rfl
  | 8, _ => rfl
  | 9, _ => rfl
  | 10, _ => rfl
  | 11, _ => rfl
  | 12, _ => rfl
  | 13, _ => rfl
  | 14, _ => rfl
  | 15, _ => rfl
  | 16, _ => rfl
  | 17, _ => rfl
  | 18, _ => rfl
  | 19, _ => rfl
  | 20, _ => rfl
  | 21, _ => rfl
  | 22, _ => rfl
  | 23, _ => rfl
  | 24, _ => rfl
  | 25, _ => rfl
  | 26, _ => rfl
  | 27, _ => rfl
  | 28, _ => rfl
  | 29, _ => rfl
  | 30, _ => rfl
  | 31, _ => rfl
  | 32, _ => rfl
  | 33, _ => rfl
  | 34, _ => rfl
  | 35, _ => rfl
  | 36, _ => rfl
  | j + 37, h => exact absurd h (by omega)
theorem box_mz {ev : Operand → Value} {o : Oper} {w : World} {x : Operand} (h : o.op = .box 61 x) (hx : ev x = .agg #[.pointer none, .int .i64 0, .int .i64 0, .int .i64 0, .pointer none, .int .i64 0, .int .i64 0, .int .i64 0, .int .i64 0, .int .i64 0, .pointer none, .int .i64 0, .int .i64 0, .int .i64 0, .int .i64 0, .int .i64 0, .pointer none, .int .i64 0, .int .i64 0, .int .i64 0, .int .i64 0, .int .i64 0, .pointer none, .int .i64 0, .int .i64 0, .int .i64 0, .int .i64 0, .int .i64 0, .pointer none, .int .i64 0, .int .i64 0, .int .i64 0, .int .i64 0, .int .i64 0, .pointer none, .int .i64 0, .int .i64 0, .int .i64 0, .int .i64 0, .int .i64 0, .pointer none, .int .i64 0, .int .i64 0, .int .i64 0, .int .i64 0, .int .i64 0, .pointer none, .int .i64 0, .int .i64 0, .int .i64 0, .int .i64 0, .int .i64 0]) : (execOp ev o).run Tryz.prog w = .ok (.value (.pointer (some ⟨w.heap.size, 0, none⟩))) (w.alloc (.cells #[.pointer none, .int .i64 0, .int .i64 0, .int .i64 0, .pointer none, .int .i64 0, .int .i64 0, .int .i64 0, .int .i64 0, .int .i64 0, .pointer none, .int .i64 0, .int .i64 0, .int .i64 0, .int .i64 0, .int .i64 0, .pointer none, .int .i64 0, .int .i64 0, .int .i64 0, .int .i64 0, .int .i64 0, .pointer none, .int .i64 0, .int .i64 0, .int .i64 0, .int .i64 0, .int .i64 0, .pointer none, .int .i64 0, .int .i64 0, .int .i64 0, .int .i64 0, .int .i64 0, .pointer none, .int .i64 0, .int .i64 0, .int .i64 0, .int .i64 0, .int .i64 0, .pointer none, .int .i64 0, .int .i64 0, .int .i64 0, .int .i64 0, .int .i64 0, .pointer none, .int .i64 0, .int .i64 0, .int .i64 0, .int .i64 0, .int .i64 0] 61)) := by
  simp only [execOp, h, hx]; go_simp
theorem box_dz {ev : Operand → Value} {o : Oper} {w : World} {x : Operand} (h : o.op = .box 68 x) (hx : ev x = .agg #[.pointer none, .int .i64 0, .int .i64 0, .bool false, .int .i64 0, .string ⟨#[]⟩, .bool false, .int .i64 0, .string ⟨#[]⟩, .string ⟨#[]⟩, .bool false, .int .i64 0, .string ⟨#[]⟩, .string ⟨#[]⟩, .bool false, .int .i64 0, .string ⟨#[]⟩, .string ⟨#[]⟩, .bool false, .int .i64 0, .string ⟨#[]⟩, .string ⟨#[]⟩, .bool false, .int .i64 0, .string ⟨#[]⟩, .string ⟨#[]⟩, .bool false, .int .i64 0, .string ⟨#[]⟩, .string ⟨#[]⟩, .bool false, .int .i64 0, .string ⟨#[]⟩, .string ⟨#[]⟩, .bool false, .int .i64 0, .string ⟨#[]⟩]) : (execOp ev o).run Tryz.prog w = .ok (.value (.pointer (some ⟨w.heap.size, 0, none⟩))) (w.alloc (.cells #[.pointer none, .int .i64 0, .int .i64 0, .bool false, .int .i64 0, .string ⟨#[]⟩, .bool false, .int .i64 0, .string ⟨#[]⟩, .string ⟨#[]⟩, .bool false, .int .i64 0, .string ⟨#[]⟩, .string ⟨#[]⟩, .bool false, .int .i64 0, .string ⟨#[]⟩, .string ⟨#[]⟩, .bool false, .int .i64 0, .string ⟨#[]⟩, .string ⟨#[]⟩, .bool false, .int .i64 0, .string ⟨#[]⟩, .string ⟨#[]⟩, .bool false, .int .i64 0, .string ⟨#[]⟩, .string ⟨#[]⟩, .bool false, .int .i64 0, .string ⟨#[]⟩, .string ⟨#[]⟩, .bool false, .int .i64 0, .string ⟨#[]⟩] 68)) := by
  simp only [execOp, h, hx]; go_simp
theorem ar_range {w : World} {A : Nat} (h : Cel w A 7 (aC (.slice none 0 0) Ch.av0)) : w.rangeAt A 0 [.int .i64 0, .bool false, .int .i64 0, .int .i64 0, .slice none 0 0, .int .i64 0, .int .u32 0] :=
  h.range 0 _ (fun j v hv => by
    have hj : j < 7 := (List.getElem?_eq_some_iff.1 hv).1
    have := (arC_list (.slice none 0 0) Ch.av0 j hj).symm.trans hv
    refine ⟨by omega, ?_⟩
    rw [Nat.zero_add]
    exact Option.some.inj this)
theorem own_nil (w : World) : w.ownsRow w.heap.size 9 1 (.slice none 0 0) ([] : List (List UInt8)).length (bsVs []) := ⟨rfl, .inl ⟨rfl, rfl⟩⟩
theorem same_zero (w : World) : Calls Tryz.prog 24 #[.agg #[.int .i64 0, .bool false, .int .i64 0, .int .i64 0, .slice none 0 0, .int .i64 0, .int .u32 0], .agg #[.int .i64 0, .bool false, .int .i64 0, .int .i64 0, .slice none 0 0, .int .i64 0, .int .u32 0]] w fun e w' => e = .returned (.bool true) ∧ Below w.heap.size w w' :=
  same_some 0 0 0 0 0 false [] none none 0 0 w.heap.size w.heap.size (by simp) w (own_nil w) (own_nil w)
set_option maxRecDepth 100000 in
set_option maxHeartbeats 4000000 in
theorem walk (c : Int) (hc : (Lit.int .i64 c).wf = true) (b : ByteArray) (hb : b.size ≤ maxLen) (wd : Int) (hw : (Lit.int .u32 wd).wf = true) (w : World) : Calls Tryz.prog 5 #[.int .i64 c, .string b, .int .u32 wd] w fun e w' => e = .returned (.bool true) ∧ Below w.heap.size w w' := by
  have SH := Lib.hid (fun w => cshown_any w)
  have SZ := Lib.hid (fun w => same_zero w)
  have z1 : ((⟨#[]⟩ : ByteArray) == ⟨#[]⟩) = true := by decide
  clear hc hb hw
  go_enter Tryz.func5, Tryz.ntmps5
  go_wp2_with fail
  (with_reducible refine (SH.out _).mono ?_)
  rintro e w1 ⟨rfl, h1⟩
  have B1 := Lib.hid h1
  clear h1
  go_wp2_with (first
    | ((with_reducible refine atList ?_); refine wpList_newT rfl (.box 61 (.tmp 21)) rfl (some 22) rfl #[.pointer none, .int .i64 0, .int .i64 0, .int .i64 0, .pointer none, .int .i64 0, .int .i64 0, .int .i64 0, .int .i64 0, .int .i64 0, .pointer none, .int .i64 0, .int .i64 0, .int .i64 0, .int .i64 0, .int .i64 0, .pointer none, .int .i64 0, .int .i64 0, .int .i64 0, .int .i64 0, .int .i64 0, .pointer none, .int .i64 0, .int .i64 0, .int .i64 0, .int .i64 0, .int .i64 0, .pointer none, .int .i64 0, .int .i64 0, .int .i64 0, .int .i64 0, .int .i64 0, .pointer none, .int .i64 0, .int .i64 0, .int .i64 0, .int .i64 0, .int .i64 0, .pointer none, .int .i64 0, .int .i64 0, .int .i64 0, .int .i64 0, .int .i64 0, .pointer none, .int .i64 0, .int .i64 0, .int .i64 0, .int .i64 0, .int .i64 0] 61 (fun X => .pointer (some ⟨X, 0, none⟩)) 52 (fun j => (#[.pointer none, .int .i64 0, .int .i64 0, .int .i64 0, .pointer none, .int .i64 0, .int .i64 0, .int .i64 0, .int .i64 0, .int .i64 0, .pointer none, .int .i64 0, .int .i64 0, .int .i64 0, .int .i64 0, .int .i64 0, .pointer none, .int .i64 0, .int .i64 0, .int .i64 0, .int .i64 0, .int .i64 0, .pointer none, .int .i64 0, .int .i64 0, .int .i64 0, .int .i64 0, .int .i64 0, .pointer none, .int .i64 0, .int .i64 0, .int .i64 0, .int .i64 0, .int .i64 0, .pointer none, .int .i64 0, .int .i64 0, .int .i64 0, .int .i64 0, .int .i64 0, .pointer none, .int .i64 0, .int .i64 0, .int .i64 0, .int .i64 0, .int .i64 0, .pointer none, .int .i64 0, .int .i64 0, .int .i64 0, .int .i64 0, .int .i64 0] : Array Value).getD j undef) zeroM (box_mz rfl rfl) ?_; intro N w2 HN SN CN BN TN)
    | ((with_reducible refine atList ?_); refine wpList_newT rfl (.box 68 (.tmp 23)) rfl (some 24) rfl #[.pointer none, .int .i64 0, .int .i64 0, .bool false, .int .i64 0, .string ⟨#[]⟩, .bool false, .int .i64 0, .string ⟨#[]⟩, .string ⟨#[]⟩, .bool false, .int .i64 0, .string ⟨#[]⟩, .string ⟨#[]⟩, .bool false, .int .i64 0, .string ⟨#[]⟩, .string ⟨#[]⟩, .bool false, .int .i64 0, .string ⟨#[]⟩, .string ⟨#[]⟩, .bool false, .int .i64 0, .string ⟨#[]⟩, .string ⟨#[]⟩, .bool false, .int .i64 0, .string ⟨#[]⟩, .string ⟨#[]⟩, .bool false, .int .i64 0, .string ⟨#[]⟩, .string ⟨#[]⟩, .bool false, .int .i64 0, .string ⟨#[]⟩] 68 (fun X => .pointer (some ⟨X, 0, none⟩)) 37 (fun j => (#[.pointer none, .int .i64 0, .int .i64 0, .bool false, .int .i64 0, .string ⟨#[]⟩, .bool false, .int .i64 0, .string ⟨#[]⟩, .string ⟨#[]⟩, .bool false, .int .i64 0, .string ⟨#[]⟩, .string ⟨#[]⟩, .bool false, .int .i64 0, .string ⟨#[]⟩, .string ⟨#[]⟩, .bool false, .int .i64 0, .string ⟨#[]⟩, .string ⟨#[]⟩, .bool false, .int .i64 0, .string ⟨#[]⟩, .string ⟨#[]⟩, .bool false, .int .i64 0, .string ⟨#[]⟩, .string ⟨#[]⟩, .bool false, .int .i64 0, .string ⟨#[]⟩, .string ⟨#[]⟩, .bool false, .int .i64 0, .string ⟨#[]⟩] : Array Value).getD j undef) zeroD (box_dz rfl rfl) ?_; intro G w3 HG SG CG BG TG; have B3 := Lib.hid (bt (bt B1.out BN.out) BG.out); have nz := Lib.hid (show w3.cell? ⟨N, 0, none⟩ = some (.pointer none) from (CN.out.below BG.out).cell (j := 0) (by omega)); have gz := Lib.hid (show w3.cell? ⟨G, 0, none⟩ = some (.pointer none) from CG.out.cell (j := 0) (by omega)); have ln := Lib.hid (CN.out.below BG.out).lt; have lg := Lib.hid CG.out.lt; clear CN CG BN BG TN TG HN HG SN SG))
  obtain ⟨v21, h21⟩ : ∃ v, (.agg #[.pointer none, .int .i64 0, .int .i64 0, .int .i64 0, .pointer none, .int .i64 0, .int .i64 0, .int .i64 0, .int .i64 0, .int .i64 0, .pointer none, .int .i64 0, .int .i64 0, .int .i64 0, .int .i64 0, .int .i64 0, .pointer none, .int .i64 0, .int .i64 0, .int .i64 0, .int .i64 0, .int .i64 0, .pointer none, .int .i64 0, .int .i64 0, .int .i64 0, .int .i64 0, .int .i64 0, .pointer none, .int .i64 0, .int .i64 0, .int .i64 0, .int .i64 0, .int .i64 0, .pointer none, .int .i64 0, .int .i64 0, .int .i64 0, .int .i64 0, .int .i64 0, .pointer none, .int .i64 0, .int .i64 0, .int .i64 0, .int .i64 0, .int .i64 0, .pointer none, .int .i64 0, .int .i64 0, .int .i64 0, .int .i64 0, .int .i64 0] : Value) = v := ⟨_, rfl⟩
  obtain ⟨v23, h23⟩ : ∃ v, (.agg #[.pointer none, .int .i64 0, .int .i64 0, .bool false, .int .i64 0, .string ⟨#[]⟩, .bool false, .int .i64 0, .string ⟨#[]⟩, .string ⟨#[]⟩, .bool false, .int .i64 0, .string ⟨#[]⟩, .string ⟨#[]⟩, .bool false, .int .i64 0, .string ⟨#[]⟩, .string ⟨#[]⟩, .bool false, .int .i64 0, .string ⟨#[]⟩, .string ⟨#[]⟩, .bool false, .int .i64 0, .string ⟨#[]⟩, .string ⟨#[]⟩, .bool false, .int .i64 0, .string ⟨#[]⟩, .string ⟨#[]⟩, .bool false, .int .i64 0, .string ⟨#[]⟩, .string ⟨#[]⟩, .bool false, .int .i64 0, .string ⟨#[]⟩] : Value) = v := ⟨_, rfl⟩
  rw [h21, h23]
  clear h21 h23
  (with_reducible refine (mNext_nil w3 wd).mono ?_)
  rintro e w' ⟨rfl, rfl⟩
  go_wp2_with fail
  have Z4 := Lib.hid (mNext_zero nz.out wd)
  (with_reducible refine Z4.out.mono ?_)
  rintro e w' ⟨rfl, rfl⟩
  clear Z4
  go_wp2_with fail
  (with_reducible refine (dFeed_nil w3 b).mono ?_)
  rintro e w4 ⟨rfl, h4⟩
  have B4 := Lib.hid (bt B3.out h4)
  have K4 := Lib.hid h4
  clear h4
  go_wp2_with (first
    | ((with_reducible refine atList ?_); refine wpList_newT rfl (.alloc 51) rfl (some 15) rfl #[.int .i64 0, .bool false, .int .i64 0, .int .i64 0, .slice none 0 0, .int .i64 0, .int .u32 0] 51 (fun X => .pointer (some ⟨X, 0, none⟩)) 7 (aC (.slice none 0 0) Ch.av0) (arC_cells (.slice none 0 0) Ch.av0) (alloc_ar rfl) ?_; intro P w5 HP SP CP BP TP)
    | ((with_reducible refine atList ?_); refine wpList_setAllT rfl 51 (.tmp 15) (.tmp 41) rfl P 7 [.int .i64 0, .bool false, .int .i64 0, .int .i64 0, .slice none 0 0, .int .i64 0, .int .u32 0] _ (aC (.slice none 0 0) Ch.av0) CP.out rfl (arC_list (.slice none 0 0) Ch.av0) rfl rfl info_ar (by simp [Value.oneCell']) ?_; intro w6 C6 U6 S6 V6))
  have B46 : Hid (Below w4.heap.size w4 w6) := Lib.hid (BP.out.trans (U6.out.below.mono (by have := HP.out; omega)))
  have B6 := Lib.hid (bt B4.out B46.out)
  have K6 := Lib.hid (bt K4.out B46.out)
  have gz6 := Lib.hid (show w6.cell? ⟨G, 0, none⟩ = some (.pointer none) from (K6.out.cell (p := ⟨G, 0, none⟩) lg.out).trans gz.out)
  have F6 := Lib.hid (dFeed_zero (Nat.lt_of_lt_of_le lg.out K6.out.size) gz6.out b)
  (with_reducible refine F6.out.mono ?_)
  rintro e w7 ⟨rfl, h7⟩
  have B7 := Lib.hid (bt B6.out h7)
  have K7 := Lib.hid (bt K6.out h7)
  have C7 := Lib.hid (C6.out.below h7)
  clear h7 F6
  go_wp2_with (first
    | ((with_reducible refine atList ?_); refine wpList_newT rfl (.alloc 51) rfl (some 17) rfl #[.int .i64 0, .bool false, .int .i64 0, .int .i64 0, .slice none 0 0, .int .i64 0, .int .u32 0] 51 (fun X => .pointer (some ⟨X, 0, none⟩)) 7 (aC (.slice none 0 0) Ch.av0) (arC_cells (.slice none 0 0) Ch.av0) (alloc_ar rfl) ?_; intro Q w8 HQ SQ CQ BQ TQ)
    | ((with_reducible refine atList ?_); refine wpList_setAllT rfl 51 (.tmp 17) (.tmp 47) rfl Q 7 [.int .i64 0, .bool false, .int .i64 0, .int .i64 0, .slice none 0 0, .int .i64 0, .int .u32 0] _ (aC (.slice none 0 0) Ch.av0) CQ.out rfl (arC_list (.slice none 0 0) Ch.av0) rfl rfl info_ar (by simp [Value.oneCell']) ?_; intro w9 C9 U9 S9 V9))
  have B79 : Hid (Below w7.heap.size w7 w9) := Lib.hid (BQ.out.trans (U9.out.below.mono (by have := HQ.out; omega)))
  have B9 := Lib.hid (bt B7.out B79.out)
  have K9 := Lib.hid (bt K7.out B79.out)
  have CP9 := Lib.hid (C7.out.below B79.out)
  have CQ9 := Lib.hid C9.out
  have nz9 := Lib.hid (show w9.cell? ⟨N, 0, none⟩ = some (.pointer none) from (K9.out.cell (p := ⟨N, 0, none⟩) ln.out).trans nz.out)
  (with_reducible refine (mClear_nil w9).mono ?_)
  rintro e w' ⟨⟨v, rfl⟩, rfl⟩
  go_wp2_with fail
  have Z9 := Lib.hid (mClear_zero nz9.out)
  (with_reducible refine Z9.out.mono ?_)
  rintro e w' ⟨⟨v, rfl⟩, rfl⟩
  clear Z9
  have p0 : w9.cell? ⟨P, 0, none⟩ = some (.int .i64 0) := CP9.out.cell (j := 0) (by omega)
  have p1 : w9.cell? ⟨P, 1, none⟩ = some (.bool false) := CP9.out.cell (j := 1) (by omega)
  have p2 : w9.cell? ⟨P, 2, none⟩ = some (.int .i64 0) := CP9.out.cell (j := 2) (by omega)
  have p3 : w9.cell? ⟨P, 3, none⟩ = some (.int .i64 0) := CP9.out.cell (j := 3) (by omega)
  have p4 : w9.cell? ⟨P, 4, none⟩ = some (.slice none 0 0) := CP9.out.cell (j := 4) (by omega)
  have p5 : w9.cell? ⟨P, 5, none⟩ = some (.int .i64 0) := CP9.out.cell (j := 5) (by omega)
  have p6 : w9.cell? ⟨P, 6, none⟩ = some (.int .u32 0) := CP9.out.cell (j := 6) (by omega)
  go_wp2_with fail
  (with_reducible refine (SZ.out _).mono ?_)
  rintro e w10 ⟨rfl, h10⟩
  have B10 := Lib.hid (bt B9.out h10)
  have K10 := Lib.hid (bt K9.out h10)
  have CQ10 := Lib.hid (CQ9.out.below h10)
  clear h10
  clear p0 p1 p2 p3 p4 p5 p6
  have q0 : w10.cell? ⟨Q, 0, none⟩ = some (.int .i64 0) := CQ10.out.cell (j := 0) (by omega)
  have q1 : w10.cell? ⟨Q, 1, none⟩ = some (.bool false) := CQ10.out.cell (j := 1) (by omega)
  have q2 : w10.cell? ⟨Q, 2, none⟩ = some (.int .i64 0) := CQ10.out.cell (j := 2) (by omega)
  have q3 : w10.cell? ⟨Q, 3, none⟩ = some (.int .i64 0) := CQ10.out.cell (j := 3) (by omega)
  have q4 : w10.cell? ⟨Q, 4, none⟩ = some (.slice none 0 0) := CQ10.out.cell (j := 4) (by omega)
  have q5 : w10.cell? ⟨Q, 5, none⟩ = some (.int .i64 0) := CQ10.out.cell (j := 5) (by omega)
  have q6 : w10.cell? ⟨Q, 6, none⟩ = some (.int .u32 0) := CQ10.out.cell (j := 6) (by omega)
  go_wp2_with fail
  (with_reducible refine (SZ.out _).mono ?_)
  rintro e w11 ⟨rfl, h11⟩
  have B11 := Lib.hid (bt B10.out h11)
  have K11 := Lib.hid (bt K10.out h11)
  clear h11
  have nz11 := Lib.hid (show w11.cell? ⟨N, 0, none⟩ = some (.pointer none) from (K11.out.cell (p := ⟨N, 0, none⟩) ln.out).trans nz.out)
  go_wp2_with fail
  (with_reducible refine (mAdd_nil w11 c b).mono ?_)
  rintro e w' ⟨rfl, rfl⟩
  go_wp2_with fail
  have Z11 := Lib.hid (mAdd_zero nz11.out c b)
  (with_reducible refine Z11.out.mono ?_)
  rintro e w' ⟨rfl, rfl⟩
  clear Z11
  go_wp2_with fail
  (with_reducible refine (mWaiting_nil w11 c).mono ?_)
  rintro e w' ⟨rfl, rfl⟩
  go_wp2_with fail
  have Z12 := Lib.hid (mWaiting_zero nz11.out c)
  (with_reducible refine Z12.out.mono ?_)
  rintro e w' ⟨rfl, rfl⟩
  clear Z12
  go_wp2_with fail
  go_ret
  exact ⟨rfl, B11.out⟩

set_option maxRecDepth 100000 in
theorem lifted (os : Os) (started : os.Started) (H : Type) (enc : TypeId × Value → H) :
    ReturnsInHanded {} Tryz.checked os 5 .any (Rows.channelsNoneSpec.pre6 enc Tryz.prog Tryz.f5 Rows.channelsNoneRow.domain false) (Rows.channelsNoneSpec.post enc Tryz.prog Tryz.f5 false true false false) := by
  refine returnsInHanded_of_change (C := Tryz.checked) own started (by kernel_rfl) Tryz.func5
    (ChangeSpec.witness6 (enc := enc) (C := Tryz.checked) false ⟨#[], #[.int .i64 0, .string { data := #[] }, .int .u32 0], []⟩ 8 (by kernel_rfl) (by kernel_rfl) (by kernel_rfl) (by kernel_rfl)) ?_
  intro W base args ds gs before hval0 hW _ _
  have hval : ∀ (j : Nat) t v, Tryz.f5.params[j]? = some t → args[j]? = some v → Value.okWide Tryz.prog W .any base t v := hval0
  have hW' := hW
  obtain ⟨p, q, hA0, hV, rfl, hfz, hnd⟩ := hW
  have hA : DataW.TrodAll enc Tryz.prog W 0 (fun _ => true) true Tryz.f5.params.toList args.toList ds p := hA0
  rw [Tryz.params5] at hA hval
  obtain ⟨v0, vs0, d0, ds0, p0, q0, hargs, rfl, rfl, h0, r0⟩ := trodAll_cons hA
  obtain ⟨v1, vs1, d1, ds1, p1, q1, rfl, rfl, rfl, h1, r1⟩ := trodAll_cons r0
  obtain ⟨v2, vs2, d2, ds2, p2, q2, rfl, rfl, rfl, h2, r2⟩ := trodAll_cons r1
  obtain ⟨rfl, rfl, rfl⟩ := trodAll_nil r2
  obtain rfl : args = #[v0, v1, v2] := by cases args; simp_all
  obtain ⟨rfl, rfl⟩ := trodVars_none hV
  obtain ⟨a0, rfl, rfl, rfl, w0⟩ := open_int Tryz.underlying3 (hval 0 3 v0 rfl rfl) h0
  obtain ⟨a1, rfl, rfl, rfl, w1⟩ := ChangeMaps.open_string Tryz.underlying9 (hval 1 9 v1 rfl rfl) h1
  obtain ⟨a2, rfl, rfl, rfl, w2⟩ := open_int Tryz.underlying34 (hval 2 34 v2 rfl rfl) h2
  clear hA0 hval0
  simp only [List.append_nil] at hW'
  refine (walk a0 w0 a1 w1 a2 w2 W).mono fun e W' ⟨he, hg⟩ => ?_
  subst he
  exact ⟨_, rfl, post_of_below (pa := []) (pv := []) hW' (fun _ _ _ => trodAll_cons_mk (shut_bool Tryz.underlying4 _) trodAll_mk0) (fun sp _ => (trodAll_cons_mk (shut_int Tryz.underlying3 w0) (trodAll_cons_mk (ChangeMaps.shut_string Tryz.underlying9 w1) (trodAll_cons_mk (shut_int Tryz.underlying34 w2) trodAll_mk0)))) (fun _ _ => rfl) rfl
    hg (ok_one (by kernel_rfl) rfl (okWide_bool_mk Tryz.underlying4 _))⟩

theorem proved : Rows.ChannelsNoneSaid :=
  OpenClaim.holds_of_wide 5 Tryz.f5 rfl rfl rfl rfl rfl rfl rfl ⟨rfl, rfl, rfl, rfl, rfl⟩ rfl rfl rfl rfl rfl (by kernel_rfl) Tryz.func5 (by kernel_rfl)
    (of_decide_eq_true (by kernel_rfl)) (by unfold Func.isWrapper; first | (rw [if_pos (by decide +kernel)]; kernel_rfl) | (rw [if_neg (by decide +kernel)]; exact ⟨rfl, rfl⟩))
    (fun os started H enc _ => lifted os started H enc)
#print axioms proved
end channelsNone
end Go.Proofs.YtchfkncbemjepaaGreat
