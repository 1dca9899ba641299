/- TmRef -/
import Derived.BigQuiet
import Derived.Test.YtchfkncbemjepaaGreatPkJoin
import Derived.Test.YtchfkncbemjepaaGreatCrcRow
import Derived.Test.YtchfkncbemjepaaGreatCrcBits
import Derived.Test.YtchfkncbemjepaaGreatTyKit
/- Mathematics of layer 10: frames and their encodings. -/
namespace Go.Proofs.YtchfkncbemjepaaGreat
set_option linter.unusedVariables false

/-- A frame. -/
structure Tmf where
  cr : Int
  ch : Int
  ma : Int
  ct : Int
  fi : Int
  da : ByteArray
  wo : Nat
namespace Tm
/-- Is it valid? -/
def Ok (f : Tmf) : Prop := ((0 ≤ f.cr ∧ f.cr ≤ 255) ∧ (0 ≤ f.ma ∧ f.ma ≤ 255) ∧ (0 ≤ f.ct ∧ f.ct ≤ 255) ∧ (0 ≤ f.ch ∧ f.ch ≤ 7) ∧ 32 ≤ f.da.size ∧ f.da.size ≤ 200) ∧ ((0 ≤ f.fi ∧ f.fi < f.da.size) ∨ f.fi = 2046 ∨ f.fi = 2047)
instance (f : Tmf) : Decidable (Ok f) := by unfold Ok; infer_instance
/-- All but the checksum. -/
def body (f : Tmf) : List UInt8 := Pk.six (f.cr.toNat * 64 + f.ch.toNat * 8) (f.ma.toNat * 256 + f.ct.toNat) f.fi.toNat (f.da.data.toList ++ (Pk.hd (f.wo / 65536) ++ Pk.hd (f.wo % 65536)))
/-- The encoding. -/
def enc (f : Tmf) : List UInt8 := body f ++ Pk.hd (Crc.sum16 (body f)).toNat
theorem body_len (f : Tmf) : (body f).length = f.da.size + 10 := by
  unfold body
  rw [Pk.six_len, List.length_append, List.length_append, Pk.hd_len, Pk.hd_len, Array.length_toList]
  show 6 + (f.da.data.size + (2 + 2)) = _
  have : f.da.data.size = f.da.size := rfl
  omega
theorem enc_len (f : Tmf) : (enc f).length = f.da.size + 12 := by
  unfold enc
  rw [List.length_append, body_len, Pk.hd_len]
end Tm
end Go.Proofs.YtchfkncbemjepaaGreat
/- Layer 10: the reference's Valid, two, number and Put. -/
namespace Go.Proofs.YtchfkncbemjepaaGreat
open Go.RowKit
set_option linter.unusedVariables false

/-- A frame as a value, and as cells. -/
def tmVal (f : Tmf) : Value := .agg #[.int .i64 f.cr, .int .i64 f.ch, .int .i64 f.ma, .int .i64 f.ct, .int .i64 f.fi, .string f.da, .int .u32 (f.wo : Nat)]
def tmCel (f : Tmf) : Nat → Value
  | 0 => .int .i64 f.cr
  | 1 => .int .i64 f.ch
  | 2 => .int .i64 f.ma
  | 3 => .int .i64 f.ct
  | 4 => .int .i64 f.fi
  | 5 => .string f.da
  | _ => .int .u32 (f.wo : Nat)
theorem tm_cells (f : Tmf) : ∀ j, j < 7 → (#[.int .i64 f.cr, .int .i64 f.ch, .int .i64 f.ma, .int .i64 f.ct, .int .i64 f.fi, .string f.da, .int .u32 (f.wo : Nat)] : Array Value)[j]? = some (tmCel f j) := fun j hj => by
  match j, hj with
  | 0, _ => rfl
  | 1, _ => rfl
  | 2, _ => rfl
  | 3, _ => rfl
  | 4, _ => rfl
  | 5, _ => rfl
  | 6, _ => rfl
theorem tm_list (f : Tmf) : ∀ j, j < 7 → ([.int .i64 f.cr, .int .i64 f.ch, .int .i64 f.ma, .int .i64 f.ct, .int .i64 f.fi, .string f.da, .int .u32 (f.wo : Nat)] : List Value)[j]? = some (tmCel f j) := fun j hj => by
  match j, hj with
  | 0, _ => rfl
  | 1, _ => rfl
  | 2, _ => rfl
  | 3, _ => rfl
  | 4, _ => rfl
  | 5, _ => rfl
  | 6, _ => rfl
theorem tm_info : (Tryz.prog.info? 100).map (·.size) = some 7 := by kernel_rfl
theorem box_tm {ev : Operand → Value} {o : Oper} {w : World} {x : Operand} {cr ch ma ct fi : Int} {da : ByteArray} {wo : Nat} (h : o.op = .box 100 x) (hx : ev x = .agg #[.int .i64 cr, .int .i64 ch, .int .i64 ma, .int .i64 ct, .int .i64 fi, .string da, .int .u32 (wo : Nat)]) : (execOp ev o).run Tryz.prog w = .ok (.value (.pointer (some ⟨w.heap.size, 0, none⟩))) (w.alloc (.cells #[.int .i64 cr, .int .i64 ch, .int .i64 ma, .int .i64 ct, .int .i64 fi, .string da, .int .u32 (wo : Nat)] 100)) := by
  simp only [execOp, h, hx]; go_simp
end Go.Proofs.YtchfkncbemjepaaGreat
