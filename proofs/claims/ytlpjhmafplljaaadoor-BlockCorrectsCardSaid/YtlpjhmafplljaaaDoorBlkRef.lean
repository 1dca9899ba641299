/- The contracts of perigeeref05's turned, power, generator, Encode, Whole, Differ over this program. -/
import Derived.Test.YtlpjhmafplljaaaDoorGalRQuot
import Derived.Test.YtlpjhmafplljaaaDoorBlkDec
namespace Go.Proofs.YtlpjhmafplljaaaDoor
open Go.RowKit
set_option linter.unusedVariables false

theorem coefs_rev (l : List UInt8) : Gal.coefs (fun j => Gal.co l (l.length - 1 - j)) l.length = l.reverse := by
  refine Gal.ext (by rw [Gal.coefs_length, List.length_reverse]) (fun i hi => ?_)
  rw [Gal.coefs_length] at hi
  rw [Gal.co_coefs, if_pos hi, Blk.co_reverse l i hi]
theorem lg2 : Gal.lg 2#8 = 1 := by decide +kernel
/-- Two bytes as a string. -/
theorem pair_str (w : World) (h l : BitVec 8) :
    (convert 33 9 (.slice (some ⟨w.heap.size, 0, none⟩) 2 2)).run Tryd.prog (w.alloc (.cells #[.int .u8 (h.toNat : Nat), .int .u8 (l.toNat : Nat)] 5)) = .ok (.string ⟨#[UInt8.ofBitVec h, UInt8.ofBitVec l]⟩) (w.alloc (.cells #[.int .u8 (h.toNat : Nat), .int .u8 (l.toNat : Nat)] 5)) := by
  have c0 : (w.alloc (.cells #[.int .u8 (h.toNat : Nat), .int .u8 (l.toNat : Nat)] 5)).cell? ⟨w.heap.size, 0, none⟩ = some (.int .u8 (h.toNat : Nat)) := World.cell?_alloc_new w _ _ 0
  have c1 : (w.alloc (.cells #[.int .u8 (h.toNat : Nat), .int .u8 (l.toNat : Nat)] 5)).cell? ⟨w.heap.size, 1, none⟩ = some (.int .u8 (l.toNat : Nat)) := World.cell?_alloc_new w _ _ 1
  exact run_convert_bytes_back (P := Tryd.prog) _ 33 9 5 ⟨w.heap.size, 0, none⟩ 2 [UInt8.ofBitVec h, UInt8.ofBitVec l] Tryd.underlying33 Tryd.underlying5 Tryd.underlying9 (fun j hj => by
    have e : (⟨w.heap.size, 0, none⟩ : Addr).add j = ⟨w.heap.size, j, none⟩ := by unfold Addr.add; split <;> simp_all
    rw [e]
    match j, hj with
    | 0, _ => rw [c0]; rfl
    | 1, _ => rw [c1]; rfl)
/-- The generator as it grows. -/
def gens : Nat → List UInt8
  | 0 => [1]
  | k + 1 => Gal.prodV (gens k) [UInt8.ofBitVec (Gal.pw k), 1]
theorem gens_len : ∀ k, k ≤ 8 → (gens k).length ≤ 9 := by decide +kernel
theorem gens_ok : ∀ k, k < 8 → Gal.prodE (gens k) [UInt8.ofBitVec (Gal.pw k), 1] = 0 := by decide +kernel
theorem gens_all : gens 8 = Blk.gen := by decide +kernel
theorem sz (l : List UInt8) : (⟨l.toArray⟩ : ByteArray).size = l.length := by
  show l.toArray.size = _
  rw [List.size_toArray]
/-- Eight bytes 0 and the data backwards. -/
theorem high_str (d : ByteArray) : (⟨(Gal.coefs (fun _ => 0#8) 8).toArray⟩ : ByteArray) ++ (⟨d.data.toList.reverse.toArray⟩ : ByteArray) = ⟨(Blk.high d.data.toList).toArray⟩ := by
  apply ByteArray.ext
  have : Gal.coefs (fun _ => 0#8) 8 = List.replicate 8 0 := by decide +kernel
  rw [ByteArray.data_append, this]
  unfold Blk.high
  simp
theorem step_make {o : Oper} {a : Act} {w : World} {K : Act → World → Prop} {Q : Exit → Act → World → Prop} {x : Operand} (hop : o.op = .makeSlice 33 x x) (n : Nat) (hn : n ≤ 1000000) {k : IntKind} (hx : a.eval x = .int k (n : Nat))
    (h : ∀ w', NumsK .u8 w' w.heap.size n (fun _ => 0) → Below w.heap.size w w' → K (a.put o.dst (.slice (some ⟨w.heap.size, 0, none⟩) n n)) w') : o.wp Tryd.prog a w K Q := by
  obtain ⟨i0, hi, hz0, hz1, hz2⟩ := info_parts info_u8
  obtain ⟨w', hrun, r1, r2⟩ := run_make_full (P := Tryd.prog) w w.heap.size 33 5 i0 (.int .u8 0) 1 Tryd.underlying33 hi hz0 hz1 k k n (by rw [hz2]; omega) (by unfold maxLen; omega) (Nat.le_refl _)
  unfold Oper.wp
  simp [execOp, hop, hx, hrun, Result.andThen]
  exact h w' (madeNums r1) ((Below.refl _ _).grown r2 (Nat.le_refl _) (fun k e => by cases e))
structure EncRegion (dat : ByteArray) (A : Act) (w0 : World) (s : Nat → Bool) (a : Act) (w : World) : Prop where
  off : Off [16, 17, 18, 19, 20, 4] a A
  before : Below w0.heap.size w0 w
  t0 : s 0 = true → ∃ B0, a.eval (.tmp 16) = .slice (some ⟨B0, 0, none⟩) 8 8 ∧ NumsK .u8 w B0 8 (fun _ => 0)
  t1 : s 1 = true → a.eval (.tmp 17) = .string ⟨(Gal.coefs (fun _ => 0#8) 8).toArray⟩
  t2 : s 2 = true → a.eval (.tmp 18) = .string dat
  t3 : s 3 = true → a.eval (.tmp 19) = .string ⟨dat.data.toList.reverse.toArray⟩
  t4 : s 4 = true → a.eval (.tmp 20) = .string (⟨(Gal.coefs (fun _ => 0#8) 8).toArray⟩ ++ ⟨dat.data.toList.reverse.toArray⟩)
  t5 : s 5 = true → a.eval (.tmp 4) = .string (⟨(Gal.coefs (fun _ => 0#8) 8).toArray⟩ ++ ⟨dat.data.toList.reverse.toArray⟩)
theorem pad_one (l : List UInt8) (k : Nat) (h : k < 8) (hk : l.length ≤ k) : Gal.coefs (Gal.co l) (k + 1) = Gal.coefs (Gal.co l) k ++ [0] := by
  rw [Gal.coefs_succ, Gal.co_out hk]
  rfl
theorem restV_len (d : List UInt8) : (Gal.restV (Blk.high d) Blk.gen).length ≤ 8 := by
  have h := Gal.rest_less (Blk.high d) Blk.gen (by rw [Blk.gen_nn]; omega)
  rw [Blk.gen_nn] at h
  have : (Gal.restV (Blk.high d) Blk.gen).length = Gal.nn (Gal.restV (Blk.high d) Blk.gen) := by
    unfold Gal.restV
    rw [if_neg (by rw [Blk.gen_nn]; omega)]
    unfold Gal.pol
    rw [Gal.nn_trim, Gal.trim_length]
  omega
theorem rest_coefs (d : List UInt8) : Gal.coefs (Gal.co (Gal.restV (Blk.high d) Blk.gen)) 8 = Gal.coefs (Blk.rem d) 8 :=
  Gal.coefs_congr (fun i hi => Gal.co_restV (by rw [Blk.gen_nn]; omega) i)
end Go.Proofs.YtlpjhmafplljaaaDoor
