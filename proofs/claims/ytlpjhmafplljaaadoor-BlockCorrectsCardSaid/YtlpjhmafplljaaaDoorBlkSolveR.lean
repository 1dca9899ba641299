/- The regions of perigeeref05's solve that draw their order. -/
import Derived.Test.YtlpjhmafplljaaaDoorBlkRefB
namespace Go.Proofs.YtlpjhmafplljaaaDoor
open Go.RowKit
set_option linter.unusedVariables false

structure ScaleRegion (R n C N i c bi ci : Nat) (f x : BitVec 8) (m : Nat → Nat) (A : Act) (w0 : World) (s : Nat → Bool) (a : Act) (w : World) : Prop where
  off : Off [71, 72, 73, 74, 75, 76, 77, 78, 79, 80, 81, 82, 83, 84, 85] a A
  before : s 15 = false → Below w0.heap.size w0 w
  behind : s 15 = true → ∃ w1, Below w0.heap.size w0 w1 ∧ w = w1.setCell ⟨bi, c, none⟩ (.int .u8 ((Gal.mul x f).toNat : Nat))
  t0 : s 0 = true → a.eval (.tmp 71) = .slice (some ⟨R, 0, none⟩) n C
  t1 : s 1 = true → a.eval (.tmp 72) = .int .i64 (i : Nat)
  t2 : s 2 = true → a.eval (.tmp 73) = .pointer (some ⟨R, i, none⟩)
  t3 : s 3 = true → a.eval (.tmp 74) = .slice (some ⟨bi, 0, none⟩) N ci
  t4 : s 4 = true → a.eval (.tmp 75) = .int .i64 (c : Nat)
  t5 : s 5 = true → a.eval (.tmp 76) = .slice (some ⟨R, 0, none⟩) n C
  t6 : s 6 = true → a.eval (.tmp 77) = .int .i64 (i : Nat)
  t7 : s 7 = true → a.eval (.tmp 78) = .pointer (some ⟨R, i, none⟩)
  t8 : s 8 = true → a.eval (.tmp 79) = .slice (some ⟨bi, 0, none⟩) N ci
  t9 : s 9 = true → a.eval (.tmp 80) = .int .i64 (c : Nat)
  t10 : s 10 = true → a.eval (.tmp 81) = .pointer (some ⟨bi, c, none⟩)
  t11 : s 11 = true → a.eval (.tmp 82) = .int .u8 (x.toNat : Nat)
  t12 : s 12 = true → a.eval (.tmp 83) = .int .u8 (f.toNat : Nat)
  t13 : s 13 = true → a.eval (.tmp 84) = .int .u8 ((Gal.mul x f).toNat : Nat)
  t14 : s 14 = true → a.eval (.tmp 85) = .pointer (some ⟨bi, c, none⟩)
structure LessRegion (R n C N i r c bi ci br cr : Nat) (f y z : BitVec 8) (m mr : Nat → Nat) (A : Act) (w0 : World) (s : Nat → Bool) (a : Act) (w : World) : Prop where
  off : Off [108, 109, 110, 111, 112, 113, 114, 115, 116, 117, 118, 119, 120, 121, 122, 123, 124, 125, 126, 127, 128, 129, 130] a A
  before : s 23 = false → Below w0.heap.size w0 w
  behind : s 23 = true → ∃ w1, Below w0.heap.size w0 w1 ∧ w = w1.setCell ⟨br, c, none⟩ (.int .u8 ((y ^^^ Gal.mul f z).toNat : Nat))
  t0 : s 0 = true → a.eval (.tmp 108) = .slice (some ⟨R, 0, none⟩) n C
  t1 : s 1 = true → a.eval (.tmp 109) = .int .i64 (r : Nat)
  t2 : s 2 = true → a.eval (.tmp 110) = .pointer (some ⟨R, r, none⟩)
  t3 : s 3 = true → a.eval (.tmp 111) = .slice (some ⟨br, 0, none⟩) N cr
  t4 : s 4 = true → a.eval (.tmp 112) = .int .i64 (c : Nat)
  t5 : s 5 = true → a.eval (.tmp 113) = .slice (some ⟨R, 0, none⟩) n C
  t6 : s 6 = true → a.eval (.tmp 114) = .int .i64 (r : Nat)
  t7 : s 7 = true → a.eval (.tmp 115) = .pointer (some ⟨R, r, none⟩)
  t8 : s 8 = true → a.eval (.tmp 116) = .slice (some ⟨br, 0, none⟩) N cr
  t9 : s 9 = true → a.eval (.tmp 117) = .int .i64 (c : Nat)
  t10 : s 10 = true → a.eval (.tmp 118) = .pointer (some ⟨br, c, none⟩)
  t11 : s 11 = true → a.eval (.tmp 119) = .int .u8 (y.toNat : Nat)
  t12 : s 12 = true → a.eval (.tmp 120) = .int .u8 (f.toNat : Nat)
  t13 : s 13 = true → a.eval (.tmp 121) = .slice (some ⟨R, 0, none⟩) n C
  t14 : s 14 = true → a.eval (.tmp 122) = .int .i64 (i : Nat)
  t15 : s 15 = true → a.eval (.tmp 123) = .pointer (some ⟨R, i, none⟩)
  t16 : s 16 = true → a.eval (.tmp 124) = .slice (some ⟨bi, 0, none⟩) N ci
  t17 : s 17 = true → a.eval (.tmp 125) = .int .i64 (c : Nat)
  t18 : s 18 = true → a.eval (.tmp 126) = .pointer (some ⟨bi, c, none⟩)
  t19 : s 19 = true → a.eval (.tmp 127) = .int .u8 (z.toNat : Nat)
  t20 : s 20 = true → a.eval (.tmp 128) = .int .u8 ((Gal.mul f z).toNat : Nat)
  t21 : s 21 = true → a.eval (.tmp 129) = .int .u8 ((y ^^^ Gal.mul f z).toNat : Nat)
  t22 : s 22 = true → a.eval (.tmp 130) = .pointer (some ⟨br, c, none⟩)
theorem swap_cell {w : World} {R k : Nat} {u v : Value} (i : Nat) (h : w.cell? ⟨R, k, none⟩ = some u) : ∃ u', (w.setCell ⟨R, i, none⟩ v).cell? ⟨R, k, none⟩ = some u' := by
  by_cases e : k = i
  · subst e
    exact ⟨v, World.cell?_setCell_same' _ _ _ (by rw [h]; rfl)⟩
  · exact ⟨u, by rw [World.cell?_setCell_other (h := addr_off (fun x => e x.symm))]; exact h⟩
structure SwapRegion (R n C N i k bi ci bk ck : Nat) (A : Act) (w0 : World) (s : Nat → Bool) (a : Act) (w : World) : Prop where
  off : Off [41, 42, 43, 44, 45, 46, 47, 48, 49, 50, 51, 52, 53, 54] a A
  before : s 13 = false → Below w0.heap.size w0 w
  mid : s 13 = true → s 15 = false → ∃ w1, Below w0.heap.size w0 w1 ∧ w = w1.setCell ⟨R, i, none⟩ (.slice (some ⟨bk, 0, none⟩) N ck)
  behind : s 15 = true → ∃ w1, Below w0.heap.size w0 w1 ∧ w = (w1.setCell ⟨R, i, none⟩ (.slice (some ⟨bk, 0, none⟩) N ck)).setCell ⟨R, k, none⟩ (.slice (some ⟨bi, 0, none⟩) N ci)
  t0 : s 0 = true → a.eval (.tmp 41) = .slice (some ⟨R, 0, none⟩) n C
  t1 : s 1 = true → a.eval (.tmp 42) = .int .i64 (i : Nat)
  t2 : s 2 = true → a.eval (.tmp 43) = .slice (some ⟨R, 0, none⟩) n C
  t3 : s 3 = true → a.eval (.tmp 44) = .int .i64 (k : Nat)
  t4 : s 4 = true → a.eval (.tmp 45) = .slice (some ⟨R, 0, none⟩) n C
  t5 : s 5 = true → a.eval (.tmp 46) = .int .i64 (k : Nat)
  t6 : s 6 = true → a.eval (.tmp 47) = .pointer (some ⟨R, k, none⟩)
  t7 : s 7 = true → a.eval (.tmp 48) = .slice (some ⟨bk, 0, none⟩) N ck
  t8 : s 8 = true → a.eval (.tmp 49) = .slice (some ⟨R, 0, none⟩) n C
  t9 : s 9 = true → a.eval (.tmp 50) = .int .i64 (i : Nat)
  t10 : s 10 = true → a.eval (.tmp 51) = .pointer (some ⟨R, i, none⟩)
  t11 : s 11 = true → a.eval (.tmp 52) = .slice (some ⟨bi, 0, none⟩) N ci
  t12 : s 12 = true → a.eval (.tmp 53) = .pointer (some ⟨R, i, none⟩)
  t14 : s 14 = true → a.eval (.tmp 54) = .pointer (some ⟨R, k, none⟩)
end Go.Proofs.YtlpjhmafplljaaaDoor
