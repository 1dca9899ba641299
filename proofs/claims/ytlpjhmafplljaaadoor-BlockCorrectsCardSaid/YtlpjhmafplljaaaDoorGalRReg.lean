/- The regions of perigeeref04's times and Quotient that draw their order. -/
import Derived.Test.YtlpjhmafplljaaaDoorGalTrim
import Derived.Test.YtlpjhmafplljaaaDoorGalReg
namespace Go.Proofs.YtlpjhmafplljaaaDoor
open Go.RowKit
set_option linter.unusedVariables false

structure TimesRegion (sb i j n N : Nat) (p q : ByteArray) (f : Nat → BitVec 8) (A : Act) (w0 : World) (s : Nat → Bool) (a : Act) (w : World) : Prop where
  off : Off [26, 27, 28, 29, 30, 31, 32, 33, 34, 35, 36, 37, 38, 39, 40, 41, 42, 43, 44] a A
  before : s 19 = false → Below w0.heap.size w0 w
  behind : s 19 = true → ∃ w1, Below w0.heap.size w0 w1 ∧ w = w1.setCell ⟨sb, n, none⟩ (.int .u8 ((f n ^^^ Gal.mul (Gal.co p.data.toList i) (Gal.co q.data.toList j)).toNat : Nat))
  t0 : s 0 = true → a.eval (.tmp 26) = .slice (some ⟨sb, 0, none⟩) N N
  t1 : s 1 = true → a.eval (.tmp 27) = .int .i64 (i : Nat)
  t2 : s 2 = true → a.eval (.tmp 28) = .int .i64 (j : Nat)
  t3 : s 3 = true → a.eval (.tmp 29) = .int .i64 (n : Nat)
  t4 : s 4 = true → a.eval (.tmp 30) = .slice (some ⟨sb, 0, none⟩) N N
  t5 : s 5 = true → a.eval (.tmp 31) = .int .i64 (i : Nat)
  t6 : s 6 = true → a.eval (.tmp 32) = .int .i64 (j : Nat)
  t7 : s 7 = true → a.eval (.tmp 33) = .int .i64 (n : Nat)
  t8 : s 8 = true → a.eval (.tmp 34) = .pointer (some ⟨sb, n, none⟩)
  t9 : s 9 = true → a.eval (.tmp 35) = .int .u8 ((f n).toNat : Nat)
  t10 : s 10 = true → a.eval (.tmp 36) = .string p
  t11 : s 11 = true → a.eval (.tmp 37) = .int .i64 (i : Nat)
  t12 : s 12 = true → a.eval (.tmp 38) = .int .u8 ((Gal.co p.data.toList i).toNat : Nat)
  t13 : s 13 = true → a.eval (.tmp 39) = .string q
  t14 : s 14 = true → a.eval (.tmp 40) = .int .i64 (j : Nat)
  t15 : s 15 = true → a.eval (.tmp 41) = .int .u8 ((Gal.co q.data.toList j).toNat : Nat)
  t16 : s 16 = true → a.eval (.tmp 42) = .int .u8 ((Gal.mul (Gal.co p.data.toList i) (Gal.co q.data.toList j)).toNat : Nat)
  t17 : s 17 = true → a.eval (.tmp 43) = .int .u8 ((f n ^^^ Gal.mul (Gal.co p.data.toList i) (Gal.co q.data.toList j)).toNat : Nat)
  t18 : s 18 = true → a.eval (.tmp 44) = .pointer (some ⟨sb, n, none⟩)
structure CoefRegion (sb i t N C : Nat) (x y : BitVec 8) (q : ByteArray) (f : Nat → BitVec 8) (A : Act) (w0 : World) (s : Nat → Bool) (a : Act) (w : World) : Prop where
  off : Off [33, 34, 35, 36, 37, 38, 39, 40, 32, 41, 42, 11, 12] a A
  before : Below w0.heap.size w0 w
  t0 : s 0 = true → a.eval (.tmp 33) = .slice (some ⟨sb, 0, none⟩) N C
  t1 : s 1 = true → a.eval (.tmp 34) = .int .i64 (i : Nat)
  t2 : s 2 = true → a.eval (.tmp 35) = .pointer (some ⟨sb, i, none⟩)
  t3 : s 3 = true → a.eval (.tmp 36) = .int .u8 (x.toNat : Nat)
  t4 : s 4 = true → a.eval (.tmp 37) = .string q
  t5 : s 5 = true → a.eval (.tmp 38) = .int .i64 (t : Nat)
  t6 : s 6 = true → a.eval (.tmp 39) = .int .u8 (y.toNat : Nat)
  t7 : s 7 = true → a.eval (.tmp 40) = .tuple #[.int .u8 ((Gal.divV x y).toNat : Nat), .int .i64 (Gal.divE y)]
  t8 : s 8 = true → a.eval (.tmp 32) = .tuple #[.int .u8 ((Gal.divV x y).toNat : Nat), .int .i64 (Gal.divE y)]
  t9 : s 9 = true → a.eval (.tmp 41) = .int .u8 ((Gal.divV x y).toNat : Nat)
  t10 : s 10 = true → a.eval (.tmp 42) = .int .i64 (Gal.divE y)
  t11 : s 11 = true → a.eval (.tmp 11) = .int .u8 ((Gal.divV x y).toNat : Nat)
  t12 : s 12 = true → a.eval (.tmp 12) = .int .i64 (Gal.divE y)
structure SubRegion (sb i t dd k n N C : Nat) (c : BitVec 8) (q : ByteArray) (f : Nat → BitVec 8) (A : Act) (w0 : World) (s : Nat → Bool) (a : Act) (w : World) : Prop where
  off : Off [54, 55, 56, 57, 58, 59, 60, 61, 62, 63, 64, 65, 66, 67, 68, 69, 70, 71, 72, 73, 74] a A
  before : s 21 = false → Below w0.heap.size w0 w
  behind : s 21 = true → ∃ w1, Below w0.heap.size w0 w1 ∧ w = w1.setCell ⟨sb, n, none⟩ (.int .u8 ((f n ^^^ Gal.mul c (Gal.co q.data.toList k)).toNat : Nat))
  t0 : s 0 = true → a.eval (.tmp 54) = .slice (some ⟨sb, 0, none⟩) N C
  t1 : s 1 = true → a.eval (.tmp 55) = .int .i64 (i : Nat)
  t2 : s 2 = true → a.eval (.tmp 56) = .int .i64 (t : Nat)
  t3 : s 3 = true → a.eval (.tmp 57) = .int .i64 (dd : Nat)
  t4 : s 4 = true → a.eval (.tmp 58) = .int .i64 (k : Nat)
  t5 : s 5 = true → a.eval (.tmp 59) = .int .i64 (n : Nat)
  t6 : s 6 = true → a.eval (.tmp 60) = .slice (some ⟨sb, 0, none⟩) N C
  t7 : s 7 = true → a.eval (.tmp 61) = .int .i64 (i : Nat)
  t8 : s 8 = true → a.eval (.tmp 62) = .int .i64 (t : Nat)
  t9 : s 9 = true → a.eval (.tmp 63) = .int .i64 (dd : Nat)
  t10 : s 10 = true → a.eval (.tmp 64) = .int .i64 (k : Nat)
  t11 : s 11 = true → a.eval (.tmp 65) = .int .i64 (n : Nat)
  t12 : s 12 = true → a.eval (.tmp 66) = .pointer (some ⟨sb, n, none⟩)
  t13 : s 13 = true → a.eval (.tmp 67) = .int .u8 ((f n).toNat : Nat)
  t14 : s 14 = true → a.eval (.tmp 68) = .int .u8 (c.toNat : Nat)
  t15 : s 15 = true → a.eval (.tmp 69) = .string q
  t16 : s 16 = true → a.eval (.tmp 70) = .int .i64 (k : Nat)
  t17 : s 17 = true → a.eval (.tmp 71) = .int .u8 ((Gal.co q.data.toList k).toNat : Nat)
  t18 : s 18 = true → a.eval (.tmp 72) = .int .u8 ((Gal.mul c (Gal.co q.data.toList k)).toNat : Nat)
  t19 : s 19 = true → a.eval (.tmp 73) = .int .u8 ((f n ^^^ Gal.mul c (Gal.co q.data.toList k)).toNat : Nat)
  t20 : s 20 = true → a.eval (.tmp 74) = .pointer (some ⟨sb, n, none⟩)
structure RquotEnd (lb cb N C m M : Nat) (f g : Nat → BitVec 8) (A : Act) (w0 : World) (s : Nat → Bool) (a : Act) (w : World) : Prop where
  off : Off [75, 76, 77, 78, 79, 80, 4, 5, 6] a A
  before : Below w0.heap.size w0 w
  t0 : s 0 = true → a.eval (.tmp 75) = .slice (some ⟨cb, 0, none⟩) m M
  t1 : s 1 = true → a.eval (.tmp 76) = .string ⟨(Gal.coefs g m).toArray⟩
  t2 : s 2 = true → a.eval (.tmp 77) = .string ⟨(Gal.pol g m).toArray⟩
  t3 : s 3 = true → a.eval (.tmp 78) = .slice (some ⟨lb, 0, none⟩) N C
  t4 : s 4 = true → a.eval (.tmp 79) = .string ⟨(Gal.coefs f N).toArray⟩
  t5 : s 5 = true → a.eval (.tmp 80) = .string ⟨(Gal.pol f N).toArray⟩
  t6 : s 6 = true → a.eval (.tmp 4) = .string ⟨(Gal.pol g m).toArray⟩
  t7 : s 7 = true → a.eval (.tmp 5) = .string ⟨(Gal.pol f N).toArray⟩
  t8 : s 8 = true → a.eval (.tmp 6) = .int .i64 0
end Go.Proofs.YtlpjhmafplljaaaDoor
