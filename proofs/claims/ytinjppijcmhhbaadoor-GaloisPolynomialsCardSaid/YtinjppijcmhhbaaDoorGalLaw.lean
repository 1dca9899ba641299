/- The laid tables of the rows, bytes as parameters. -/
import Derived.Test.YtinjppijcmhhbaaDoorRowKit
import Derived.Test.YtinjppijcmhhbaaDoorCards
import Derived.Test.YtinjppijcmhhbaaDoorTie
import Derived.Test.YtinjppijcmhhbaaDoorGalAwake
import Derived.LaidMore
import Derived.Lay
import Derived.SevenTiedAt
namespace Go.Proofs.YtinjppijcmhhbaaDoor
open Go.ChangeShapes Go.WideShapes Go.ChangeAt Go.RowKit
set_option linter.unusedVariables false
def laidL : List (String × DataW Unit) := [("unicode/utf8.acceptRanges", Rows.laid_unicode_utf8_acceptRanges), ("unicode/utf8.first", Rows.laid_unicode_utf8_first)]
theorem laid_met (os : Os) (args : Array Value) : laidMetH Tryd.prog laidL ((World.laidAll Tryd.prog os laidL).forCall (fun _ _ => 0) ⟨#[], args, []⟩).memory := by
  rw [MakeChecks.laidMetH_plain _ _ _ (by kernel_rfl)]
  exact laidMet_laidAll _ (by kernel_rfl) (by kernel_rfl)
theorem bounds8 {x : Int} (h : (Lit.int .u8 x).wf = true) : ∃ r : BitVec 8, x = (r.toNat : Int) := by
  obtain ⟨h1, h2⟩ := bounds_u8 h
  exact ⟨BitVec.ofNat 8 x.toNat, by rw [BitVec.toNat_ofNat]; omega⟩
theorem beq_same (s : ByteArray) : (s == s) = true := by show (s.data == s.data) = true; simp
theorem bne_same (s : ByteArray) : (s != s) = false := by rw [bne, beq_same]; rfl
end Go.Proofs.YtinjppijcmhhbaaDoor
