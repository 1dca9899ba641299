/- The contract of perigeeref04's Quotient over this program. -/
import Derived.Test.YtlpjhmafplljaaaDoorGalRProd
namespace Go.Proofs.YtlpjhmafplljaaaDoor
open Go.RowKit
set_option linter.unusedVariables false

namespace Gal
theorem quot_ref (p q : List UInt8) (hq : nn q ≠ 0) :
    quotV p q = pol (quo (co (trim p)) (co q) (nn p - (nn q - 1)) (nn q - 1) (inv (co q (nn q - 1)))) (nn p) ∧
    restV p q = pol (left (co (trim p)) (co q) (nn p - (nn q - 1)) (nn q - 1) (inv (co q (nn q - 1))) (nn p - (nn q - 1))) (nn p) := by
  have h := quot_congr (p := p) (q := q) (p' := trim p) (q' := q) (fun i => (co_trim p i).symm) (fun i => rfl)
  refine ⟨?_, ?_⟩
  · rw [h.2.1]
    unfold quotV
    rw [if_neg hq, ← quo_trim _ _ hq]
    have e : pol (quoF (trim p) q) (rounds (trim p) q) = pol (quoF (trim p) q) (nn p) :=
      pol_eq (fun _ => rfl) (quoF_out _ _) (fun k hk => quoF_out _ _ k (by unfold rounds; rw [nn_trim]; omega))
    rw [e]
    unfold quoF vv rounds
    rw [nn_trim]
  · rw [h.2.2]
    unfold restV
    rw [if_neg hq]
    unfold remF vv rounds
    rw [nn_trim]
end Gal

end Go.Proofs.YtlpjhmafplljaaaDoor
