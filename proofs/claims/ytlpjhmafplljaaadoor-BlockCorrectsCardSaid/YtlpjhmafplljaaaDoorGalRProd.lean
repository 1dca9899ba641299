/- The contracts of perigeeref04's times, Product, Quotient over this program. -/
import Derived.Test.YtlpjhmafplljaaaDoorGalRFns
import Derived.Test.YtlpjhmafplljaaaDoorGalQuot
namespace Go.Proofs.YtlpjhmafplljaaaDoor
open Go.RowKit
set_option linter.unusedVariables false

end Go.Proofs.YtlpjhmafplljaaaDoor
