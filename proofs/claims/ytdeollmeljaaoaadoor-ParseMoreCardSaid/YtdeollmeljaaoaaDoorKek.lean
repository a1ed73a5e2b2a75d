import Derived.Test.YtdeollmeljaaoaaDoorQrk
import Derived.Test.YtdeollmeljaaoaaDoorQkk
import Derived.Test.YtdeollmeljaaoaaDoorUfk
import Derived.Test.YtdeollmeljaaoaaDoorUgk
import Derived.Test.YtdeollmeljaaoaaDoorVvk
import Derived.Deep.QuietTactic
import Derived.Deep.AppendLies
set_option linter.unusedVariables false
set_option linter.unusedSimpArgs false
set_option maxHeartbeats 8000000
set_option maxRecDepth 1000000
open Go.ChangeAt Go.ChangeShapes Go.Deep Go.RowKit Go.WideShapes
namespace Go.Proofs.YtdeollmeljaaoaaDoor
abbrev va (u : V) : Value := .agg #[.int .i64 u.k, .int .i64 u.n, .string u.t]
section
variable {α : Type} (lf : Oq → Int × α) (one : Int → α → Int × α) (two : Int → α → α → Int × α)
end
end Go.Proofs.YtdeollmeljaaoaaDoor
