/- A drawing region, begun in whatever world meets the state. -/
import Derived.Test.YtacpeibkamfibaaTg
namespace Go.Proofs.Ytacpeibkamfibaa
open Go
set_option linter.unusedVariables false
theorem wpT_begin2 {P : Program} {ops : Array Oper} {Q : Exit → Act → World → Prop} {S : World → Prop} (L : List Nat) {id : Nat} {a : Act} {w : World} (hm : P.follows .mixedOrders = true) (hS : S w.drew)
    (h : ∀ W : World, S W → wpAnyT P .any ops Q S L ops.size (Array.replicate ops.size false) a W) : (Code.region id ops true).wp P Q a w := wpT_begin L hm hS (h _)
end Go.Proofs.Ytacpeibkamfibaa
