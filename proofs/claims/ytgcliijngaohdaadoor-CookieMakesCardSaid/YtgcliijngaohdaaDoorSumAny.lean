/-
  The contracts of package sum's Sum, Field and Right, and of the document's own Sum and Field (culvertref02), over bytes that read as lists.
-/
import Derived.Test.YtgcliijngaohdaaDoorSumSum
namespace Go.Proofs.YtgcliijngaohdaaDoor
set_option maxRecDepth 10000
open Go.RowKit

/-- A number told, and nothing older has turned. -/
def SumIs (x : Int) (w : World) (e : Ending) (w' : World) : Prop := e = .returned (.int .u16 x) ∧ Below w.heap.size w w'
def BoolIs (x : Bool) (w : World) (e : Ending) (w' : World) : Prop := e = .returned (.bool x) ∧ Below w.heap.size w w'

end Go.Proofs.YtgcliijngaohdaaDoor
