/-
  The contracts of package sum's Sum, Field and Right over parts that read as lists of bytes: the sum of all of them, one behind the other.
-/
import Derived.Test.YtgcliijngaohdaaDoorSumNum
import Derived.Test.YtgcliijngaohdaaDoorRdL
import Derived.OneCell
import Derived.Deep.LoopGhost
import Derived.LoopTactic
import Derived.Outline
namespace Go.Proofs.YtgcliijngaohdaaDoor
set_option maxRecDepth 10000
open Go.RowKit

/-- The worlds of eachWord: the captured sum lies alone in the first block behind the older ones, and nothing older has turned. -/
structure Acc (w : World) (x : Int) (w' : World) : Prop where
  blk : w'.heap[w.heap.size]? = some (.cells #[.int .u16 x] 24 (0, 0))
  below : Below w.heap.size w w'
theorem Acc.set_ {w w' : World} {x : Int} (h : Acc w x w') (y : Int) : Acc w y (w'.setCell ⟨w.heap.size, 0, none⟩ (.int .u16 y)) :=
  ⟨one_setCell h.blk, h.below.setCell (Nat.le_refl _) _⟩

end Go.Proofs.YtgcliijngaohdaaDoor
