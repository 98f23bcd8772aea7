/-
  The contracts of package sum's calls on numbers (add, Word, Long), and of the document's own answers (culvertref02) for them: each leaves the world as it was.
-/
import Derived.Test.YtgcliijngaohdaaDoorRd
import Derived.Test.YtgcliijngaohdaaDoorSumPlain
import Derived.Test.YtgcliijngaohdaaDoorBits16
namespace Go.Proofs.YtgcliijngaohdaaDoor
set_option maxRecDepth 10000
open Go.RowKit

def U32 (a : Int) : Prop := 0 ≤ a ∧ a < 4294967296
theorem hi_u16 {a : Int} (h : U32 a) : U16 (a / 65536) := by unfold U32 at h; unfold U16; omega
theorem lo_u16 (a : Int) : U16 (a % 65536) := by unfold U16; omega

end Go.Proofs.YtgcliijngaohdaaDoor
