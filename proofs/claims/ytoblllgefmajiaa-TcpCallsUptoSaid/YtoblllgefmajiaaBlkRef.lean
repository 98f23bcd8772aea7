/-
  The contracts of culvertlaw05's sameBlocks and of culvertref05's WithScale.
-/
import Derived.Test.YtoblllgefmajiaaBlk
import Derived.Test.YtoblllgefmajiaaOptFind
namespace Go.Proofs.Ytoblllgefmajiaa
set_option maxRecDepth 10000
open Go.RowKit

/-- An option told: its kind, and bytes in a row of the call's own. -/
def OptIs (kd : Int) (m : Nat) (D : List Int) (w : World) (e : Ending) (w' : World) : Prop :=
  ∃ A c, e = .returned (.agg #[.int .u8 kd, .slice A m c]) ∧ OwnB w' w.heap.size A m c D ∧ Below w.heap.size w w'
def scaleOf (n : Int) : Int := if n < 0 then 0 else if 14 < n then 14 else n
theorem scaleOf_bd (n : Int) : 0 ≤ scaleOf n ∧ scaleOf n ≤ 14 := by unfold scaleOf; split <;> (try split) <;> omega

end Go.Proofs.Ytoblllgefmajiaa
