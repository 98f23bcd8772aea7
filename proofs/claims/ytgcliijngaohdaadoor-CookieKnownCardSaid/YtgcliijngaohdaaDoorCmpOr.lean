/-
  The contracts of cmp.Compare and cmp.Or.
-/
import Derived.Test.YtgcliijngaohdaaDoorRowInt
import Derived.Deep.CutRange
import Derived.RegionTactic
import Derived.BigRegion
namespace Go.Proofs.YtgcliijngaohdaaDoor
set_option maxRecDepth 10000
open Go.RowKit
set_option linter.unusedSimpArgs false
set_option linter.unusedVariables false

def two (a b : Int) (z : Int) : Int := if a < b then -1 else if b < a then 1 else z
/-- An answer, and nothing has turned. -/
def JustIs (v : Value) (w : World) (e : Ending) (w' : World) : Prop := e = .returned v ∧ w = w'
/-- The first that is not 0. -/
def orL : List Int → Int
  | [] => 0
  | x :: l => if x = 0 then orL l else x
theorem orL_drop (l : List Int) (j : Nat) (hj : j < l.length) : orL (l.drop j) = if l.getD j 0 = 0 then orL (l.drop (j + 1)) else l.getD j 0 := by
  rw [List.drop_eq_getElem_cons hj, show l.getD j 0 = l[j] by simp [List.getD, List.getElem?_eq_getElem hj]]
  rfl
end Go.Proofs.YtgcliijngaohdaaDoor
