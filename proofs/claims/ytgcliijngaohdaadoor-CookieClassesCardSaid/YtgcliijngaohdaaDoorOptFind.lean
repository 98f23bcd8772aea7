/-
  The contracts of what the document itself finds among options (culvertref05's Mss, Scale, SackOk).
-/
import Derived.Test.YtgcliijngaohdaaDoorOptRef
import Derived.Test.YtgcliijngaohdaaDoorBits16
namespace Go.Proofs.YtgcliijngaohdaaDoor
set_option maxRecDepth 10000
open Go.RowKit

theorem find_at {ls : List (Int × List Int)} {p : Int × List Int → Bool} {j : Nat} (hj : j < ls.length) (h : (ls.take j).find? p = none) (hp : p (ls.getD j (0, [])) = true) : ls.find? p = some (ls.getD j (0, [])) := by
  have e : ls = ls.take j ++ ls.getD j (0, []) :: ls.drop (j + 1) := by
    have h2 : ls.drop j = ls.getD j (0, []) :: ls.drop (j + 1) := by rw [List.drop_eq_getElem_cons hj]; simp [List.getD, List.getElem?_eq_getElem hj]
    rw [← h2, List.take_append_drop]
  have e2 : ls.find? p = (ls.take j ++ ls.getD j (0, []) :: ls.drop (j + 1)).find? p := congrArg _ e
  rw [e2, List.find?_append, h, List.find?_cons_of_pos hp]
  rfl
theorem find_snoc {ls : List (Int × List Int)} {p : Int × List Int → Bool} {j : Nat} (hj : j < ls.length) (h : (ls.take j).find? p = none) (hp : p (ls.getD j (0, [])) = false) : (ls.take (j + 1)).find? p = none := by
  rw [take_snoc_ ls j (0, []) hj, List.find?_append, h, List.find?_cons_of_neg (by rw [hp]; simp)]
  rfl

def mssP (l : Int × List Int) : Bool := decide (l.1 = 2) && decide (l.2.length = 2)
def scaleP (l : Int × List Int) : Bool := decide (l.1 = 3) && decide (l.2.length = 1)
def sackP (l : Int × List Int) : Bool := decide (l.1 = 4) && decide (l.2.length = 0)
def mssL (ls : List (Int × List Int)) : Int × Bool := match ls.find? mssP with | some l => (l.2.getD 0 0 * 256 + l.2.getD 1 0, true) | none => (0, false)
def scaleL (ls : List (Int × List Int)) : Int × Bool := match ls.find? scaleP with | some l => (if 14 < l.2.getD 0 0 then 14 else l.2.getD 0 0, true) | none => (0, false)
def sackL (ls : List (Int × List Int)) : Bool := (ls.find? sackP).isSome
def PairIs (kd : IntKind) (x : Int) (y : Bool) (w : World) (e : Ending) (w' : World) : Prop := e = .returned (.tuple #[.int kd x, .bool y]) ∧ Below w.heap.size w w'

end Go.Proofs.YtgcliijngaohdaaDoor
