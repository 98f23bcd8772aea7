/-
  The contract of the document's own Put for options (culvertref05).
-/
import Derived.Test.YtgcliijngaohdaaDoorOptRef
import Derived.Deep.RegionHeld3
import Derived.IntWalk
namespace Go.Proofs.YtgcliijngaohdaaDoor
set_option maxRecDepth 10000
open Go.RowKit

def badB (l : Int × List Int) : Bool := decide (l.1 < 2) || decide (38 < l.2.length)
def bytesOne (l : Int × List Int) : List Int := [l.1, 2 + (l.2.length : Int)] ++ l.2
def bytesO (ls : List (Int × List Int)) : List Int := ls.flatMap bytesOne
def padTo4 (b : List Int) : List Int := b ++ List.replicate ((4 - b.length % 4) % 4) 0
/-- What Put tells of options. -/
def PutO (ls : List (Int × List Int)) (w : World) (e : Ending) (w' : World) : Prop :=
  if ls.any badB = true then e = .returned (.tuple #[.slice Option.none 0 0, .int .i64 1]) ∧ Below w.heap.size w w'
  else if 40 < (bytesO ls).length then e = .returned (.tuple #[.slice Option.none 0 0, .int .i64 3]) ∧ Below w.heap.size w w'
  else ∃ A c, e = .returned (.tuple #[.slice A (padTo4 (bytesO ls)).length c, .int .i64 0]) ∧ OwnB w' w.heap.size A (padTo4 (bytesO ls)).length c (padTo4 (bytesO ls)) ∧ Below w.heap.size w w'
theorem bytesO_snoc (ls : List (Int × List Int)) (l : Int × List Int) : bytesO (ls ++ [l]) = bytesO ls ++ bytesOne l := by simp [bytesO]
theorem any_take {ls : List (Int × List Int)} {j : Nat} (h : j < ls.length) (hb : badB (ls.getD j (0, [])) = true) : ls.any badB = true := by
  rw [List.any_eq_true]
  exact ⟨ls.getD j (0, []), by simp [List.getD, List.getElem?_eq_getElem h], hb⟩

end Go.Proofs.YtgcliijngaohdaaDoor
