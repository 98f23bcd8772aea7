/-
  The contract of culvertlaw05's few: the first 20 options, of at most 300 bytes, in a row of the call's own.
-/
import Derived.Test.YtgcliijngaohdaaDoorOpt
import Derived.Deep.LoopGhost
import Derived.LoopTactic
import Derived.RegionTactic
import Derived.BigRegion
import Derived.ChangeAlike
import Derived.Lib.Hide
namespace Go.Proofs.YtgcliijngaohdaaDoor
set_option maxRecDepth 10000
open Go.RowKit

def OptV.cut (o : OptV) (m : Nat) : OptV := ⟨o.kind, o.A, min o.n m, o.c⟩
theorem OptAt.cut {w : World} {o : OptV} {l : Int × List Int} (h : OptAt w o l) (m : Nat) : OptAt w (o.cut m) (l.1, l.2.take m) := by
  obtain ⟨h1, h2, h3, h4, h5⟩ := h
  refine ⟨h1, h2, Nat.le_trans (Nat.min_le_left _ _) h3, h4, ?_⟩
  have := h5.take (k := min o.n m) (Nat.min_le_left _ _)
  have e : l.2.take (min o.n m) = l.2.take m := by rw [← h5.len, Nat.min_comm, ← List.take_take, List.take_length]
  rw [e] at this
  exact this
theorem Reads.cut {w : World} (m : Nat) : ∀ {os : List OptV} {ls : List (Int × List Int)}, Reads w os ls → Reads w (os.map (·.cut m)) (ls.map fun l => (l.1, l.2.take m))
  | [], [], _ => trivial
  | _ :: _, _ :: _, h => ⟨h.1.cut m, Reads.cut m h.2⟩

/-- How far the row has been gone through. -/
def stepL (os : List OptV) (j : Nat) : List OptV := (os.take j).map (·.cut 300) ++ os.drop j
theorem stepL_zero (os : List OptV) : stepL os 0 = os := by simp [stepL]
theorem stepL_all (os : List OptV) : stepL os os.length = os.map (·.cut 300) := by simp [stepL]
theorem stepL_get (os : List OptV) (j : Nat) (h : j < os.length) : (stepL os j).getD j .none = os.getD j .none := by
  simp [stepL, List.getD, List.getElem?_append, Nat.min_eq_left (Nat.le_of_lt h)]
theorem stepL_set (os : List OptV) (j : Nat) (h : j < os.length) : (stepL os j).set j ⟨(os.getD j .none).kind, (os.getD j .none).A, min (os.getD j .none).n 300, (os.getD j .none).c⟩ = stepL os (j + 1) := by
  have e : (os.take (j + 1)) = os.take j ++ [os.getD j .none] := by rw [List.take_succ_eq_append_getElem h]; simp [List.getD, List.getElem?_eq_getElem h]
  have e2 : os.drop j = os.getD j .none :: os.drop (j + 1) := by rw [List.drop_eq_getElem_cons h]; simp [List.getD, List.getElem?_eq_getElem h]
  unfold stepL
  rw [e, e2, List.set_append_right _ _ (by simp; omega)]
  simp [Nat.min_eq_left (Nat.le_of_lt h), OptV.cut]

def fewL (ls : List (Int × List Int)) : List (Int × List Int) := (ls.take 20).map fun l => (l.1, l.2.take 300)

end Go.Proofs.YtgcliijngaohdaaDoor
