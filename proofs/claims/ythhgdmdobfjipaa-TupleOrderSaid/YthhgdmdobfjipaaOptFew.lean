/-
  The contract of culvertlaw05's few: the first 20 options, of at most 300 bytes, in a row of the call's own.
-/
import Derived.Test.YthhgdmdobfjipaaOpt
import Derived.Deep.LoopGhost
import Derived.LoopTactic
import Derived.RegionTactic
import Derived.BigRegion
import Derived.ChangeAlike
import Derived.Lib.Hide
namespace Go.Proofs.Ythhgdmdobfjipaa
set_option maxRecDepth 10000
open Go.RowKit

def OptV.cut (o : OptV) (m : Nat) : OptV := ⟨o.kind, o.A, min o.n m, o.c⟩
theorem OptAt.cut {w : World} {o : OptV} {l : Int × List Int} (h : OptAt w o l) (m : Nat) : OptAt w (o.cut m) (l.1, l.2.take m) := by
  obtain ⟨h1, h2, h3, h4, h5⟩ := h
  refine ⟨h1, h2, Nat.le_trans (Nat.min_le_left _ _) h3, h4, ?_⟩
  have := h5.take (k := min o.n m) (Nat.min_le_left _ _)
  have e : l.2.take (min o.n m) = l.2.take m := by rw [← h5.len, Nat.min_comm, ← List.take_take, List.take_length]
  rw [e] at this
  exact this
theorem Reads.cut {w : World} (m : Nat) : ∀ {os : List OptV} {ls : List (Int × List Int)}, Reads w os ls → Reads w (os.map (·.cut m)) (ls.map fun l => (l.1, l.2.take m))
  | [], [], _ => trivial
  | _ :: _, _ :: _, h => ⟨h.1.cut m, Reads.cut m h.2⟩

/-- One option's address in a row of the call's own. -/
theorem OwnO.index {w : World} {B g n c : Nat} {os : List OptV} (h : OwnO w B (some ⟨g, 0, Option.none⟩) n c os) {j : Nat} (hj : j < n) :
    (∀ W : World, (Instr.indexAt 27 (.slice (some ⟨g, 0, Option.none⟩) n c) (.int .i64 (j : Int))).run Try.prog W = .ok (.pointer (some ⟨g, j * 2, Option.none⟩)) W) ∧
      w.cell? ⟨g, j * 2, Option.none⟩ = some (.int .u8 (os.getD j .none).kind) ∧ w.cell? ⟨g, j * 2 + 1, Option.none⟩ = some (.slice (os.getD j .none).A (os.getD j .none).n (os.getD j .none).c) ∧ (∀ k, w.frozen? ⟨g, k, Option.none⟩ = false) := by
  have h0 : (0 : Int) ≤ (j : Int) := by omega
  have h1 : (j : Int) < (n : Int) := by omega
  have hat := optCells_at os j (by have := h.len; omega)
  have h' : w.ownsRow B 90 2 (.slice (some ⟨g, 0, Option.none⟩) n c) n (optCells os) := h
  exact ⟨fun W => by go_simp, by rw [World.ownsRow.cellAt h' _ (by omega)]; exact hat.1, by rw [World.ownsRow.cellAt h' _ (by omega)]; exact hat.2, fun k => World.ownsRow.frozenAt h' k⟩

/-- How far the row has been gone through. -/
def stepL (os : List OptV) (j : Nat) : List OptV := (os.take j).map (·.cut 300) ++ os.drop j
theorem stepL_zero (os : List OptV) : stepL os 0 = os := by simp [stepL]
theorem stepL_all (os : List OptV) : stepL os os.length = os.map (·.cut 300) := by simp [stepL]
theorem stepL_get (os : List OptV) (j : Nat) (h : j < os.length) : (stepL os j).getD j .none = os.getD j .none := by
  simp [stepL, List.getD, List.getElem?_append, Nat.min_eq_left (Nat.le_of_lt h)]
theorem stepL_set (os : List OptV) (j : Nat) (h : j < os.length) : (stepL os j).set j ⟨(os.getD j .none).kind, (os.getD j .none).A, min (os.getD j .none).n 300, (os.getD j .none).c⟩ = stepL os (j + 1) := by
  have e : (os.take (j + 1)) = os.take j ++ [os.getD j .none] := by rw [List.take_succ_eq_append_getElem h]; simp [List.getD, List.getElem?_eq_getElem h]
  have e2 : os.drop j = os.getD j .none :: os.drop (j + 1) := by rw [List.drop_eq_getElem_cons h]; simp [List.getD, List.getElem?_eq_getElem h]
  unfold stepL
  rw [e, e2, List.set_append_right _ _ (by simp; omega)]
  simp [Nat.min_eq_left (Nat.le_of_lt h), OptV.cut]

/-- A row of options of the call's own, told, and what it reads as. -/
def OptsAre (n : Nat) (ls : List (Int × List Int)) (w : World) (e : Ending) (w' : World) : Prop :=
  ∃ A c os, e = .returned (.slice A n c) ∧ OwnO w' w.heap.size A n c os ∧ Reads w' os ls ∧ Below w.heap.size w w'

def fewL (ls : List (Int × List Int)) : List (Int × List Int) := (ls.take 20).map fun l => (l.1, l.2.take 300)

end Go.Proofs.Ythhgdmdobfjipaa
