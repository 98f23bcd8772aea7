/-
  The document's own answers for messages (culvertref08): Put, Exceeded.
-/
import Derived.Test.YthhgdmdobfjipaaIcmpRef
import Derived.Test.YthhgdmdobfjipaaOwnRow
namespace Go.Proofs.Ythhgdmdobfjipaa
set_option maxRecDepth 10000
open Go.RowKit

/-- A literal's row. -/
theorem own_lit (w : World) (B : Nat) (C : Array Value) (l : List Int) (n : Nat) (hB : B ≤ w.heap.size) (hC : C.toList = l.map (Value.int .u8)) (hn : l.length = n) (hm : n ≤ 1000) : OwnB (w.alloc (.cells C 5)) B (some ⟨w.heap.size, 0, none⟩) n n l := by
  subst hn
  have hs : C.size = l.length := by rw [← Array.length_toList, hC, List.length_map]
  refine ⟨by simp, .inr ⟨w.heap.size, l.length, _, rfl, hB, heap_alloc_new w _, Nat.le_refl _, by unfold maxLen; omega, by omega, ?_⟩⟩
  rw [hC]
  exact (List.take_of_length_le (by simp))
/-- One byte's address in a row of the call's own. -/
theorem ownM_ix {w : World} {B g n c : Nat} {l : List Int} (h : OwnB w B (some ⟨g, 0, none⟩) n c l) (j : Nat) (ji : Int) (hj : j < n) (he : ji = (j : Int)) :
    (∀ W : World, (Instr.indexAt 24 (.slice (some ⟨g, 0, none⟩) n c) (.int .i64 ji)).run Try.prog W = .ok (.pointer (some ⟨g, j, none⟩)) W) ∧ w.cell? ⟨g, j, none⟩ = some (.int .u8 (l.getD j 0)) ∧ w.frozen? ⟨g, j, none⟩ = false := by
  subst he
  have h0 : (0 : Int) ≤ (j : Int) := by omega
  have h1 : (j : Int) < (n : Int) := by omega
  exact ⟨fun W => by go_simp, h.cell j hj, World.ownsRow.frozenAt h j⟩
/-- Put tells the row L and x. -/
def PutM (L : List Int) (m : Nat) (x : Int) (w : World) (e : Ending) (w' : World) : Prop := ∃ A c, e = .returned (.tuple #[.slice A m c, .int .i64 x]) ∧ m ≤ c ∧ c ≤ maxLen ∧ OwnB w' w.heap.size A m c L ∧ Below w.heap.size w w'
def errP (s : Msg) : Int := if 1472 < s.d.length then 3 else 0
def toldM (s : Msg) : List Int := if 1472 < s.d.length then [] else msgB s
end Go.Proofs.Ythhgdmdobfjipaa
