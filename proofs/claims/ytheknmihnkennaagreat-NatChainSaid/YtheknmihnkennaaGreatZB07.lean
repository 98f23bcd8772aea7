/-
  Texts laid together: OptFew, OptRef, OptFind, TcpLay.
-/
import Derived.Test.YtheknmihnkennaaGreatZB06
import Derived.Deep.LoopGhost
import Derived.LoopTactic
import Derived.RegionTactic
import Derived.BigRegion
import Derived.ChangeAlike
import Derived.Lib.Hide
import Derived.Deep.QuietTactic
import Derived.BigQuiet
import Derived.Test.YtheknmihnkennaaGreatZB02
import Derived.Test.YtheknmihnkennaaGreatZB04
import Derived.Test.YtheknmihnkennaaGreatZB05
import Derived.IntWalk

/-
  The contract of culvertlaw05's few: the first 20 options, of at most 300 bytes, in a row of the call's own.
-/
namespace Go.Proofs.YtheknmihnkennaaGreat
set_option maxRecDepth 10000
open Go.RowKit

/-- One option's address in a row of the call's own. -/
theorem OwnO.index {w : World} {B g n c : Nat} {os : List OptV} (h : OwnO w B (some ⟨g, 0, Option.none⟩) n c os) {j : Nat} (hj : j < n) :
    (∀ W : World, (Instr.indexAt 27 (.slice (some ⟨g, 0, Option.none⟩) n c) (.int .i64 (j : Int))).run Tryz.prog W = .ok (.pointer (some ⟨g, j * 2, Option.none⟩)) W) ∧
      w.cell? ⟨g, j * 2, Option.none⟩ = some (.int .u8 (os.getD j .none).kind) ∧ w.cell? ⟨g, j * 2 + 1, Option.none⟩ = some (.slice (os.getD j .none).A (os.getD j .none).n (os.getD j .none).c) ∧ (∀ k, w.frozen? ⟨g, k, Option.none⟩ = false) := by
  have h0 : (0 : Int) ≤ (j : Int) := by omega
  have h1 : (j : Int) < (n : Int) := by omega
  have hat := optCells_at os j (by have := h.len; omega)
  have h' : w.ownsRow B 142 2 (.slice (some ⟨g, 0, Option.none⟩) n c) n (optCells os) := h
  exact ⟨fun W => by go_simp, by rw [World.ownsRow.cellAt h' _ (by omega)]; exact hat.1, by rw [World.ownsRow.cellAt h' _ (by omega)]; exact hat.2, fun k => World.ownsRow.frozenAt h' k⟩

end Go.Proofs.YtheknmihnkennaaGreat

/-
  The contracts of the document's own answers for options (culvertref05): Same, Without.
-/
namespace Go.Proofs.YtheknmihnkennaaGreat
set_option maxRecDepth 10000
open Go.RowKit

def OptBool (x : Bool) (w : World) (e : Ending) (w' : World) : Prop := e = .returned (.bool x) ∧ Below w.heap.size w w'
theorem strs_eq_ (a b : List Int) (ha : ∀ x ∈ a, 0 ≤ x ∧ x < 256) (hb : ∀ x ∈ b, 0 ≤ x ∧ x < 256) : ((strOfNums a).toList == (strOfNums b).toList) = decide (a = b) := by
  rw [ByteArray.toList_eq, ByteArray.toList_eq]
  by_cases e : a = b
  · subst e; simp
  · rw [beq_eq_false_iff_ne.2 (fun x => e (nums_inj _ _ ha hb (by simpa [strOfNums_data] using x)))]
    simp [e]
theorem take_snoc_ {α : Type} (l : List α) (j : Nat) (d : α) (h : j < l.length) : l.take (j + 1) = l.take j ++ [l.getD j d] := by
  rw [List.take_succ_eq_append_getElem h]; simp [List.getD, List.getElem?_eq_getElem h]
theorem getD_ne {α : Type} {l l' : List α} {j : Nat} {d : α} (h : l.getD j d ≠ l'.getD j d) : l ≠ l' := fun e => h (by rw [e])

/-- An option's row that the walk has just laid. -/
theorem RdO.one (w : World) (g : Nat) (hg : w.heap.size = g) (t : TypeId) (fr : Nat × Nat) (kd : Int) (A : Option Addr) (n c : Nat) : RdO (w.alloc (.cells #[.int .u8 kd, .slice A n c] t fr)) (some ⟨g, 0, Option.none⟩) 1 [⟨kd, A, n, c⟩] := by
  subst hg
  refine ⟨rfl, fun _ => ⟨w.heap.size, 0, rfl, by simp, fun i hi => ?_⟩⟩
  obtain rfl : i = 0 := by omega
  simp only [World.cell?_alloc_mark]
  simp
end Go.Proofs.YtheknmihnkennaaGreat

/-
  The contracts of what the document itself finds among options (culvertref05's Mss, Scale, SackOk).
-/
namespace Go.Proofs.YtheknmihnkennaaGreat
set_option maxRecDepth 10000
open Go.RowKit

end Go.Proofs.YtheknmihnkennaaGreat

/-
  The contracts of culvertref06's lay (two or four bytes), num, whole.
-/
namespace Go.Proofs.YtheknmihnkennaaGreat
set_option maxRecDepth 10000
open Go.RowKit

/-- A number of bytes, the highest one first. -/
def numL (l : List Int) : Int := l.foldl (fun a x => 256 * a + x) 0
theorem numL_bd : ∀ (l : List Int), (∀ x ∈ l, 0 ≤ x ∧ x < 256) → l.length ≤ 4 → 0 ≤ numL l ∧ numL l < 256 ^ l.length
  | [], _, _ => by simp [numL]
  | [a], h, _ => by have h0 := h a (by simp); simp [numL]; omega
  | [a, b], h, _ => by have h0 := h a (by simp); have h1 := h b (by simp); simp [numL]; omega
  | [a, b, c], h, _ => by have h0 := h a (by simp); have h1 := h b (by simp); have h2 := h c (by simp); simp [numL]; omega
  | [a, b, c, d], h, _ => by have h0 := h a (by simp); have h1 := h b (by simp); have h2 := h c (by simp); have h3 := h d (by simp); simp [numL]; omega
  | _ :: _ :: _ :: _ :: _ :: _, _, h => by simp at h
end Go.Proofs.YtheknmihnkennaaGreat
