/-
  The contracts of culvertref06's lay (two or four bytes), num, whole.
-/
import Derived.Test.YthhgdmdobfjipaaPseudo
import Derived.Test.YthhgdmdobfjipaaBut
import Derived.Test.YthhgdmdobfjipaaOptFind
import Derived.IntWalk
namespace Go.Proofs.Ythhgdmdobfjipaa
set_option maxRecDepth 10000
open Go.RowKit

/-- One byte's address in a row of the call's own. -/
theorem own_index {w : World} {B g n c : Nat} {l : List Int} (h : OwnB w B (some ⟨g, 0, none⟩) n c l) (j : Nat) (ji : Int) (hj : j < n) (he : ji = (j : Int)) :
    (∀ W : World, (Instr.indexAt 24 (.slice (some ⟨g, 0, none⟩) n c) (.int .i64 ji)).run Try.prog W = .ok (.pointer (some ⟨g, j, none⟩)) W) ∧ w.cell? ⟨g, j, none⟩ = some (.int .u8 (l.getD j 0)) ∧ w.frozen? ⟨g, j, none⟩ = false := by
  subst he
  have h0 : (0 : Int) ≤ (j : Int) := by omega
  have h1 : (j : Int) < (n : Int) := by omega
  have h' : w.ownsRow B 5 1 (.slice (some ⟨g, 0, none⟩) n c) n (l.map (Value.int .u8)) := h
  exact ⟨fun W => by go_simp, h.cell j hj, World.ownsRow.frozenAt h' j⟩

/-- A number's bytes are laid over a row's, the lowest one first: j of s of them. -/
def setsL (l : List Int) (at_ s : Nat) (n : Int) : Nat → List Int
  | 0 => l
  | j + 1 => (setsL l at_ s n j).set (at_ + (s - 1 - j)) (n / 256 ^ j % 256)
def LaidIs (B g m c : Nat) (l : List Int) (w : World) (e : Ending) (w' : World) : Prop := e = .returned (.tuple #[]) ∧ OwnB w' B (some ⟨g, 0, none⟩) m c l ∧ But (fun k => k = g) w w'
/-- A number of bytes, the highest one first. -/
def numL (l : List Int) : Int := l.foldl (fun a x => 256 * a + x) 0
theorem numL_snoc (l : List Int) (x : Int) : numL (l ++ [x]) = 256 * numL l + x := by simp [numL]
theorem numL_bd : ∀ (l : List Int), (∀ x ∈ l, 0 ≤ x ∧ x < 256) → l.length ≤ 4 → 0 ≤ numL l ∧ numL l < 256 ^ l.length
  | [], _, _ => by simp [numL]
  | [a], h, _ => by have h0 := h a (by simp); simp [numL]; omega
  | [a, b], h, _ => by have h0 := h a (by simp); have h1 := h b (by simp); simp [numL]; omega
  | [a, b, c], h, _ => by have h0 := h a (by simp); have h1 := h b (by simp); have h2 := h c (by simp); simp [numL]; omega
  | [a, b, c, d], h, _ => by have h0 := h a (by simp); have h1 := h b (by simp); have h2 := h c (by simp); have h3 := h d (by simp); simp [numL]; omega
  | _ :: _ :: _ :: _ :: _ :: _, _, h => by simp at h
end Go.Proofs.Ythhgdmdobfjipaa
