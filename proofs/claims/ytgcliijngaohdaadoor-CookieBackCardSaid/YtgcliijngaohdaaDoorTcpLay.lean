/-
  The contracts of culvertref06's lay (two or four bytes), num, whole.
-/
import Derived.Test.YtgcliijngaohdaaDoorPseudo
import Derived.Test.YtgcliijngaohdaaDoorBut
import Derived.Test.YtgcliijngaohdaaDoorOptFind
import Derived.IntWalk
namespace Go.Proofs.YtgcliijngaohdaaDoor
set_option maxRecDepth 10000
open Go.RowKit

/-- A number's bytes are laid over a row's, the lowest one first: j of s of them. -/
def setsL (l : List Int) (at_ s : Nat) (n : Int) : Nat → List Int
  | 0 => l
  | j + 1 => (setsL l at_ s n j).set (at_ + (s - 1 - j)) (n / 256 ^ j % 256)
def LaidIs (B g m c : Nat) (l : List Int) (w : World) (e : Ending) (w' : World) : Prop := e = .returned (.tuple #[]) ∧ OwnB w' B (some ⟨g, 0, none⟩) m c l ∧ But (fun k => k = g) w w'
/-- A number of bytes, the highest one first. -/
def numL (l : List Int) : Int := l.foldl (fun a x => 256 * a + x) 0
theorem numL_snoc (l : List Int) (x : Int) : numL (l ++ [x]) = 256 * numL l + x := by simp [numL]
theorem numL_bd : ∀ (l : List Int), (∀ x ∈ l, 0 ≤ x ∧ x < 256) → l.length ≤ 4 → 0 ≤ numL l ∧ numL l < 256 ^ l.length
  | [], _, _ => by simp [numL]
  | [a], h, _ => by have h0 := h a (by simp); simp [numL]; omega
  | [a, b], h, _ => by have h0 := h a (by simp); have h1 := h b (by simp); simp [numL]; omega
  | [a, b, c], h, _ => by have h0 := h a (by simp); have h1 := h b (by simp); have h2 := h c (by simp); simp [numL]; omega
  | [a, b, c, d], h, _ => by have h0 := h a (by simp); have h1 := h b (by simp); have h2 := h c (by simp); have h3 := h d (by simp); simp [numL]; omega
  | _ :: _ :: _ :: _ :: _ :: _, _, h => by simp at h
end Go.Proofs.YtgcliijngaohdaaDoor
