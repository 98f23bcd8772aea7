/-
  The contracts of slices.Grow (of nil), slices.Concat, and of package wire's U8, U16, U32: a row of bytes of the call's own.
-/
import Derived.Test.YtgcliijngaohdaaDoorRdL
import Derived.Test.YtgcliijngaohdaaDoorOwnRow
import Derived.Test.YtgcliijngaohdaaDoorBits16
import Derived.Lib.AppendZeros
import Derived.Lib.Hide
import Derived.Deep.LoopGhost
import Derived.LoopTactic
import Derived.Outline
namespace Go.Proofs.YtgcliijngaohdaaDoor
set_option maxRecDepth 10000
open Go.RowKit

theorem flat_len_le (ls : List (List Int)) (k : Nat) : (ls.take k).flatten.length ≤ ls.flatten.length := by
  have h : ls.flatten = (ls.take k).flatten ++ (ls.drop k).flatten := by rw [← List.flatten_append, List.take_append_drop]
  rw [h, List.length_append]; omega

theorem RdL.twoW (w : World) (t : TypeId) (A A' : Option Addr) (n c n' c' : Nat) (l l' : List Int) (hc : n ≤ c ∧ c ≤ maxLen) (hc' : n' ≤ c' ∧ c' ≤ maxLen) (h : Rd w A n l) (h' : Rd w A' n' l') :
    RdL (w.alloc (.cells #[.slice A n c, .slice A' n' c'] t)) (some ⟨w.heap.size, 0, none⟩) 2 [l, l'] := by
  have hb : Below w.heap.size w (w.alloc (.cells #[.slice A n c, .slice A' n' c'] t)) := (Below.refl _ _).alloc (Nat.le_refl _) _
  refine ⟨rfl, fun _ => ⟨w.heap.size, 0, rfl, by simp, fun i hi => ?_⟩⟩
  have e : ∀ j, (w.alloc (.cells #[.slice A n c, .slice A' n' c'] t)).cell? ⟨w.heap.size, j, none⟩ = #[Value.slice A n c, .slice A' n' c'][j]? := fun j => by rw [World.cell?_alloc_mark]
  match i, hi with
  | 0, _ => exact ⟨A, c, by rw [e]; simp [h.len], by simpa [h.len] using hc.1, hc.2, by simpa [h.len] using h.below hb⟩
  | 1, _ => exact ⟨A', c', by rw [e]; simp [h'.len], by simpa [h'.len] using hc'.1, hc'.2, by simpa [h'.len] using h'.below hb⟩

/-- A number's bytes, the highest first. -/
def be16 (x : Int) : List Int := [x / 256, x % 256]
def be32 (x : Int) : List Int := [x / 16777216, x / 65536 % 256, x / 256 % 256, x % 256]
end Go.Proofs.YtgcliijngaohdaaDoor
