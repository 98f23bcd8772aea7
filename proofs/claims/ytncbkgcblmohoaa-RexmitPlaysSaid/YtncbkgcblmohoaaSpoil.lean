/-
  Rows of bytes of the call's own that a law turns, whatever they hold: what is left of them under a store of a byte, anywhere. No function of the program.
-/
import Derived.Test.YtncbkgcblmohoaaOwnRow
import Derived.Test.YtncbkgcblmohoaaBut
namespace Go.Proofs.Ytncbkgcblmohoaa
set_option maxRecDepth 10000
open Go.RowKit

/-- The first m cells of the row at A, of a block from B on, are bytes. -/
def ByRow (w : World) (B : Nat) (A : Option Addr) (m : Nat) : Prop :=
  m = 0 ∨ ∃ g, A = some ⟨g, 0, none⟩ ∧ B ≤ g ∧ ∃ C : Array Value, w.heap[g]? = some (.cells C 5 (0, 0)) ∧ ∀ i, i < m → ∃ x : Int, C[i]? = some (.int .u8 x)
theorem ByRow.of {w : World} {B : Nat} {A : Option Addr} {n c : Nat} {l : List Int} (h : OwnB w B A n c l) : ByRow w B A n := by
  rcases h.2 with ⟨e, h2⟩ | ⟨g, cap, cur, e, hB, hg, h4⟩
  · injection e with e1 e2 e3
    exact .inl e2
  · injection e with e1 e2 e3
    refine .inr ⟨g, e1, hB, _, hg, fun i hi => ?_⟩
    subst e1
    have := h.cell i hi
    simp [World.cell?, hg] at this
    exact ⟨_, this⟩
theorem ByRow.mono {w : World} {B B' : Nat} {A : Option Addr} {m : Nat} (h : ByRow w B A m) (hB : B' ≤ B) : ByRow w B' A m := by
  rcases h with h | ⟨g, e, hg, C, hC, hx⟩
  · exact .inl h
  · exact .inr ⟨g, e, by omega, C, hC, hx⟩
theorem ByRow.below {w w' : World} {B : Nat} {A : Option Addr} {m : Nat} (h : ByRow w B A m) (hb : Below w.heap.size w w') : ByRow w' B A m := by
  rcases h with h | ⟨g, e, hg, C, hC, hx⟩
  · exact .inl h
  · exact .inr ⟨g, e, hg, C, blk_on hC hb, hx⟩
theorem ByRow.set_ {w : World} {B : Nat} {A : Option Addr} {m : Nat} (h : ByRow w B A m) (p j : Nat) (y : Int) : ByRow (w.setCell ⟨p, j, none⟩ (.int .u8 y)) B A m := by
  rcases h with h | ⟨g, e, hg, C, hC, hx⟩
  · exact .inl h
  · by_cases hp : g = p
    · subst hp
      refine .inr ⟨g, e, hg, C.setIfInBounds j (.int .u8 y), ?_, fun i hi => ?_⟩
      · simp [World.setCell, Array.getElem?_modify, hC]
      · obtain ⟨x, hx⟩ := hx i hi
        by_cases hj : j = i
        · subst hj
          have : j < C.size := by
            rcases Nat.lt_or_ge j C.size with h1 | h1
            · exact h1
            · rw [Array.getElem?_eq_none h1] at hx; cases hx
          exact ⟨y, by rw [Array.getElem?_setIfInBounds_self_of_lt this]⟩
        · exact ⟨x, by rw [Array.getElem?_setIfInBounds_ne (by omega)]; exact hx⟩
    · exact .inr ⟨g, e, hg, C, by simp [World.setCell, Array.getElem?_modify, hC]; intro h0; exact absurd h0.symm hp, hx⟩
theorem ByRow.index {w : World} {B : Nat} {A : Option Addr} {m : Nat} (h : ByRow w B A m) (c j : Nat) (hj : j < m) :
    ∃ (g : Nat) (x : Int), A = some ⟨g, 0, none⟩ ∧ B ≤ g ∧ (∀ W : World, (Instr.indexAt 37 (.slice A m c) (.int .i64 (j : Int))).run Try.prog W = .ok (.pointer (some ⟨g, j, none⟩)) W) ∧ w.cell? ⟨g, j, none⟩ = some (.int .u8 x) ∧ w.frozen? ⟨g, j, none⟩ = false := by
  rcases h with h | ⟨g, e, hg, C, hC, hx⟩
  · omega
  · obtain ⟨x, hx⟩ := hx j hj
    subst e
    have h0 : (0 : Int) ≤ (j : Int) := by omega
    have h1 : (j : Int) < (m : Int) := by omega
    exact ⟨g, x, rfl, hg, fun W => by go_simp, by rw [blk_cell hC]; exact hx, blk_free hC j⟩
end Go.Proofs.Ytncbkgcblmohoaa
