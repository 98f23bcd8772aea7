/-
  A slice of slices of bytes that reads as a list of lists ('RdL'). No function of the program.
-/
import Derived.Test.YtncbkgcblmohoaaRd
import Derived.OneCell
namespace Go.Proofs.Ytncbkgcblmohoaa
set_option maxRecDepth 10000
open Go.RowKit

/-- The slice of slices '.slice A n c' holds the lists ls, in memory that is there. -/
structure RdL (w : World) (A : Option Addr) (n : Nat) (ls : List (List Int)) : Prop where
  len : ls.length = n
  at_ : 0 < n → ∃ b o, A = some ⟨b, o, none⟩ ∧ b < w.heap.size ∧ ∀ i, i < n → ∃ Ai ci, w.cell? ⟨b, o + i, none⟩ = some (.slice Ai (ls.getD i []).length ci) ∧ (ls.getD i []).length ≤ ci ∧ ci ≤ maxLen ∧ Rd w Ai (ls.getD i []).length (ls.getD i [])

theorem RdL.below {w w' : World} {A : Option Addr} {n : Nat} {ls : List (List Int)} (h : RdL w A n ls) (hb : Below w.heap.size w w') : RdL w' A n ls :=
  ⟨h.len, fun hn => by
    obtain ⟨b, o, e, hlt, hc⟩ := h.at_ hn
    refine ⟨b, o, e, Nat.lt_of_lt_of_le hlt hb.size, fun i hi => ?_⟩
    obtain ⟨Ai, ci, h1, h2, h3, h4⟩ := hc i hi
    exact ⟨Ai, ci, by rw [hb.cell (p := ⟨b, o + i, none⟩) hlt]; exact h1, h2, h3, h4.below hb⟩⟩

theorem RdL.take {w : World} {A : Option Addr} {n k : Nat} {ls : List (List Int)} (h : RdL w A n ls) (hk : k ≤ n) : RdL w A k (ls.take k) := by
  refine ⟨by rw [List.length_take, h.len]; omega, fun hn => ?_⟩
  obtain ⟨b, o, e, hlt, hc⟩ := h.at_ (by omega)
  refine ⟨b, o, e, hlt, fun i hi => ?_⟩
  have e2 : (ls.take k).getD i [] = ls.getD i [] := by simp [List.getD, List.getElem?_take_of_lt hi]
  rw [e2]
  exact hc i (by omega)

theorem flat_take (ls : List (List Int)) (k : Nat) (h : k < ls.length) : (ls.take (k + 1)).flatten = (ls.take k).flatten ++ ls.getD k [] := by
  rw [List.take_succ_eq_append_getElem h, List.flatten_append]
  simp [List.getD, List.getElem?_eq_getElem h]
theorem take_one (l : List Int) (j : Nat) (h : j < l.length) : l.take (j + 1) = l.take j ++ [l.getD j 0] := by
  rw [List.take_succ_eq_append_getElem h]
  simp [List.getD, List.getElem?_eq_getElem h]
theorem getD_byte {l : List Int} (h : ∀ x ∈ l, 0 ≤ x ∧ x < 256) (j : Nat) : 0 ≤ l.getD j 0 ∧ l.getD j 0 < 256 := by
  by_cases hj : j < l.length
  · simp only [List.getD, List.getElem?_eq_getElem hj, Option.getD_some]
    exact h _ (List.getElem_mem hj)
  · simp [List.getD, List.getElem?_eq_none (by omega : l.length ≤ j)]

theorem getD_of_lt {α : Type} (l : List α) (i : Nat) (d : α) (h : i < l.length) : l.getD i d = l[i] := by simp [List.getD, List.getElem?_eq_getElem h]
/-- A row of parts that the walk has just laid. -/
theorem RdL.row (w : World) (g : Nat) (hg : w.heap.size = g) (t : TypeId) (fr : Nat × Nat) (vs : List Value) (ls : List (List Int))
    (h : ∀ i, i < ls.length → ∃ Ai ci, vs[i]? = some (.slice Ai (ls.getD i []).length ci) ∧ (ls.getD i []).length ≤ ci ∧ ci ≤ maxLen ∧ Rd w Ai (ls.getD i []).length (ls.getD i [])) :
    RdL (w.alloc (.cells vs.toArray t fr)) (some ⟨g, 0, none⟩) ls.length ls := by
  subst hg
  refine ⟨rfl, fun _ => ⟨w.heap.size, 0, rfl, by simp, fun i hi => ?_⟩⟩
  obtain ⟨Ai, ci, h1, h2, h3, h4⟩ := h i hi
  refine ⟨Ai, ci, ?_, h2, h3, h4.below ((Below.refl _ _).alloc (Nat.le_refl _) _)⟩
  rw [World.cell?_alloc_mark]
  simpa using h1
theorem RdL.one (w : World) (g : Nat) (hg : w.heap.size = g) (t : TypeId) (fr : Nat × Nat) (A : Option Addr) (n c : Nat) (l : List Int) (h : Rd w A n l) (hc : n ≤ c) (hm : c ≤ maxLen) : RdL (w.alloc (.cells #[.slice A n c] t fr)) (some ⟨g, 0, none⟩) 1 [l] := by
  have := h.len
  subst this
  refine RdL.row w g hg t fr [.slice A l.length c] [l] (fun i hi => ?_)
  have : i = 0 := by simp at hi; exact hi
  subst this
  exact ⟨A, c, rfl, hc, hm, h⟩
theorem RdL.two (w : World) (g : Nat) (hg : w.heap.size = g) (t : TypeId) (fr : Nat × Nat) (A A' : Option Addr) (n n' c c' : Nat) (l l' : List Int) (h : Rd w A n l) (hc : n ≤ c) (hm : c ≤ maxLen) (h' : Rd w A' n' l') (hc' : n' ≤ c') (hm' : c' ≤ maxLen) :
    RdL (w.alloc (.cells #[.slice A n c, .slice A' n' c'] t fr)) (some ⟨g, 0, none⟩) 2 [l, l'] := by
  have := h.len
  subst this
  have := h'.len
  subst this
  refine RdL.row w g hg t fr [.slice A l.length c, .slice A' l'.length c'] [l, l'] (fun i hi => ?_)
  simp at hi
  rcases Nat.lt_or_ge i 1 with h0 | h0
  · have : i = 0 := by omega
    subst this
    exact ⟨A, c, rfl, hc, hm, h⟩
  · have : i = 1 := by omega
    subst this
    exact ⟨A', c', rfl, hc', hm', h'⟩


end Go.Proofs.Ytncbkgcblmohoaa
