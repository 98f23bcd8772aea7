/-
  A slice of bytes that the call itself made ('OwnB'): its cells, what leaves it as it is, one byte written; a row told ('RowIs'). No function of the program.
-/
import Derived.Test.YtncbkgcblmohoaaBytesApp
namespace Go.Proofs.Ytncbkgcblmohoaa
set_option maxRecDepth 10000
open Go.RowKit

theorem OwnB.addr {w : World} {B : Nat} {A : Option Addr} {n c : Nat} {l : List Int} (h : OwnB w B A n c l) (hn : 0 < n) : ∃ g, A = some ⟨g, 0, none⟩ ∧ B ≤ g ∧ g < w.heap.size := by
  rcases h.2 with ⟨_, rfl⟩ | ⟨g, cap, cur, e, hB, hg, _⟩
  · omega
  · injection e with e1 _ _
    refine ⟨g, e1, hB, ?_⟩
    rcases Nat.lt_or_ge g w.heap.size with h' | h'
    · exact h'
    · rw [Array.getElem?_eq_none h'] at hg; cases hg
theorem map_set_u8 (l : List Int) (j : Nat) (x : Int) : (l.map (Value.int .u8)).set j (.int .u8 x) = (l.set j x).map (Value.int .u8) := by rw [List.map_set]
theorem OwnB.set_ {w : World} {B g n c : Nat} {l : List Int} (h : OwnB w B (some ⟨g, 0, none⟩) n c l) (j : Nat) (x : Int) : OwnB (w.setCell ⟨g, j, none⟩ (.int .u8 x)) B (some ⟨g, 0, none⟩) n c (l.set j x) := by
  have := (World.ownsRow.stored h j (.int .u8 x)).1
  rw [map_set_u8] at this
  exact this
theorem OwnB.cell {w : World} {B g n c : Nat} {l : List Int} (h : OwnB w B (some ⟨g, 0, none⟩) n c l) (j : Nat) (hj : j < n) : w.cell? ⟨g, j, none⟩ = some (.int .u8 (l.getD j 0)) := by
  have hl := h.len
  rw [World.ownsRow.cellAt h j (by omega), List.getElem?_map, List.getElem?_eq_getElem (by omega)]
  simp [List.getD, List.getElem?_eq_getElem (show j < l.length by omega)]
theorem OwnB.below {w w' : World} {B B' : Nat} {A : Option Addr} {n c : Nat} {l : List Int} (h : OwnB w B A n c l) (hb : Below B' w w') (hg : ∀ g, A = some ⟨g, 0, none⟩ → g < B') : OwnB w' B A n c l := by
  refine ⟨h.1, ?_⟩
  rcases h.2 with h0 | ⟨g, cap, cur, e, hB, hc, hrest⟩
  · exact .inl h0
  · refine .inr ⟨g, cap, cur, e, hB, ?_, hrest⟩
    rw [hb.block g (hg g (by injection e))]
    exact hc

theorem OwnB.capMax {w : World} {B : Nat} {A : Option Addr} {n c : Nat} {l : List Int} (h : OwnB w B A n c l) : c ≤ maxLen := by
  rcases h.2 with ⟨e, _⟩ | ⟨g, cap, cur, e, _, _, _, hcm, _⟩
  · injection e with _ _ e3; subst e3; simp
  · injection e with _ _ e3; subst e3; exact hcm
/-- A row of the call's own, told with its length and its list by name. -/
def RowIs (m : Nat) (l : List Int) (w : World) (e : Ending) (w' : World) : Prop := ∃ A c, e = .returned (.slice A m c) ∧ m ≤ c ∧ c ≤ maxLen ∧ OwnB w' w.heap.size A m c l ∧ Below w.heap.size w w'
theorem OwnB.on {w w' : World} {B : Nat} {A : Option Addr} {n c : Nat} {l : List Int} (h : OwnB w B A n c l) (hb : Below w.heap.size w w') : OwnB w' B A n c l := by
  refine h.below hb (fun g e => ?_)
  rcases h.2 with ⟨e0, _⟩ | ⟨g', cap, cur, e1, _, hg, _⟩
  · injection e0 with e0 _ _; rw [e0] at e; cases e
  · injection e1 with e1 _ _
    rw [e1] at e
    injection e with e
    injection e with e
    subst e
    rcases Nat.lt_or_ge g' w.heap.size with h' | h'
    · exact h'
    · rw [Array.getElem?_eq_none h'] at hg; cases hg
theorem OwnB.drewN {w : World} {B : Nat} {A : Option Addr} {n c : Nat} {l : List Int} (h : OwnB w B A n c l) (k : Nat) : OwnB (w.drewN k) B A n c l := h

/-- What a law's round holds on to: nothing older has turned, and the row of its own is as the list says. -/
structure Hold (w : World) (A : Option Addr) (m c : Nat) (l : List Int) (wr : World) : Prop where
  old : Below w.heap.size w wr
  own : OwnB wr w.heap.size A m c l
theorem Hold.on {w : World} {A : Option Addr} {m c : Nat} {l : List Int} {wr w' : World} (h : Hold w A m c l wr) (hb : Below wr.heap.size wr w') : Hold w A m c l w' := ⟨below_trans h.old hb, h.own.on hb⟩
theorem Hold.drewN {w : World} {A : Option Addr} {m c : Nat} {l : List Int} {wr : World} (h : Hold w A m c l wr) (n : Nat) : Hold w A m c l (wr.drewN n) := ⟨⟨h.old.os, h.old.tape, h.old.output, h.old.size, h.old.block⟩, h.own⟩
theorem Hold.drawn {w : World} {A : Option Addr} {m c : Nat} {l : List Int} {wr : World} (h : Hold w A m c l wr) (n : Nat) : Hold w A m c l { wr with drawn := n } := ⟨⟨h.old.os, h.old.tape, h.old.output, h.old.size, h.old.block⟩, h.own⟩
theorem on_alloc {w w' : World} {o : Obj} (hb : Below (w.alloc o).heap.size (w.alloc o) w') : Below w.heap.size w w' := ((Below.refl _ _).alloc (Nat.le_refl _) _).trans (hb.mono (by simp))
theorem OwnB.mono {w : World} {B B' : Nat} {A : Option Addr} {n c : Nat} {l : List Int} (h : OwnB w B A n c l) (hB : B' ≤ B) : OwnB w B' A n c l := by
  refine ⟨h.1, ?_⟩
  rcases h.2 with h0 | ⟨g, cap, cur, e, hg, r⟩
  · exact .inl h0
  · exact .inr ⟨g, cap, cur, e, Nat.le_trans hB hg, r⟩

end Go.Proofs.Ytncbkgcblmohoaa
