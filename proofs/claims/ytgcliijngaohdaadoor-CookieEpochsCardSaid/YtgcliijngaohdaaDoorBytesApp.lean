/-
  append of bytes that read as a list ('Rd') onto a slice of bytes that the call itself made ('OwnB'): the source nil, empty or not.
-/
import Derived.Test.YtgcliijngaohdaaDoorRd
import Derived.Maps.AppendAt
import Derived.Laws.OwnMore
import Derived.BigFrame
namespace Go.Proofs.YtgcliijngaohdaaDoor
set_option maxRecDepth 10000
open Go.RowKit

theorem info5 : (Tryd.prog.info? 5).map (fun i => (i.zero, i.size, i.bytes)) = some (some (.int .u8 0), 1, 1) := by kernel_rfl
theorem cell_add {w : World} {b o : Nat} {k : Nat} {v : Value} (h : w.cell? ⟨b, o + k, none⟩ = some v) : w.cell? ((⟨b, o, none⟩ : Addr).add k) = some v := by
  rw [Go.WideShapes.add_plain]; exact h

/-- '.slice A n c' is a slice of bytes that the call made, from block B on: it holds l. -/
def OwnB (w : World) (B : Nat) (A : Option Addr) (n c : Nat) (l : List Int) : Prop := w.ownsRow B 5 1 (.slice A n c) n (l.map (Value.int .u8))

theorem OwnB.len {w : World} {B : Nat} {A : Option Addr} {n c : Nat} {l : List Int} (h : OwnB w B A n c l) : l.length = n := by
  have := h.1
  simpa using this
theorem OwnB.cap {w : World} {B : Nat} {A : Option Addr} {n c : Nat} {l : List Int} (h : OwnB w B A n c l) : n ≤ c := by
  rcases h.2 with ⟨e, rfl⟩ | ⟨g, cap, cur, e, _, _, hnc, _⟩
  · exact Nat.zero_le _
  · injection e with _ _ e3
    omega
theorem OwnB.rd {w : World} {B : Nat} {A : Option Addr} {n c : Nat} {l : List Int} (h : OwnB w B A n c l) (hl : ∀ x ∈ l, 0 ≤ x ∧ x < 256) : Rd w A n l := by
  refine ⟨h.len, hl, fun hn => ?_⟩
  rcases h.2 with ⟨e, h0⟩ | ⟨g, cap, cur, e, _, hg, _, _, hcs, ht⟩
  · omega
  · injection e with e1 e2 e3
    subst e1
    refine ⟨g, 0, rfl, ?_, fun i hi => ?_⟩
    · rcases Nat.lt_or_ge g w.heap.size with h' | h'
      · exact h'
      · rw [Array.getElem?_eq_none h'] at hg; cases hg
    · have hlen := h.len
      have h1 : cur[i]? = (cur.toList.take (n * 1))[i]? := by
        rw [List.getElem?_take_of_lt (by omega), Array.getElem?_toList]
      rw [ht] at h1
      simp [World.cell?, hg, h1, List.getD, List.getElem?_eq_getElem (show i < l.length by omega)]
theorem OwnB.nil (w : World) (B : Nat) : OwnB w B none 0 0 [] := World.ownsRow_nil w B 5 1
/-- An empty literal, or 'make' with a capacity: nothing in it yet. -/
theorem OwnB.made {w : World} {B g cap : Nat} {cur : Array Value} (hg : w.heap[g]? = some (.cells cur 5 (0, 0))) (hB : B ≤ g) (hm : cap ≤ maxLen) (hc : cur.size = cap) : OwnB w B (some ⟨g, 0, none⟩) 0 cap [] :=
  ⟨rfl, .inr ⟨g, cap, cur, rfl, hB, hg, Nat.zero_le _, hm, by omega, by simp⟩⟩

theorem OwnB.alloc {w : World} {B : Nat} {A : Option Addr} {n c : Nat} {l : List Int} (h : OwnB w B A n c l) (o : Obj) : OwnB (w.alloc o) B A n c l := World.ownsRow.alloc h o
/-- A one-byte slice that the walk has just laid. -/
theorem Rd.one (w : World) (x : Int) (hx : 0 ≤ x ∧ x < 256) : Rd (w.alloc (.cells #[.int .u8 x] 5)) (some ⟨w.heap.size, 0, none⟩) 1 [x] := by
  have := Rd.row (w := w.alloc (.cells #[.int .u8 x] 5)) (g := w.heap.size) (l := [x]) (t := 5) (heap_alloc_new w _) (by simpa using hx)
  exact this

theorem OwnB.form {w : World} {B : Nat} {v : Value} {n : Nat} {l : List Int} (h : w.ownsRow B 5 1 v n (l.map (Value.int .u8))) : ∃ A c, v = .slice A n c ∧ OwnB w B A n c l := by
  rcases id h.2 with ⟨rfl, rfl⟩ | ⟨g, cap, cur, rfl, _⟩
  · exact ⟨none, 0, rfl, h⟩
  · exact ⟨_, _, rfl, h⟩

theorem one_bytes (l : List Int) : ∀ u ∈ l.map (Value.int .u8), u.oneCell' = true := by
  intro u hu
  obtain ⟨x, _, rfl⟩ := List.mem_map.1 hu
  rfl

end Go.Proofs.YtgcliijngaohdaaDoor
