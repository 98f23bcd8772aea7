/-
  Slices of bytes and of numbers of 16 bits that come in, opened, with the form's own reach.
-/
import Derived.Test.YtgcliijngaohdaaDoorRd
import Derived.SizedLaws
namespace Go.Proofs.YtgcliijngaohdaaDoor
set_option maxRecDepth 10000
open Go.ChangeShapes Go.WideShapes Go.ChangeAt Go.RowKit

theorem bytesU8 : Tryd.prog.bytesOf 5 = 1 := by kernel_rfl
theorem bytesU16 : Tryd.prog.bytesOf 24 = 2 := by kernel_rfl

/-- The slice value '.slice A n _' of numbers of 16 bits holds l. -/
structure Rd16 (w : World) (A : Option Addr) (n : Nat) (l : List Int) : Prop where
  len : l.length = n
  u16 : ∀ x ∈ l, 0 ≤ x ∧ x ≤ 65535
  at_ : 0 < n → ∃ b o, A = some ⟨b, o, none⟩ ∧ b < w.heap.size ∧ ∀ i, i < n → w.cell? ⟨b, o + i, none⟩ = some (.int .u16 (l.getD i 0))
theorem Rd16.below {w w' : World} {A : Option Addr} {n : Nat} {l : List Int} (h : Rd16 w A n l) (hb : Below w.heap.size w w') : Rd16 w' A n l :=
  ⟨h.len, h.u16, fun hn => by
    obtain ⟨b, o, e, hlt, hc⟩ := h.at_ hn
    exact ⟨b, o, e, Nat.lt_of_lt_of_le hlt hb.size, fun i hi => by rw [hb.cell (p := ⟨b, o + i, none⟩) hlt]; exact hc i hi⟩⟩
theorem getD_u16 {l : List Int} (h : ∀ x ∈ l, 0 ≤ x ∧ x ≤ 65535) (j : Nat) : 0 ≤ l.getD j 0 ∧ l.getD j 0 ≤ 65535 := by
  by_cases hj : j < l.length
  · simp only [List.getD, List.getElem?_eq_getElem hj, Option.getD_some]
    exact h _ (List.getElem_mem hj)
  · simp [List.getD, List.getElem?_eq_none (by omega : l.length ≤ j)]

def BytesAt (w : World) (v : Value) : Prop := ∃ A n c l, v = .slice A n c ∧ n ≤ c ∧ c ≤ 140737488351232 ∧ Rd w A n l
def U16sAt (w : World) (v : Value) : Prop := ∃ A n c l, v = .slice A n c ∧ n ≤ c ∧ c ≤ 140737488351232 ∧ Rd16 w A n l

end Go.Proofs.YtgcliijngaohdaaDoor
