/-
  Regions that draw their order, walked once in the order of the text, over a class of worlds of one's own: a load of a cell that every world of the class holds.
-/
import Derived.WalkKit
import Derived.BigRegion
import Derived.Deep.QuietTactic
import Derived.BigQuiet
namespace Go.Proofs.Ytlifldionfoddaa
set_option maxRecDepth 10000
open Go.RowKit

section
variable {P : Program} {C : World → Prop} {a : Act} {o : Oper}

theorem quiet_ld {K : Act → Prop} (t : TypeId) (x : Operand) (p : Addr) (v : Value) (hop : o.op = .load t x) (hx : a.eval x = .pointer (some p))
    (hrun : ∀ w : World, w.cell? p = some v → (Instr.loadAt t (.pointer (some p))).run P w = .ok v w) (hc : ∀ w, C w → w.cell? p = some v) (hk : K (a.put o.dst v)) : o.quiet P a C K :=
  ⟨v, fun w hw => by
    unfold Oper.quietAt
    have : (execOp a.eval o).run P w = .ok (.value v) w := by
      simp [execOp, hop, hx, hrun w (hc w hw)]
    rw [this]
    exact ⟨rfl, rfl⟩, hk⟩

/-- A region of written-out operations, walked once over a class of worlds of one's own. -/
theorem region_class {id : Nat} {Q : Exit → Act → World → Prop} {a : Act} {w : World} {l : List Oper} (hm : P.follows .mixedOrders = true) (hB : Region.lexB .any l.toArray = true) (hC : C { w with drawn := w.drawn + 1 })
    (h : wpQuiet P l.toArray C (fun a' => ∀ w', C w' → Q .normal a' w') l a) : (Code.region id l.toArray true).wp P Q a w :=
  wp_region_quiet (C := C) hm hB hC (by simpa using h)

/-- What does not speak of the world holds for all worlds of a class if it holds: for the walk's simp. -/
theorem class_const (hne : ∃ w, C w) (p : Prop) : (∀ w, C w → p) = p := by
  obtain ⟨w, hw⟩ := hne
  exact propext ⟨fun h => h w hw, fun h _ _ => h⟩

theorem below_drewN {B : Nat} {a w : World} (h : Below B a w) (n : Nat) : Below B a (w.drewN n) := ⟨h.os, h.tape, h.output, h.size, h.block⟩
theorem below_drawn {B : Nat} {a w : World} (h : Below B a w) (n : Nat) : Below B a { w with drawn := n } := ⟨h.os, h.tape, h.output, h.size, h.block⟩
end

end Go.Proofs.Ytlifldionfoddaa
