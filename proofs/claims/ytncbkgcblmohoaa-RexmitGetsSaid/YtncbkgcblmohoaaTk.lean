/-
  The moves of a walk through a region that draws its order, in a short form: the operation is picked out of the region by its number. No function of the program.
-/
import Derived.Test.YtncbkgcblmohoaaRows
import Derived.OrdersHeld
import Derived.Deep.RegionHeld
import Derived.KernelRfl
namespace Go.Proofs.Ytncbkgcblmohoaa
set_option maxRecDepth 10000
/-- Number i of a list, told as the list's own member (no index is left standing). -/
def pickOp : List Oper → Nat → Option Oper
  | [], _ => none
  | o :: _, 0 => some o
  | _ :: os, i + 1 => pickOp os i
theorem pickOp_get : ∀ (os : List Oper) (i : Nat), pickOp os i = os[i]?
  | [], _ => by simp [pickOp]
  | o :: os, 0 => rfl
  | o :: os, i + 1 => by simp only [pickOp, List.getElem?_cons_succ]; exact pickOp_get os i
theorem pickOp_at {ops : Array Oper} {i : Nat} {o : Oper} (h : pickOp ops.toList i = some o) : ops[i]? = some o := by
  rw [pickOp_get, Array.getElem?_toList] at h
  exact h
theorem putL {α : Type} : (∀ (l : List α) (a : α) (i : Nat), l.toArray.setIfInBounds i a = (l.set i a).toArray) ∧ (∀ (l : List α) (x a : α), (x :: l).set 0 a = a :: l) ∧ ∀ (l : List α) (x a : α) (n : Nat), (x :: l).set (n + 1) a = x :: l.set n a :=
  ⟨fun _ _ _ => by simp, fun _ _ _ => rfl, fun _ _ _ _ => rfl⟩
section
variable {P : Program} {ops : Array Oper} {Q : Exit → Act → World → Prop} {md : Region.Mode} {S : World → Prop} {oi : Oper} {fuel : Nat} {listed : Array Bool} {a : Act} {w : World}
/-- A pure operation. -/
theorem tk (i : Nat) (v : Value) (hi : pickOp ops.toList i = some oi) (hy : ∀ w', S w' → (execOp a.eval oi).run P w' = .ok (.value v) w')
    (h : wpAnyH P md ops Q S fuel (listed.setIfInBounds i true) (a.put oi.dst v) w) (hg : Region.wanted oi (yielded ops a.tmps) = true := by kernel_rfl) (hs : Region.noSelect ops = true := by kernel_rfl) (hf : Region.free md ops listed i = true := by kernel_rfl) (hr : (Region.ready md ops listed).contains i = true := by kernel_rfl)
    (hQ : ∀ c a w, Q (.panic c) (a.put oi.dst v) w → Q (.panic c) a w := by exact fun _ _ _ h => h) (hS : S w := by assumption) : wpAnyH P md ops Q S (fuel + 1) listed a w :=
  wpAnyH_take (pickOp_at hi) hs hf hr hQ (.inl ⟨hg, hy⟩) hS h
/-- One whose guard is down. -/
theorem tkN (i : Nat) (hi : pickOp ops.toList i = some oi)
    (h : wpAnyH P md ops Q S fuel (listed.setIfInBounds i true) (a.put oi.dst undef) w) (hg : Region.wanted oi (yielded ops a.tmps) = false := by kernel_rfl) (hs : Region.noSelect ops = true := by kernel_rfl) (hf : Region.free md ops listed i = true := by kernel_rfl) (hr : (Region.ready md ops listed).contains i = true := by kernel_rfl)
    (hQ : ∀ c a w, Q (.panic c) (a.put oi.dst undef) w → Q (.panic c) a w := by exact fun _ _ _ h => h) (hS : S w := by assumption) : wpAnyH P md ops Q S (fuel + 1) listed a w :=
  wpAnyH_take (pickOp_at hi) hs hf hr hQ (.inr ⟨hg, rfl⟩) hS h
/-- The one that may come up alone. -/
theorem tkC (i : Nat) (hi : pickOp ops.toList i = some oi)
    (h : ∀ K' : Act → World → Prop, Shut (∀ a w, S w → (S w → wpAnyH P md ops Q S fuel (listed.setIfInBounds i true) a w) → K' a w) → if Region.wanted oi (yielded ops a.tmps) = true then Oper.wp P oi a w K' Q else K' (a.put oi.dst undef) w)
    (hr : Region.ready md ops listed = [i] := by kernel_rfl) : wpAnyH P md ops Q S (fuel + 1) listed a w :=
  wpAnyH_ready hr (by simp) (AllReadyH.cons (pickOp_at hi) h AllReadyH.nil)
end
end Go.Proofs.Ytncbkgcblmohoaa
