/-
  The contracts of the document's own answers for options (culvertref05): Same, Without.
-/
import Derived.Test.YtgcliijngaohdaaDoorOptFew
import Derived.Deep.QuietTactic
import Derived.BigQuiet
namespace Go.Proofs.YtgcliijngaohdaaDoor
set_option maxRecDepth 10000
open Go.RowKit

def OptBool (x : Bool) (w : World) (e : Ending) (w' : World) : Prop := e = .returned (.bool x) ∧ Below w.heap.size w w'
theorem below_drewN_ {B : Nat} {a w : World} (h : Below B a w) (n : Nat) : Below B a (w.drewN n) := ⟨h.os, h.tape, h.output, h.size, h.block⟩
theorem Rd.drewN_ {w : World} {A : Option Addr} {n : Nat} {l : List Int} (h : Rd w A n l) (k : Nat) : Rd (w.drewN k) A n l := ⟨h.len, h.byte, h.at_⟩
theorem strs_eq_ (a b : List Int) (ha : ∀ x ∈ a, 0 ≤ x ∧ x < 256) (hb : ∀ x ∈ b, 0 ≤ x ∧ x < 256) : ((strOfNums a).toList == (strOfNums b).toList) = decide (a = b) := by
  rw [ByteArray.toList_eq, ByteArray.toList_eq]
  by_cases e : a = b
  · subst e; simp
  · rw [beq_eq_false_iff_ne.2 (fun x => e (nums_inj _ _ ha hb (by simpa [strOfNums_data] using x)))]
    simp [e]
theorem take_snoc_ {α : Type} (l : List α) (j : Nat) (d : α) (h : j < l.length) : l.take (j + 1) = l.take j ++ [l.getD j d] := by
  rw [List.take_succ_eq_append_getElem h]; simp [List.getD, List.getElem?_eq_getElem h]
theorem getD_ne {α : Type} {l l' : List α} {j : Nat} {d : α} (h : l.getD j d ≠ l'.getD j d) : l ≠ l' := fun e => h (by rw [e])

/-- An option's row that the walk has just laid. -/
theorem RdO.one (w : World) (g : Nat) (hg : w.heap.size = g) (t : TypeId) (fr : Nat × Nat) (kd : Int) (A : Option Addr) (n c : Nat) : RdO (w.alloc (.cells #[.int .u8 kd, .slice A n c] t fr)) (some ⟨g, 0, Option.none⟩) 1 [⟨kd, A, n, c⟩] := by
  subst hg
  refine ⟨rfl, fun _ => ⟨w.heap.size, 0, rfl, by simp, fun i hi => ?_⟩⟩
  obtain rfl : i = 0 := by omega
  simp only [World.cell?_alloc_mark]
  simp
def withoutL (kind : Int) (ls : List (Int × List Int)) : List (Int × List Int) := ls.filter fun l => l.1 != kind
def withoutO (kind : Int) (os : List OptV) : List OptV := os.filter fun o => o.kind != kind
theorem Reads.without {w : World} (kind : Int) : ∀ {os : List OptV} {ls : List (Int × List Int)}, Reads w os ls → Reads w (withoutO kind os) (withoutL kind ls)
  | [], [], _ => trivial
  | o :: os, l :: ls, h => by
    have ih := Reads.without kind h.2
    have e := h.1.1
    unfold withoutO withoutL at ih ⊢
    by_cases hk : o.kind = kind
    · rw [List.filter_cons_of_neg (by simp [hk]), List.filter_cons_of_neg (by rw [← e]; simp [hk])]
      exact ih
    · rw [List.filter_cons_of_pos (by simpa using hk), List.filter_cons_of_pos (by rw [← e]; simpa using hk)]
      exact ⟨h.1, ih⟩

end Go.Proofs.YtgcliijngaohdaaDoor
