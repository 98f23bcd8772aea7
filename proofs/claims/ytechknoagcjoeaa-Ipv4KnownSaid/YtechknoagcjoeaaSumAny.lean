/-
  The contracts of package sum's Sum, Field and Right, and of the document's own Sum and Field (culvertref02), over bytes that read as lists.
-/
import Derived.Test.YtechknoagcjoeaaSumSum
namespace Go.Proofs.Ytechknoagcjoeaa
open Go.RowKit

/-- A number told, and nothing older has turned. -/
def SumIs (x : Int) (w : World) (e : Ending) (w' : World) : Prop := e = .returned (.int .u16 x) ∧ Below w.heap.size w w'
def BoolIs (x : Bool) (w : World) (e : Ending) (w' : World) : Prop := e = .returned (.bool x) ∧ Below w.heap.size w w'

theorem sum_any (A : Option Addr) (n c : Nat) (ls : List (List Int)) (w : World) (hn : n ≤ 9223372036854775807) (h : RdL w A n ls) :
    Calls Try.prog 28 #[.slice A n c] w (SumIs (sumL ls.flatten) w) := by
  have hmf : ∀ (fn : Fn) (first cap : Array Value) (w : World), (Instr.makeFunc fn first cap).run Try.prog w = .ok (.func fn first cap) w := fun _ _ _ _ => rfl
  have h0 : Acc w 0 (w.alloc (.cells #[.int .u16 0] 22)) := ⟨heap_alloc_new w _, (Below.refl _ _).alloc (Nat.le_refl _) _⟩
  go_enter Try.func28, Try.ntmps28
  go_wp2_with fail
  refine (each_any A n c ls w _ hn h0 h).mono ?_
  rintro e w1 ⟨rfl, hacc⟩
  have hcb := cell_of_one hacc.blk
  go_wp2_with fail
  go_ret
  exact ⟨rfl, hacc.below⟩

theorem field_any (A : Option Addr) (n c : Nat) (ls : List (List Int)) (w : World) (hn : n ≤ 9223372036854775807) (h : RdL w A n ls) :
    Calls Try.prog 13 #[.slice A n c] w (SumIs (65535 - sumL ls.flatten) w) := by
  have hx := not16 _ (sumL_bd ls.flatten)
  have Hx := Lib.hid hx
  clear hx
  go_enter Try.func13, Try.ntmps13
  go_wp2_with fail
  refine (sum_any A n c ls _ hn h).mono ?_
  rintro e w1 ⟨rfl, hb⟩
  go_wp2_with fail
  go_ret
  exact ⟨ret_int Hx.out, hb⟩

theorem right_any (A : Option Addr) (n c : Nat) (ls : List (List Int)) (w : World) (hn : n ≤ 9223372036854775807) (h : RdL w A n ls) :
    Calls Try.prog 16 #[.slice A n c] w (BoolIs (sumL ls.flatten == 65535) w) := by
  go_enter Try.func16, Try.ntmps16
  go_wp2_with fail
  refine (sum_any A n c ls _ hn h).mono ?_
  rintro e w1 ⟨rfl, hb⟩
  go_wp2_with fail
  go_ret
  exact ⟨rfl, hb⟩

theorem sum_told (A : Option Addr) (n c : Nat) (ls : List (List Int)) (w : World) (x : Int) (hn : n ≤ 9223372036854775807) (h : RdL w A n ls) (hx : sumL ls.flatten = x) :
    Calls Try.prog 28 #[.slice A n c] w (SumIs x w) := by subst hx; exact sum_any A n c ls w hn h
theorem field_told (A : Option Addr) (n c : Nat) (ls : List (List Int)) (w : World) (x : Int) (hn : n ≤ 9223372036854775807) (h : RdL w A n ls) (hx : 65535 - sumL ls.flatten = x) :
    Calls Try.prog 13 #[.slice A n c] w (SumIs x w) := by subst hx; exact field_any A n c ls w hn h
theorem right_told (A : Option Addr) (n c : Nat) (ls : List (List Int)) (w : World) (x : Bool) (hn : n ≤ 9223372036854775807) (h : RdL w A n ls) (hx : (sumL ls.flatten == 65535) = x) :
    Calls Try.prog 16 #[.slice A n c] w (BoolIs x w) := by subst hx; exact right_any A n c ls w hn h


end Go.Proofs.Ytechknoagcjoeaa
