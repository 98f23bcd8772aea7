/-
  The contract of bytes.Equal (for the stages that do not need the options'): over bytes that read as lists.
-/
import Derived.Test.YtncbkgcblmohoaaRd
import Derived.Lib.Hide
import Derived.Outline
namespace Go.Proofs.Ytncbkgcblmohoaa
set_option maxRecDepth 10000
open Go.RowKit

theorem strs_eqB (a b : List Int) (ha : ∀ x ∈ a, 0 ≤ x ∧ x < 256) (hb : ∀ x ∈ b, 0 ≤ x ∧ x < 256) : ((strOfNums a).toList == (strOfNums b).toList) = decide (a = b) := by
  rw [ByteArray.toList_eq, ByteArray.toList_eq]
  by_cases e : a = b
  · subst e; simp
  · rw [beq_eq_false_iff_ne.2 (fun x => e (nums_inj _ _ ha hb (by simpa [strOfNums_data] using x)))]
    simp [e]
theorem bequal_any (A A' : Option Addr) (n n' c c' : Nat) (l l' : List Int) (w : World) (x : Bool) (h : Rd w A n l) (h' : Rd w A' n' l') (hx : decide (l = l') = x) :
    Calls Try.prog 48 #[.slice A n c, .slice A' n' c'] w fun e w' => e = .returned (.bool x) ∧ w = w' := by
  have h1 := conv_rd h c
  have h2 := conv_rd h' c'
  have Hd := Lib.hid ((strs_eqB l l' h.byte h'.byte).trans hx)
  clear h h' hx
  go_enter Try.func48, Try.ntmps48
  go_wp2
  go_ret
  exact ⟨ret_bool (Hd.out), rfl⟩
end Go.Proofs.Ytncbkgcblmohoaa
