/-
  How long a slice that comes in is, as its reading has it; bytes that come in, opened. No function of the program.
-/
import Derived.Test.YtgcliijngaohdaaDoorRd
import Derived.Lib.SmallJoins
import Derived.SizedLaws
namespace Go.Proofs.YtgcliijngaohdaaDoor
set_option maxRecDepth 10000
open Go.Joins Go.ChangeShapes Go.WideShapes Go.ChangeAt Go.RowKit Go.Deep

/-- How long a slice is, as its reading has it. -/
def LenOf {H : Type} (d : DataW H) (n : Nat) : Prop := n = 0 ∨ ∃ elems spare, d = .slice elems spare ∧ elems.length = n

theorem bytes_u8 : Tryd.prog.bytesOf 5 = 1 := by kernel_rfl
theorem len_sized {H : Type} {t : TypeId} {ts : List TypeId} {ds : List (DataW H)} {j : Nat} {e : TypeId} {d : DataW H} {n : Nat} (h : ∀ k ∈ DataW.weightsEach Tryd.prog ts ds, k ≤ reachBytes) (ht : ts[j]? = some t) (hd : ds[j]? = some d) (hu : Tryd.prog.underlying t = some (.slice e)) (hb : 1 ≤ Tryd.prog.bytesOf e) (hn : LenOf d n) : n ≤ 140737488355328 := by
  rcases hn with rfl | ⟨elems, spare, rfl, rfl⟩
  · omega
  · have h1 := h _ (DataW.weights_mem_each ht hd ((elems.length + spare.length) * Tryd.prog.bytesOf e) (by simp [DataW.weights, hu]))
    have h2 : elems.length ≤ (elems.length + spare.length) * Tryd.prog.bytesOf e := Nat.le_trans (Nat.le_add_right _ _) (Nat.le_mul_of_pos_right _ hb)
    have h3 := reachBytes_lt
    omega

def BytesIn (w : World) (v : Value) : Prop := ∃ A n c l, v = .slice A n c ∧ (n ≤ c ∧ c ≤ maxLen) ∧ Rd w A n l
section
variable {H : Type} {enc : TypeId × Value → H} {W : World} {base : Nat} {v : Value} {d : DataW H} {p : List MemPlace}
end
end Go.Proofs.YtgcliijngaohdaaDoor
