/-
  What comes into RexmitParts: how bytes are parted.
-/
import Derived.Test.YtncbkgcblmohoaaRxOpen
namespace Go.Proofs.Ytncbkgcblmohoaa
set_option maxRecDepth 10000
open Go.Joins Go.ChangeShapes Go.WideShapes Go.ChangeAt Go.RowKit Go.Deep
set_option linter.unusedSimpArgs false
set_option linter.unusedVariables false
def CutAt (w : World) (v : Value) : Prop := ∃ (A : Option Addr) (n c : Nat) (l : List Int) (m : Int), v = .agg #[.slice A n c, .int .u8 m] ∧ RdC w A n c l ∧ (0 ≤ m ∧ m < 256)
section
variable {H : Type} {enc : TypeId × Value → H} {W : World} {base : Nat} {v : Value} {d : DataW H} {p : List MemPlace}
theorem cut_open (hv : Value.okWide Try.prog W .any base 81 v) (h : DataW.Trod enc Try.prog W 0 (fun _ => true) true 81 v d p) : CutAt W v := by
  obtain ⟨cs, rfl, hsz⟩ := okWide_struct Try.underlying81 hv
  obtain ⟨l⟩ := cs
  have hC : Try.prog.cellsOf 81 = 2 := by kernel_rfl
  match l, hsz.trans hC with
  | [c0, c1], _ =>
    obtain ⟨fuel, hf⟩ := h
    try simp only [Value.cells] at hf
    obtain ⟨m, hh⟩ := one_parts Try.underlying81 (by kernel_rfl) hf
    obtain ⟨_, h0⟩ : ∃ y, DataW.trod enc Try.prog W 0 (fun _ => true) true m 37 [c0] = some y := hh 0 _ _ rfl rfl
    obtain ⟨AD, nD, cD, l, rfl, hd⟩ := c_part h0
    obtain ⟨_, h1⟩ : ∃ y, DataW.trod enc Try.prog W 0 (fun _ => true) true m 5 [c1] = some y := hh 1 _ _ rfl rfl
    obtain ⟨x1, e1, -, w1⟩ := DataW.trod_int Try.underlying5 h1
    simp at e1
    subst e1
    have b1 := bounds_u8 w1
    exact ⟨AD, nD, cD, l, x1, rfl, hd, by omega, by omega⟩
end
end Go.Proofs.Ytncbkgcblmohoaa
