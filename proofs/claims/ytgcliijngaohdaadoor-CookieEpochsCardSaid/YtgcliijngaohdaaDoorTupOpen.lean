/-
  A tuple (api.Tuple) that comes in, opened.
-/
import Derived.Test.YtgcliijngaohdaaDoorTup
import Derived.Test.YtgcliijngaohdaaDoorPkOpen
namespace Go.Proofs.YtgcliijngaohdaaDoor
set_option maxRecDepth 10000
open Go.Joins Go.ChangeShapes Go.WideShapes Go.ChangeAt Go.RowKit Go.Deep

def TuAt (_w : World) (v : Value) : Prop := ∃ t : Tu, v = .agg #[.int .u8 t.pr, .int .u32 t.sr, .int .u32 t.ds, .int .u16 t.sp, .int .u16 t.dp] ∧ TuNum t
section
variable {H : Type} {enc : TypeId × Value → H} {W : World} {base : Nat} {v : Value} {d : DataW H} {p : List MemPlace}
theorem tu_open (hv : Value.okWide Tryd.prog W .any base 26 v) (h : DataW.Trod enc Tryd.prog W 0 (fun _ => true) true 26 v d p) : TuAt W v := by
  obtain ⟨cs, rfl, hsz⟩ := okWide_struct Tryd.underlying26 hv
  obtain ⟨l⟩ := cs
  have hC : Tryd.prog.cellsOf 26 = 5 := by kernel_rfl
  match l, hsz.trans hC with
  | [c0, c1, c2, c3, c4], _ =>
    obtain ⟨fuel, hf⟩ := h
    try simp only [Value.cells] at hf
    obtain ⟨m, hh⟩ := one_parts Tryd.underlying26 (by kernel_rfl) hf
    obtain ⟨_, h0⟩ : ∃ y, DataW.trod enc Tryd.prog W 0 (fun _ => true) true m 5 [c0] = some y := hh 0 _ _ rfl rfl
    obtain ⟨x0, e0, -, w0⟩ := DataW.trod_int Tryd.underlying5 h0
    simp at e0
    subst e0
    have b0 := bounds_u8 w0
    obtain ⟨_, h1⟩ : ∃ y, DataW.trod enc Tryd.prog W 0 (fun _ => true) true m 23 [c1] = some y := hh 1 _ _ rfl rfl
    obtain ⟨x1, e1, -, w1⟩ := DataW.trod_int Tryd.underlying23 h1
    simp at e1
    subst e1
    have b1 := bounds_u32 w1
    obtain ⟨_, h2⟩ : ∃ y, DataW.trod enc Tryd.prog W 0 (fun _ => true) true m 23 [c2] = some y := hh 2 _ _ rfl rfl
    obtain ⟨x2, e2, -, w2⟩ := DataW.trod_int Tryd.underlying23 h2
    simp at e2
    subst e2
    have b2 := bounds_u32 w2
    obtain ⟨_, h3⟩ : ∃ y, DataW.trod enc Tryd.prog W 0 (fun _ => true) true m 24 [c3] = some y := hh 3 _ _ rfl rfl
    obtain ⟨x3, e3, -, w3⟩ := DataW.trod_int Tryd.underlying24 h3
    simp at e3
    subst e3
    have b3 := bounds_u16 w3
    obtain ⟨_, h4⟩ : ∃ y, DataW.trod enc Tryd.prog W 0 (fun _ => true) true m 24 [c4] = some y := hh 4 _ _ rfl rfl
    obtain ⟨x4, e4, -, w4⟩ := DataW.trod_int Tryd.underlying24 h4
    simp at e4
    subst e4
    have b4 := bounds_u16 w4
    exact ⟨⟨x0, x1, x2, x3, x4⟩, rfl, ⟨by simp only; omega, by simp only; omega, by simp only; omega, by simp only; omega, by simp only; omega⟩⟩
end
end Go.Proofs.YtgcliijngaohdaaDoor
