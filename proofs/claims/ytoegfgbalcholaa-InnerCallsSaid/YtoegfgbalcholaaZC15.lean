/-
  Texts laid together: Fields, PkOpen, TupOpen, Spoil.
-/
import Derived.Test.YtoegfgbalcholaaZC01
import Derived.Lib.SmallJoins
import Derived.Test.YtoegfgbalcholaaZC13
import Derived.Test.YtoegfgbalcholaaZC14
import Derived.Test.YtoegfgbalcholaaZC04
import Derived.Test.YtoegfgbalcholaaZC02
import Derived.Test.YtoegfgbalcholaaZC06

/-
  The fields of a struct that came in. No function of the program.
-/
namespace Go.Proofs.Ytoegfgbalcholaa
set_option maxRecDepth 10000
open Go.Joins Go.ChangeShapes Go.WideShapes Go.ChangeAt Go.RowKit Go.Deep

section
variable {H : Type} {enc : TypeId × Value → H} {P : Program} {w : World} {base : Nat} {spare : Nat → Bool} {held : Bool}
/-- The fields of a struct of one cell each. -/
theorem one_parts {t : TypeId} {fs : Array Field} {fuel : Nat} {cs : List Value} {y : DataW H × List MemPlace} (hs : P.underlying t = some (.struct fs)) (hone : oneCellFields P fs = true) (h : DataW.trod enc P w base spare held fuel t cs = some y) :
    ∃ n, ∀ (i : Nat) (f : Field) (c : Value), fs[i]? = some f → cs[i]? = some c → ∃ yi, DataW.trod enc P w base spare held n f.type [c] = some yi := by
  obtain ⟨xs, n, _, _, _, hlen, hg⟩ := DataW.trod_struct hs h
  refine ⟨n, fun i f c hf hc => ?_⟩
  obtain ⟨ho, hk⟩ := hone_of hone i f hf
  have hi : i < xs.length := by rw [hlen]; exact (Array.getElem?_eq_some_iff.1 hf).1
  have hx := hg i f hf
  have hc1 : (cs.drop i).take 1 = [c] := by
    have hlt : i < cs.length := by
      rcases Nat.lt_or_ge i cs.length with h1 | h1
      · exact h1
      · rw [List.getElem?_eq_none h1] at hc; cases hc
    rw [List.drop_eq_getElem_cons hlt]
    rw [List.getElem?_eq_getElem hlt] at hc
    injection hc with hc
    simp [hc]
  rw [ho, hk, hc1, List.getElem?_eq_getElem hi] at hx
  exact ⟨_, hx⟩
end
end Go.Proofs.Ytoegfgbalcholaa

/-
  A packet (api.Packet) that comes in, opened: numbers within their bounds, slices of bytes and of options.
-/
namespace Go.Proofs.Ytoegfgbalcholaa
set_option maxRecDepth 10000
open Go.Joins Go.ChangeShapes Go.WideShapes Go.ChangeAt Go.RowKit Go.Deep

section
variable {H : Type} {enc : TypeId × Value → H} {W : World} {base : Nat} {v : Value} {d : DataW H} {p : List MemPlace}
end
end Go.Proofs.Ytoegfgbalcholaa

/-
  A tuple (api.Tuple) that comes in, opened.
-/
namespace Go.Proofs.Ytoegfgbalcholaa
set_option maxRecDepth 10000
open Go.Joins Go.ChangeShapes Go.WideShapes Go.ChangeAt Go.RowKit Go.Deep

def TuAt (_w : World) (v : Value) : Prop := ∃ t : Tu, v = .agg #[.int .u8 t.pr, .int .u32 t.sr, .int .u32 t.ds, .int .u16 t.sp, .int .u16 t.dp] ∧ TuNum t
section
variable {H : Type} {enc : TypeId × Value → H} {W : World} {base : Nat} {v : Value} {d : DataW H} {p : List MemPlace}
theorem tu_open (hv : Value.okWide Try.prog W .any base 26 v) (h : DataW.Trod enc Try.prog W 0 (fun _ => true) true 26 v d p) : TuAt W v := by
  obtain ⟨cs, rfl, hsz⟩ := okWide_struct Try.underlying26 hv
  obtain ⟨l⟩ := cs
  have hC : Try.prog.cellsOf 26 = 5 := by kernel_rfl
  match l, hsz.trans hC with
  | [c0, c1, c2, c3, c4], _ =>
    obtain ⟨fuel, hf⟩ := h
    try simp only [Value.cells] at hf
    obtain ⟨m, hh⟩ := one_parts Try.underlying26 (by kernel_rfl) hf
    obtain ⟨_, h0⟩ : ∃ y, DataW.trod enc Try.prog W 0 (fun _ => true) true m 5 [c0] = some y := hh 0 _ _ rfl rfl
    obtain ⟨x0, e0, -, w0⟩ := DataW.trod_int Try.underlying5 h0
    simp at e0
    subst e0
    have b0 := bounds_u8 w0
    obtain ⟨_, h1⟩ : ∃ y, DataW.trod enc Try.prog W 0 (fun _ => true) true m 23 [c1] = some y := hh 1 _ _ rfl rfl
    obtain ⟨x1, e1, -, w1⟩ := DataW.trod_int Try.underlying23 h1
    simp at e1
    subst e1
    have b1 := bounds_u32 w1
    obtain ⟨_, h2⟩ : ∃ y, DataW.trod enc Try.prog W 0 (fun _ => true) true m 23 [c2] = some y := hh 2 _ _ rfl rfl
    obtain ⟨x2, e2, -, w2⟩ := DataW.trod_int Try.underlying23 h2
    simp at e2
    subst e2
    have b2 := bounds_u32 w2
    obtain ⟨_, h3⟩ : ∃ y, DataW.trod enc Try.prog W 0 (fun _ => true) true m 24 [c3] = some y := hh 3 _ _ rfl rfl
    obtain ⟨x3, e3, -, w3⟩ := DataW.trod_int Try.underlying24 h3
    simp at e3
    subst e3
    have b3 := bounds_u16 w3
    obtain ⟨_, h4⟩ : ∃ y, DataW.trod enc Try.prog W 0 (fun _ => true) true m 24 [c4] = some y := hh 4 _ _ rfl rfl
    obtain ⟨x4, e4, -, w4⟩ := DataW.trod_int Try.underlying24 h4
    simp at e4
    subst e4
    have b4 := bounds_u16 w4
    exact ⟨⟨x0, x1, x2, x3, x4⟩, rfl, ⟨by simp only; omega, by simp only; omega, by simp only; omega, by simp only; omega, by simp only; omega⟩⟩
end
end Go.Proofs.Ytoegfgbalcholaa

/-
  Rows of bytes of the call's own that a law turns, whatever they hold: what is left of them under a store of a byte, anywhere. No function of the program.
-/
namespace Go.Proofs.Ytoegfgbalcholaa
set_option maxRecDepth 10000
open Go.RowKit

/-- The first m cells of the row at A, of a block from B on, are bytes. -/
def ByRow (w : World) (B : Nat) (A : Option Addr) (m : Nat) : Prop :=
  m = 0 ∨ ∃ g, A = some ⟨g, 0, none⟩ ∧ B ≤ g ∧ ∃ C : Array Value, w.heap[g]? = some (.cells C 5 (0, 0)) ∧ ∀ i, i < m → ∃ x : Int, C[i]? = some (.int .u8 x)
theorem ByRow.of {w : World} {B : Nat} {A : Option Addr} {n c : Nat} {l : List Int} (h : OwnB w B A n c l) : ByRow w B A n := by
  rcases h.2 with ⟨e, h2⟩ | ⟨g, cap, cur, e, hB, hg, h4⟩
  · injection e with e1 e2 e3
    exact .inl e2
  · injection e with e1 e2 e3
    refine .inr ⟨g, e1, hB, _, hg, fun i hi => ?_⟩
    subst e1
    have := h.cell i hi
    simp [World.cell?, hg] at this
    exact ⟨_, this⟩
theorem ByRow.mono {w : World} {B B' : Nat} {A : Option Addr} {m : Nat} (h : ByRow w B A m) (hB : B' ≤ B) : ByRow w B' A m := by
  rcases h with h | ⟨g, e, hg, C, hC, hx⟩
  · exact .inl h
  · exact .inr ⟨g, e, by omega, C, hC, hx⟩
theorem ByRow.below {w w' : World} {B : Nat} {A : Option Addr} {m : Nat} (h : ByRow w B A m) (hb : Below w.heap.size w w') : ByRow w' B A m := by
  rcases h with h | ⟨g, e, hg, C, hC, hx⟩
  · exact .inl h
  · exact .inr ⟨g, e, hg, C, blk_on hC hb, hx⟩
theorem ByRow.set_ {w : World} {B : Nat} {A : Option Addr} {m : Nat} (h : ByRow w B A m) (p j : Nat) (y : Int) : ByRow (w.setCell ⟨p, j, none⟩ (.int .u8 y)) B A m := by
  rcases h with h | ⟨g, e, hg, C, hC, hx⟩
  · exact .inl h
  · by_cases hp : g = p
    · subst hp
      refine .inr ⟨g, e, hg, C.setIfInBounds j (.int .u8 y), ?_, fun i hi => ?_⟩
      · simp [World.setCell, Array.getElem?_modify, hC]
      · obtain ⟨x, hx⟩ := hx i hi
        by_cases hj : j = i
        · subst hj
          have : j < C.size := by
            rcases Nat.lt_or_ge j C.size with h1 | h1
            · exact h1
            · rw [Array.getElem?_eq_none h1] at hx; cases hx
          exact ⟨y, by rw [Array.getElem?_setIfInBounds_self_of_lt this]⟩
        · exact ⟨x, by rw [Array.getElem?_setIfInBounds_ne (by omega)]; exact hx⟩
    · exact .inr ⟨g, e, hg, C, by simp [World.setCell, Array.getElem?_modify, hC]; intro h0; exact absurd h0.symm hp, hx⟩
theorem ByRow.index {w : World} {B : Nat} {A : Option Addr} {m : Nat} (h : ByRow w B A m) (c j : Nat) (hj : j < m) :
    ∃ (g : Nat) (x : Int), A = some ⟨g, 0, none⟩ ∧ B ≤ g ∧ (∀ W : World, (Instr.indexAt 22 (.slice A m c) (.int .i64 (j : Int))).run Try.prog W = .ok (.pointer (some ⟨g, j, none⟩)) W) ∧ w.cell? ⟨g, j, none⟩ = some (.int .u8 x) ∧ w.frozen? ⟨g, j, none⟩ = false := by
  rcases h with h | ⟨g, e, hg, C, hC, hx⟩
  · omega
  · obtain ⟨x, hx⟩ := hx j hj
    subst e
    have h0 : (0 : Int) ≤ (j : Int) := by omega
    have h1 : (j : Int) < (m : Int) := by omega
    exact ⟨g, x, rfl, hg, fun W => by go_simp, by rw [blk_cell hC]; exact hx, blk_free hC j⟩
end Go.Proofs.Ytoegfgbalcholaa
