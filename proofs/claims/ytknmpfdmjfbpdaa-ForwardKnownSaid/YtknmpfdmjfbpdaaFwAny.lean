/-
  Rows of forwards of which a field is turned: 'whatever stands there'.
-/
import Derived.Test.YtknmpfdmjfbpdaaFwFind
import Derived.Test.YtknmpfdmjfbpdaaFwCut
namespace Go.Proofs.Ytknmpfdmjfbpdaa
set_option maxRecDepth 10000
open Go.RowKit
set_option linter.unusedSimpArgs false
set_option linter.unusedVariables false

/-- Block g holds n forwards from o on. -/
structure AnyW (w : World) (g o n : Nat) : Prop where
  blk : ∃ C, w.heap[g]? = some (.cells C 40 (0, 0))
  at_ : ∀ i, i < n → ∃ f : Fw, FwAt w g (o + i * 4) f
theorem AnyW.of {w : World} {A : Option Addr} {n c : Nat} {L : FWL} (h : SlV w 40 4 (.slice A n c) n (flatW4 L)) (hn : L.length = n) (h0 : 0 < n) : ∃ g o, A = some ⟨g, o, none⟩ ∧ AnyW w g o n := by
  obtain ⟨b, o, e, hlt, hc⟩ := (RdW.of h hn).at_ (by omega)
  subst e
  rcases id h with ⟨e, en, _⟩ | ⟨g2, o2, c', e, hr⟩
  · omega
  · injection e with e1 e2 e3
    injection e1 with e1
    injection e1 with e4 e5
    subst e4; subst e5
    obtain ⟨C, hg, _⟩ := hr
    exact ⟨b, o, rfl, ⟨C, hg⟩, fun i hi => ⟨_, hc i (by omega)⟩⟩
theorem AnyW.but {S : Nat → Prop} {w w' : World} {g o n : Nat} (h : AnyW w g o n) (hb : But S w w') (hn : ¬ S g) : AnyW w' g o n := by
  obtain ⟨⟨C, hg⟩, ha⟩ := h
  refine ⟨⟨C, hb.blk hg hn⟩, fun i hi => ?_⟩
  obtain ⟨f, hf⟩ := ha i hi
  exact ⟨f, hf.of (fun i => hb.cell (p := ⟨g, i, none⟩) (lt_of_block hg) hn)⟩
theorem AnyW.index {w : World} {g o n : Nat} (h : AnyW w g o n) (c : Nat) {j : Nat} (hj : j < n) :
    ∃ f : Fw, (∀ W : World, (Instr.indexAt 27 (.slice (some ⟨g, o, none⟩) n c) (.int .i64 (j : Int))).run Try.prog W = .ok (.pointer (some ⟨g, o + j * 4, none⟩)) W) ∧ FwAt w g (o + j * 4) f ∧ ∀ i, w.frozen? ⟨g, i, none⟩ = false := by
  obtain ⟨⟨C, hg⟩, ha⟩ := h
  obtain ⟨f, hf⟩ := ha j hj
  have k0 : (0 : Int) ≤ (j : Int) := by omega
  have k1 : (j : Int) < (n : Int) := by omega
  exact ⟨f, fun W => by go_simp, hf, fun i => blk_free hg i⟩
theorem set_same_cell {w : World} {g p : Nat} {u : Value} (h : w.cell? ⟨g, p, none⟩ = some u) (v : Value) : (w.setCell ⟨g, p, none⟩ v).cell? ⟨g, p, none⟩ = some v := by
  unfold World.cell? at h ⊢
  unfold World.setCell
  simp only [Array.getElem?_modify] at h ⊢
  cases hg : w.heap[g]? with
  | none => rw [hg] at h; simp at h
  | some ob =>
    rw [hg] at h
    cases ob with
    | cells C t fr =>
      simp only [Option.map_some, if_true]
      simp at h ⊢
      have hp : p < C.size := (Array.getElem?_eq_some_iff.1 h).1
      simp [hp]
    | _ => simp at h
theorem set_other_cell {w : World} {g p q : Nat} (hpq : p ≠ q) (v : Value) : (w.setCell ⟨g, p, none⟩ v).cell? ⟨g, q, none⟩ = w.cell? ⟨g, q, none⟩ := by
  unfold World.cell? World.setCell
  simp only [Array.getElem?_modify]
  cases hg : w.heap[g]? with
  | none => simp
  | some ob =>
    cases ob with
    | cells C t fr => simp [Array.getElem?_setIfInBounds_ne hpq]
    | _ => simp
theorem AnyW.set2 {w : World} {g o n : Nat} (h : AnyW w g o n) {j : Nat} (hj : j < n) (v : Int) : AnyW (w.setCell ⟨g, o + j * 4 + 2, none⟩ (.int .u32 v)) g o n := by
  obtain ⟨⟨C, hg⟩, ha⟩ := h
  refine ⟨⟨_, heap_setCell_at hg _ _⟩, fun i hi => ?_⟩
  obtain ⟨f, hf⟩ := ha i hi
  by_cases e : i = j
  · subst e
    exact ⟨{ f with ad := v }, (set_other_cell (by omega) _).trans hf.c0, (set_other_cell (by omega) _).trans hf.c1, set_same_cell hf.c2 _, (set_other_cell (by omega) _).trans hf.c3⟩
  · exact ⟨f, (set_other_cell (by omega) _).trans hf.c0, (set_other_cell (by omega) _).trans hf.c1, (set_other_cell (by omega) _).trans hf.c2, (set_other_cell (by omega) _).trans hf.c3⟩
theorem AnyW.set3 {w : World} {g o n : Nat} (h : AnyW w g o n) {j : Nat} (hj : j < n) (v : Int) : AnyW (w.setCell ⟨g, o + j * 4 + 3, none⟩ (.int .u16 v)) g o n := by
  obtain ⟨⟨C, hg⟩, ha⟩ := h
  refine ⟨⟨_, heap_setCell_at hg _ _⟩, fun i hi => ?_⟩
  obtain ⟨f, hf⟩ := ha i hi
  by_cases e : i = j
  · subst e
    exact ⟨{ f with tp := v }, (set_other_cell (by omega) _).trans hf.c0, (set_other_cell (by omega) _).trans hf.c1, (set_other_cell (by omega) _).trans hf.c2, set_same_cell hf.c3 _⟩
  · exact ⟨f, (set_other_cell (by omega) _).trans hf.c0, (set_other_cell (by omega) _).trans hf.c1, (set_other_cell (by omega) _).trans hf.c2, (set_other_cell (by omega) _).trans hf.c3⟩
/-- append of what reads as forwards to a slice of forwards. -/
theorem fw_app (w : World) (B : Option Addr) (n d : Nat) (X : FWL) (h : SlV w 40 4 (.slice B n d) n (flatW4 X)) (A : Option Addr) (m c : Nat) (Y : FWL) (hr : RdW w A Y) (hm : Y.length = m) (hnil : A = none → c = 0) (hs : n + m ≤ 1000000) :
    ∃ B2 d2 w2, (Builtin.append_ #[27, 27] 27 #[.slice B n d, .slice A m c]).run Try.prog w = .ok (.slice B2 (n + m) d2) w2 ∧ SlV w2 40 4 (.slice B2 (n + m) d2) (n + m) (flatW4 (X ++ Y)) ∧ But (fun g => (Value.slice B n d).ownBlock = some g) w w2 ∧
      ((Value.slice B2 (n + m) d2).ownBlock = (Value.slice B n d).ownBlock ∨ (Value.slice B2 (n + m) d2).ownBlock = some w.heap.size) := by
  obtain ⟨B2, d2, w2, h1, h2, h3, h4, -⟩ := sv_app_src (P := Try.prog) w 27 27 40 _ 4 12 Try.underlying27 info_tfw (by omega) rfl _ _ n m _ _ h (hr.src hm c hnil) (by omega)
  exact ⟨B2, d2, w2, h1, by rw [flatW4_append]; exact h2, h3, h4⟩
end Go.Proofs.Ytknmpfdmjfbpdaa
