/-
  What comes into the laws of reasm, opened: a row of pieces, a row of calls.
-/
import Derived.Test.YtmmnicnebammhaaRdSub
import Derived.Test.YtmmnicnebammhaaFields
import Derived.Deep.Slices
import Derived.ChangeSame
namespace Go.Proofs.Ytmmnicnebammhaa
set_option maxRecDepth 10000
open Go.Joins Go.ChangeShapes Go.WideShapes Go.ChangeAt Go.RowKit Go.Deep
set_option linter.unusedSimpArgs false
set_option linter.unusedVariables false

theorem addr_addW (b o k : Nat) : (⟨b, o, none⟩ : Addr).add k = ⟨b, o + k, none⟩ := by
  unfold Addr.add
  split <;> simp_all
/-- A slice of pieces. -/
structure RdPc (w : World) (A : Option Addr) (n : Nat) : Prop where
  at_ : 0 < n → ∃ b o, A = some ⟨b, o, none⟩ ∧ b < w.heap.size ∧ ∀ i, i < n → ∃ (fr lg : Int) (tk : Bool), (w.cell? ⟨b, o + i * 3, none⟩ = some (.int .u16 fr) ∧ w.cell? ⟨b, o + i * 3 + 1, none⟩ = some (.int .u16 lg) ∧ w.cell? ⟨b, o + i * 3 + 2, none⟩ = some (.bool tk)) ∧ (0 ≤ fr ∧ fr < 65536) ∧ (0 ≤ lg ∧ lg < 65536)
theorem RdPc.nil (w : World) (A : Option Addr) : RdPc w A 0 := ⟨fun h => absurd h (by omega)⟩
theorem RdPc.off {S : Nat → Prop} {w w' : World} {A : Option Addr} {n : Nat} (h : RdPc w A n) (hb : But S w w') (hS : ∀ k, S k → w.heap.size ≤ k) : RdPc w' A n :=
  ⟨fun hn => by
    obtain ⟨b, o, e, hlt, hc⟩ := h.at_ hn
    refine ⟨b, o, e, hb.lt hlt, fun i hi => ?_⟩
    obtain ⟨fr, lg, tk, ⟨h0, h1, h2⟩, hh⟩ := hc i hi
    have hns : ¬ S b := fun hs => by have := hS b hs; omega
    exact ⟨fr, lg, tk, ⟨by rw [hb.cell (p := ⟨b, _, none⟩) hlt hns]; exact h0, by rw [hb.cell (p := ⟨b, _, none⟩) hlt hns]; exact h1, by rw [hb.cell (p := ⟨b, _, none⟩) hlt hns]; exact h2⟩, hh⟩⟩
theorem RdPc.below {w w' : World} {A : Option Addr} {n : Nat} (h : RdPc w A n) (hb : Below w.heap.size w w') : RdPc w' A n :=
  h.off (But.of (S := fun _ => False) hb) (fun _ hs => hs.elim)
theorem RdPc.index {w : World} {A : Option Addr} {n c : Nat} (h : RdPc w A n) {j : Nat} (hj : j < n) :
    ∃ (b p : Nat) (fr lg : Int) (tk : Bool), (∀ W : World, (Instr.indexAt 51 (.slice A n c) (.int .i64 (j : Int))).run Try.prog W = .ok (.pointer (some ⟨b, p, none⟩)) W) ∧ b < w.heap.size ∧
      w.cell? ⟨b, p, none⟩ = some (.int .u16 fr) ∧ w.cell? ⟨b, p + 1, none⟩ = some (.int .u16 lg) ∧ w.cell? ⟨b, p + 2, none⟩ = some (.bool tk) ∧ (0 ≤ fr ∧ fr < 65536) ∧ (0 ≤ lg ∧ lg < 65536) := by
  obtain ⟨b, o, rfl, hb, hc⟩ := h.at_ (by omega)
  obtain ⟨fr, lg, tk, ⟨h0, h1, h2⟩, hp, ht⟩ := hc j hj
  have k0 : (0 : Int) ≤ (j : Int) := by omega
  have k1 : (j : Int) < (n : Int) := by omega
  exact ⟨b, o + j * 3, fr, lg, tk, fun W => by go_simp, hb, h0, h1, h2, hp, ht⟩
def PcsAt (w : World) (v : Value) : Prop := ∃ (A : Option Addr) (n c : Nat), v = .slice A n c ∧ n ≤ c ∧ c ≤ maxLen ∧ RdPc w A n
section
variable {H : Type} {enc : TypeId × Value → H} {W : World} {base : Nat} {v : Value} {d : DataW H} {p : List MemPlace}
theorem pcs_open (hv : Value.okWide Try.prog W .any base 51 v) (h : DataW.Trod enc Try.prog W 0 (fun _ => true) true 51 v d p) : PcsAt W v := by
  obtain ⟨a0, len0, cap0, rfl⟩ := okWide_slice Try.underlying51 hv
  obtain ⟨fu, hm⟩ := h
  have hC : Try.prog.cellsOf 53 = 3 := by kernel_rfl
  rcases open_slice Try.underlying51 hm with ⟨hcs, _⟩ | ⟨x, len, cap, m, fu2, D, Pl, hcs, _, hl, hm', hmm, _, hi⟩
  · simp [Value.cells] at hcs
    obtain ⟨rfl, rfl, rfl⟩ := hcs
    exact ⟨Option.none, 0, 0, rfl, Nat.le_refl _, by simp [maxLen], RdPc.nil _ _⟩
  · simp [Value.cells] at hcs
    obtain ⟨rfl, rfl, rfl⟩ := hcs
    simp only [if_true] at hmm
    subst hmm
    rw [hC] at hi
    have hP : ∀ i, i < len0 → ∃ (fr lg : Int) (tk : Bool), (W.cell? (x.add (i * 3)) = some (.int .u16 fr) ∧ W.cell? ((x.add (i * 3)).add 1) = some (.int .u16 lg) ∧ W.cell? ((x.add (i * 3)).add 2) = some (.bool tk)) ∧ (0 ≤ fr ∧ fr < 65536) ∧ (0 ≤ lg ∧ lg < 65536) := by
      intro i hin
      obtain ⟨cs', hc, ht⟩ := hi i (by omega)
      obtain ⟨m, hh⟩ := one_parts Try.underlying53 (by kernel_rfl) ht
      obtain ⟨hlen, hcl, hat⟩ := World.cells?_some hc
      match cs', hlen with
      | [c0, c1, c2], _ =>
        obtain ⟨_, h0⟩ : ∃ y, DataW.trod enc Try.prog W 0 (fun _ => true) true m 50 [c0] = some y := hh 0 _ _ rfl rfl
        obtain ⟨x0, e0, -, w0⟩ := DataW.trod_int Try.underlying50 h0
        simp at e0
        subst e0
        have b0 := bounds_u16 w0
        obtain ⟨_, h1⟩ : ∃ y, DataW.trod enc Try.prog W 0 (fun _ => true) true m 50 [c1] = some y := hh 1 _ _ rfl rfl
        obtain ⟨x1, e1, -, w1⟩ := DataW.trod_int Try.underlying50 h1
        simp at e1
        subst e1
        have b1 := bounds_u16 w1
        obtain ⟨_, h2⟩ : ∃ y, DataW.trod enc Try.prog W 0 (fun _ => true) true m 4 [c2] = some y := hh 2 _ _ rfl rfl
        obtain ⟨x2, e2, -⟩ := DataW.trod_bool Try.underlying4 h2
        simp at e2
        subst e2
        have k0 := hat 0 (by omega)
        have k1 := hat 1 (by omega)
        have k2 := hat 2 (by omega)
        simp at k0 k1 k2
        exact ⟨x0, x1, x2, ⟨by simpa [Addr.add] using k0, k1, k2⟩, by omega, by omega⟩
    refine ⟨some x, len0, _, rfl, hl, hm', ⟨fun hn => ?_⟩⟩
    obtain ⟨b, off, spot⟩ := x
    obtain ⟨_, _, _, ⟨q0, _, _⟩, _⟩ := hP 0 hn
    have hspot : spot = Option.none := by simpa [Addr.add] using World.cell?_spot q0
    subst hspot
    refine ⟨b, off, rfl, World.block_lt_of_cell? (w := W) (a := ⟨b, off, Option.none⟩) (by simpa [Addr.add] using q0), fun i hin => ?_⟩
    obtain ⟨fr, lg, tk, ⟨h0, h1, h2⟩, hh⟩ := hP i hin
    rw [addr_addW] at h0 h1 h2
    rw [addr_addW] at h1 h2
    exact ⟨fr, lg, tk, ⟨h0, h1, h2⟩, hh⟩
end
end Go.Proofs.Ytmmnicnebammhaa
