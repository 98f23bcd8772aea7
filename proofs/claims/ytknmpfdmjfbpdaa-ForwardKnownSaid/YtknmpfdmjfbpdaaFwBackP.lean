/-
  Plain facts for ForwardBack: what comes in goes out again.
-/
import Derived.Test.YtknmpfdmjfbpdaaFwMay
namespace Go.Proofs.Ytknmpfdmjfbpdaa
set_option maxRecDepth 10000
open Go.RowKit
set_option linter.unusedSimpArgs false
set_option linter.unusedVariables false

theorem may_find {k : Cfg} {M : FWL} (h : FwMay (okF k) M) {p q : Int} {f : Fw} (hf : fwFind p q M = some f) : f.pr = p ∧ f.po = q ∧ insB k f.ad = true ∧ p ≠ 1 := by
  obtain ⟨h1, h2, h3⟩ := fwFind_some hf
  have := h.each f h1
  unfold okF mayOne at this
  simp only [Bool.and_eq_true, Bool.or_eq_true, beq_iff_eq] at this
  refine ⟨h2, h3, this.2.2.2.2, ?_⟩
  rw [← h2]
  intro e
  rcases this.1 with h | h <;> omega
theorem round_out {M : FWL} {x : Tu} {f : Fw} (hf : fwFind x.pr x.dp M = some f) : ∃ g, g ∈ fwAll M ∧ g.pr = f.pr ∧ g.ad = f.ad ∧ g.tp = f.tp ∧ fwOut ⟨x.pr, f.ad, x.sr, f.tp, x.sp⟩ x.ds M = (⟨x.pr, x.ds, x.sr, g.po, x.sp⟩, true) := by
  obtain ⟨g, h1, h2, h3, h4, h5⟩ := fw_back hf (y := ⟨x.pr, f.ad, x.sr, f.tp, x.sp⟩) ⟨rfl, rfl, rfl⟩
  refine ⟨g, (fwAll_perm M).mem_iff.2 h2, h3, h4, h5, ?_⟩
  unfold fwOut
  rw [h1]
/-- Another one leads to the same place. -/
def otherF (f g : Fw) : Bool := (g.pr == f.pr) && ((g.ad == f.ad) && ((g.tp == f.tp) && (g.po != f.po)))
theorem alone_po {M : FWL} {f g : Fw} {n : Nat} (hn : M.length = n) (hg : g ∈ M) (h1 : g.pr = f.pr) (h2 : g.ad = f.ad) (h3 : g.tp = f.tp) (h : ∀ t, t < n → otherF f (M.getD t fw0) = false) : g.po = f.po := by
  obtain ⟨t, ht⟩ := List.getElem?_of_mem hg
  obtain ⟨htl, e⟩ := List.getElem?_eq_some_iff.1 ht
  have := h t (by omega)
  rw [show M.getD t fw0 = g by simp [List.getD, ht]] at this
  unfold otherF at this
  simpa [h1, h2, h3] using this
theorem rev_no {t : Tu} (h : t.pr ≠ 1) : revT t = ⟨t.pr, t.ds, t.sr, t.dp, t.sp⟩ := by unfold revT; rw [if_neg h]
theorem fw_eql0 (w : World) : (binOp .eql 40 (.agg #[.int .u8 0, .int .u16 0, .int .u32 0, .int .u16 0]) (.agg #[.int .u8 0, .int .u16 0, .int .u32 0, .int .u16 0])).run Try.prog w = .ok (.bool true) w := by
  rw [run_eql_struct, run_equalIn_struct w 9999 40 _ _ (by kernel_rfl) (by kernel_rfl)]
  go_simp
theorem fw_eql (f g : Fw) (w : World) : (binOp .eql 40 (.agg #[.int .u8 f.pr, .int .u16 f.po, .int .u32 f.ad, .int .u16 f.tp]) (.agg #[.int .u8 g.pr, .int .u16 g.po, .int .u32 g.ad, .int .u16 g.tp])).run Try.prog w = .ok (.bool (decide (f = g))) w := by
  rw [run_eql_struct, run_equalIn_struct w 9999 40 _ _ (by kernel_rfl) (by kernel_rfl)]
  obtain ⟨a, b, c, d⟩ := f
  obtain ⟨a', b', c', d'⟩ := g
  go_simp
  repeat' split
  all_goals simp_all
end Go.Proofs.Ytknmpfdmjfbpdaa
