/-
  Plain facts for ForwardLess: one less, another order, one twice; l[k:], what is found in each.
-/
import Derived.Test.YtknmpfdmjfbpdaaFwAny
import Derived.Test.YtknmpfdmjfbpdaaFwBackP
namespace Go.Proofs.Ytknmpfdmjfbpdaa
set_option maxRecDepth 10000
open Go.RowKit
set_option linter.unusedSimpArgs false
set_option linter.unusedVariables false

theorem RdW.drop {w : World} {b o : Nat} {L : FWL} (h : RdW w (some ⟨b, o, none⟩) L) (m : Nat) : RdW w (some ⟨b, o + m * 4, none⟩) (L.drop m) := ⟨fun h0 => by
  rw [List.length_drop] at h0
  obtain ⟨b', o', e, hlt, hc⟩ := h.at_ (by omega)
  injection e with e
  injection e with e1 e2
  subst e1; subst e2
  refine ⟨_, _, rfl, hlt, fun i hi => ?_⟩
  rw [List.length_drop] at hi
  have := hc (m + i) (by omega)
  rw [show (L.drop m).getD i fw0 = L.getD (m + i) fw0 by simp [List.getD, List.getElem?_drop]]
  rwa [show o + m * 4 + i * 4 = o + (m + i) * 4 by omega]⟩
theorem rw_from (A : Option Addr) (n c m : Nat) (hnil : A = none → c = 0) (hm : m ≤ n) (hnc : n ≤ c) :
    ∃ A2 c2, (∀ W : World, (Instr.slice 27 (.slice A n c) (some (.int .i64 (m : Int))) none none).run Try.prog W = .ok (.slice A2 (n - m) c2) W) ∧ (A2 = none → c2 = 0) ∧ ∀ (w : World) (L : FWL), RdW w A L → L.length = n → RdW w A2 (L.drop m) := by
  obtain ⟨i0, hi, hz0, hz1, hz2⟩ := info_parts info_tfw
  have k0 : (0 : Int) ≤ (m : Int) := by omega
  have k1 : (m : Int) ≤ (n : Int) := by omega
  have k2 : m ≤ n := hm
  have k4 : (n : Int) ≤ (c : Int) := by omega
  have k5 : (0 : Int) ≤ (n : Int) := by omega
  have hdr : ∀ (w : World) (L : FWL), L.length = n → n = m → ∀ A2, RdW w A2 (L.drop m) := fun w L hl e A2 => by
    rw [List.drop_of_length_le (by omega)]
    exact RdW.nil w A2
  cases A with
  | none =>
    have hc := hnil rfl
    subst hc
    obtain rfl : m = 0 := by omega
    obtain rfl : n = 0 := by omega
    exact ⟨none, 0, fun W => by simp [Instr.slice, Instr.sliceBounds, Instr.sliceBound, run_underlying Try.underlying27, asIntOf, sizeOf, typeInfo, hi, hz1, Result.andThen], fun _ => rfl, fun w L h hl => hdr w L hl rfl _⟩
  | some a =>
    by_cases hc : c = m
    · obtain rfl : n = m := by omega
      subst hc
      exact ⟨some a, c - c, fun W => by simp [Instr.slice, Instr.sliceBounds, Instr.sliceBound, run_underlying Try.underlying27, asIntOf, sizeOf, typeInfo, hi, hz1, k0, k1, k2, k5, Result.andThen], fun e => (by cases e), fun w L h hl => hdr w L hl rfl _⟩
    · exact ⟨some (a.add (m * 4)), c - m, fun W => by simp [Instr.slice, Instr.sliceBounds, Instr.sliceBound, run_underlying Try.underlying27, asIntOf, sizeOf, typeInfo, hi, hz1, k0, k1, k2, k4, k5, hc, Result.andThen], fun e => (by cases e), fun w L h hl => by
        by_cases hmn : n = m
        · exact hdr w L hl hmn _
        · obtain ⟨b, o, e, _, _⟩ := h.at_ (by omega)
          injection e with e
          subst e
          rw [Go.WideShapes.add_plain]
          exact h.drop m⟩
theorem may_less {k : Cfg} {L : FWL} (h : FwMay (okF k) L) (j : Nat) : FwMay (okF k) (L.take j ++ L.drop (j + 1)) := by
  refine h.sub ?_
  rw [← List.eraseIdx_eq_take_drop_succ]
  exact List.eraseIdx_sublist _ _
theorem may_turned {k : Cfg} {L : FWL} (h : FwMay (okF k) L) (j : Nat) : FwMay (okF k) (L.drop j ++ L.take j) ∧ fwAll (L.drop j ++ L.take j) = fwAll L := by
  have hp : (L.drop j ++ L.take j).Perm L := by
    refine List.perm_append_comm.trans ?_
    rw [List.take_append_drop]
  exact ⟨h.perm hp, fwAll_same h.ne hp⟩
theorem less_len {L : FWL} {j n : Nat} (hn : L.length = n) (hj : j < n) : (L.take j ++ L.drop (j + 1)).length = n - 1 := by
  simp only [List.length_append, List.length_take, List.length_drop]
  omega
theorem getD_mem {L : FWL} {i n : Nat} (hn : L.length = n) (hi : i < n) : L.getD i fw0 ∈ L := by
  have hil : i < L.length := by omega
  rw [show L.getD i fw0 = L[i] by simp [List.getD, hil]]
  exact List.getElem_mem hil
theorem find_turned {k : Cfg} {L : FWL} (h : FwMay (okF k) L) {n : Nat} (hn : L.length = n) (j : Nat) {i : Nat} (hi : i < n) {f : Fw} (hf : L.getD i fw0 = f) : fwFind f.pr f.po (L.drop j ++ L.take j) = some f := by
  have hp : (L.drop j ++ L.take j).Perm L := by
    refine List.perm_append_comm.trans ?_
    rw [List.take_append_drop]
  refine fwFind_at (h.perm hp).ne ?_
  rw [hp.mem_iff, ← hf]
  exact getD_mem hn hi
theorem find_less {k : Cfg} {L : FWL} (h : FwMay (okF k) L) {n : Nat} (hn : L.length = n) {j : Nat} (hj : j < n) {i : Nat} (hi : i < n) {f : Fw} (hf : L.getD i fw0 = f) :
    (i ≠ j → fwFind f.pr f.po (L.take j ++ L.drop (j + 1)) = some f) ∧ (i = j → fwFind f.pr f.po (L.take j ++ L.drop (j + 1)) = none) := by
  have hil : i < L.length := by omega
  have e : L[i] = f := by simpa [List.getD, hil] using hf
  constructor
  · intro hij
    refine fwFind_at (may_less h j).ne ?_
    rw [← List.eraseIdx_eq_take_drop_succ, List.mem_eraseIdx_iff_getElem?]
    exact ⟨i, hij, by rw [List.getElem?_eq_getElem hil, e]⟩
  · rintro rfl
    refine fwFind_no (fun g hg hc => ?_)
    rw [← List.eraseIdx_eq_take_drop_succ, List.mem_eraseIdx_iff_getElem?] at hg
    obtain ⟨t, ht, hgt⟩ := hg
    obtain ⟨htl, e2⟩ := List.getElem?_eq_some_iff.1 hgt
    have hne := h.ne
    rw [List.pairwise_iff_getElem] at hne
    rcases Nat.lt_or_gt_of_ne ht with h1 | h1
    · have := hne t i htl hil h1
      rw [e2, e] at this
      exact this hc
    · have := hne i t hil htl h1
      rw [e2, e] at this
      exact this ⟨hc.1.symm, hc.2.symm⟩
end Go.Proofs.Ytknmpfdmjfbpdaa
