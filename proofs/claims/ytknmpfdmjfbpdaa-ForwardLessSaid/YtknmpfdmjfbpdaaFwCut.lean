/-
  Parts of a slice of forwards that came in: l[:m], l[m:].
-/
import Derived.Test.YtknmpfdmjfbpdaaFwDoor
namespace Go.Proofs.Ytknmpfdmjfbpdaa
set_option maxRecDepth 10000
open Go.RowKit
set_option linter.unusedSimpArgs false
set_option linter.unusedVariables false

theorem RdW.take {w : World} {A : Option Addr} {L : FWL} (h : RdW w A L) (m : Nat) : RdW w A (L.take m) := ⟨fun h0 => by
  rw [List.length_take] at h0
  obtain ⟨b, o, e, hlt, hc⟩ := h.at_ (by omega)
  refine ⟨b, o, e, hlt, fun i hi => ?_⟩
  rw [List.length_take] at hi
  have := hc i (by omega)
  rwa [show (L.take m).getD i fw0 = L.getD i fw0 by simp [List.getD, List.getElem?_take_of_lt (show i < m by omega)]]⟩
theorem rw_to (A : Option Addr) (n c m : Nat) (hnil : A = none → c = 0) (hm : m ≤ n) (hnc : n ≤ c) :
    ∃ A2 c2, (∀ W : World, (Instr.slice 27 (.slice A n c) none (some (.int .i64 (m : Int))) none).run Try.prog W = .ok (.slice A2 m c2) W) ∧ (A2 = none → c2 = 0) ∧ m ≤ c2 ∧ ∀ (w : World) (L : FWL), RdW w A L → RdW w A2 (L.take m) := by
  obtain ⟨i0, hi, hz0, hz1, hz2⟩ := info_parts info_tfw
  have k0 : (0 : Int) ≤ (m : Int) := by omega
  have k1 : (m : Int) ≤ (c : Int) := by omega
  cases A with
  | none =>
    have hc := hnil rfl
    subst hc
    obtain rfl : m = 0 := by omega
    exact ⟨none, 0, fun W => by simp [Instr.slice, Instr.sliceBounds, Instr.sliceBound, run_underlying Try.underlying27, asIntOf, sizeOf, typeInfo, hi, hz1, Result.andThen], fun _ => rfl, Nat.le_refl _, fun w L h => h.take 0⟩
  | some a =>
    by_cases hc : c = 0
    · subst hc
      obtain rfl : m = 0 := by omega
      exact ⟨some a, 0, fun W => by simp [Instr.slice, Instr.sliceBounds, Instr.sliceBound, run_underlying Try.underlying27, asIntOf, sizeOf, typeInfo, hi, hz1, Result.andThen], fun _ => rfl, Nat.le_refl _, fun w L h => h.take 0⟩
    · have k2 : m ≤ c := by omega
      have ha : a.add 0 = a := by obtain ⟨b, o, s⟩ := a; unfold Addr.add; split <;> simp_all
      exact ⟨some a, c, fun W => by simp [Instr.slice, Instr.sliceBounds, Instr.sliceBound, run_underlying Try.underlying27, asIntOf, sizeOf, typeInfo, hi, hz1, k0, k1, k2, ha, hc, Result.andThen], fun e => (by cases e), by omega, fun w L h => h.take m⟩
end Go.Proofs.Ytknmpfdmjfbpdaa
