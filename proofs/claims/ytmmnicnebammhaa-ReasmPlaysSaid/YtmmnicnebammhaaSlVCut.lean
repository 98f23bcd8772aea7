/-
  Slices of structs cut: from element k on, up to element k. No function of the program.
-/
import Derived.Test.YtmmnicnebammhaaSlV
import Derived.Lib.SliceRun
namespace Go.Proofs.Ytmmnicnebammhaa
set_option maxRecDepth 10000
open Go.RowKit
set_option linter.unusedSimpArgs false
set_option linter.unusedVariables false

theorem RowV.bare {w : World} {T : TypeId} {sz g o n c : Nat} {vs : List Value} (h : RowV w T sz g o n vs c) : RowV w T sz g o 0 [] 0 := by
  obtain ⟨C, hg, hC, _⟩ := h
  exact ⟨C, hg, by omega, by simp, Nat.le_refl _, by simp [maxLen], fun i hi => by simp at hi⟩
/-- s[k:] -/
theorem sv_from {P : Program} {w : World} {t T : TypeId} {z : Value} {sz by_ n : Nat} {vs : List Value} {v : Value} (ht : P.underlying t = some (.slice T)) (hi : (P.info? T).map (fun i => (i.zero, i.size, i.bytes)) = some (some z, sz, by_)) (h : SlV w T sz v n vs) {k : Nat} (hk : k ≤ n) :
    ∃ A2 c2, (∀ W : World, (Instr.slice t v (some (.int .i64 (k : Int))) none none).run P W = .ok (.slice A2 (n - k) c2) W) ∧ SlV w T sz (.slice A2 (n - k) c2) (n - k) (vs.drop (k * sz)) ∧ (Value.slice A2 (n - k) c2).ownBlock = v.ownBlock := by
  obtain ⟨i0, hi, hz0, hz1, hz2⟩ := info_parts hi
  have k0 : (0 : Int) ≤ (k : Int) := by omega
  have k1 : (k : Int) ≤ (n : Int) := by omega
  rcases h with ⟨rfl, rfl, rfl⟩ | ⟨g, o, c, rfl, hr⟩
  · obtain rfl : k = 0 := by omega
    exact ⟨none, 0, fun W => by simp [Instr.slice, Instr.sliceBounds, Instr.sliceBound, run_underlying ht, asIntOf, sizeOf, typeInfo, hi, hz1, Result.andThen], .inl ⟨rfl, rfl, by simp⟩, rfl⟩
  · have hnc : n ≤ c := by obtain ⟨_, _, _, _, h, _⟩ := hr; exact h
    have hkc : k ≤ c := by omega
    by_cases hc : c = k
    · subst hc
      obtain rfl : n = c := by omega
      refine ⟨some ⟨g, o, none⟩, 0, fun W => ?_, ?_, rfl⟩
      · simp [Instr.slice, Instr.sliceBounds, Instr.sliceBound, run_underlying ht, asIntOf, sizeOf, typeInfo, hi, hz1, Result.andThen]
      · refine .inr ⟨g, o, 0, rfl, ?_⟩
        have hl : vs.drop (n * sz) = [] := List.drop_eq_nil_of_le (by obtain ⟨_, _, _, h, _⟩ := hr; omega)
        rw [hl, Nat.sub_self]
        exact hr.bare
    · refine ⟨some ⟨g, o + k * sz, none⟩, c - k, fun W => ?_, .inr ⟨_, _, _, rfl, hr.drop hk⟩, rfl⟩
      simp [Instr.slice, Instr.sliceBounds, Instr.sliceBound, run_underlying ht, asIntOf, sizeOf, typeInfo, hi, hz1, k0, k1, hk, hc, Go.WideShapes.add_plain, Result.andThen]
/-- s[:k] -/
theorem sv_to {P : Program} {w : World} {t T : TypeId} {z : Value} {sz by_ n : Nat} {vs : List Value} {v : Value} (ht : P.underlying t = some (.slice T)) (hi : (P.info? T).map (fun i => (i.zero, i.size, i.bytes)) = some (some z, sz, by_)) (h : SlV w T sz v n vs) {k : Nat} (hk : k ≤ n) :
    ∃ A2 c2, (∀ W : World, (Instr.slice t v none (some (.int .i64 (k : Int))) none).run P W = .ok (.slice A2 k c2) W) ∧ SlV w T sz (.slice A2 k c2) k (vs.take (k * sz)) ∧ (Value.slice A2 k c2).ownBlock = v.ownBlock := by
  obtain ⟨i0, hi, hz0, hz1, hz2⟩ := info_parts hi
  have k0 : (0 : Int) ≤ (k : Int) := by omega
  rcases h with ⟨rfl, rfl, rfl⟩ | ⟨g, o, c, rfl, hr⟩
  · obtain rfl : k = 0 := by omega
    exact ⟨none, 0, fun W => by simp [Instr.slice, Instr.sliceBounds, Instr.sliceBound, run_underlying ht, asIntOf, sizeOf, typeInfo, hi, hz1, Result.andThen], .inl ⟨rfl, rfl, by simp⟩, rfl⟩
  · have hnc : n ≤ c := by obtain ⟨_, _, _, _, h, _⟩ := hr; exact h
    have k1 : (k : Int) ≤ (c : Int) := by omega
    have hkc : k ≤ c := by omega
    refine ⟨some ⟨g, o, none⟩, c, fun W => ?_, .inr ⟨_, _, _, rfl, hr.take hk⟩, rfl⟩
    by_cases hc : c = 0
    · subst hc
      obtain rfl : k = 0 := by omega
      simp [Instr.slice, Instr.sliceBounds, Instr.sliceBound, run_underlying ht, asIntOf, sizeOf, typeInfo, hi, hz1, Result.andThen]
    · simp [Instr.slice, Instr.sliceBounds, Instr.sliceBound, run_underlying ht, asIntOf, sizeOf, typeInfo, hi, hz1, k0, k1, hkc, hc, Go.WideShapes.add_plain, Result.andThen]
      try (cases c <;> simp_all [Go.WideShapes.add_plain])
end Go.Proofs.Ytmmnicnebammhaa
