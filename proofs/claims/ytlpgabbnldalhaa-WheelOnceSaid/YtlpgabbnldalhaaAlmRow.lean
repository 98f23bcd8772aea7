/-
  Rows of the program's alarms: their cells, read at a place.
-/
import Derived.Test.YtlpgabbnldalhaaAlm
namespace Go.Proofs.Ytlpgabbnldalhaa
set_option maxRecDepth 10000
open Go.RowKit
set_option linter.unusedSimpArgs false
set_option linter.unusedVariables false

def swapA (a : Int × Int) : Int × Int := (a.2, a.1)
def flatA (L : AL) : List Value := flatW (L.map swapA)
theorem flatA_nil : flatA [] = [] := rfl
theorem flatA_cons (a : Int × Int) (L : AL) : flatA (a :: L) = .int .u64 a.2 :: .int .u64 a.1 :: flatA L := rfl
theorem flatA_append (L M : AL) : flatA (L ++ M) = flatA L ++ flatA M := by simp [flatA, flatW_append]
theorem flatA_length (L : AL) : (flatA L).length = L.length * 2 := by simp [flatA, flatW_length]
theorem flatA_get (L : AL) {i : Nat} (hi : i < L.length) : (flatA L)[i * 2]? = some (.int .u64 (L.getD i (0, 0)).2) ∧ (flatA L)[i * 2 + 1]? = some (.int .u64 (L.getD i (0, 0)).1) := by
  have h := flatW_get (L.map swapA) (i := i) (by simpa using hi)
  have e : (L.map swapA).getD i (0, 0) = swapA (L.getD i (0, 0)) := by simp [List.getD, hi]
  rw [e] at h
  exact h
theorem flatA_take (L : AL) (k : Nat) : flatA (L.take k) = (flatA L).take (k * 2) := by simp [flatA, flatW_take]
theorem flatA_drop (L : AL) (k : Nat) : flatA (L.drop k) = (flatA L).drop (k * 2) := by simp [flatA, flatW_drop]
theorem flatA_one (L : AL) : ∀ u ∈ flatA L, u.oneCell' = true := flatW_one _
theorem info_walarm : (Try.prog.info? 65).map (fun i => (i.zero, i.size, i.bytes)) = some (some (.agg #[.int .u64 0, .int .u64 0]), 2, 16) := by kernel_rfl
theorem sal_index {w : World} {A : Option Addr} {n c : Nat} {L : AL} (h : SlV w 65 2 (.slice A n c) n (flatA L)) (hn : L.length = n) {j : Nat} (hj : j < n) :
    ∃ g o, A = some ⟨g, o, none⟩ ∧ (∀ W : World, (Instr.indexAt 57 (.slice A n c) (.int .i64 (j : Int))).run Try.prog W = .ok (.pointer (some ⟨g, o + j * 2, none⟩)) W) ∧
      w.cell? ⟨g, o + j * 2, none⟩ = some (.int .u64 (L.getD j (0, 0)).2) ∧ w.cell? ⟨g, o + j * 2 + 1, none⟩ = some (.int .u64 (L.getD j (0, 0)).1) ∧ g < w.heap.size := by
  obtain ⟨f1, f2⟩ := flatA_get L (i := j) (by omega)
  rcases h with ⟨e, en, _⟩ | ⟨g, o, c', e, C, hg, hC, hl, hnc, hm, hc⟩
  · omega
  · injection e with e1 e2 e3
    subst e1; subst e3
    have hlen := flatA_length L
    have k0 : (0 : Int) ≤ (j : Int) := by omega
    have k1 : (j : Int) < (n : Int) := by omega
    refine ⟨g, o, rfl, fun W => by go_simp, ?_, ?_, lt_of_block hg⟩
    · rw [blk_cell hg, hc _ (by omega), f1]
    · rw [blk_cell hg, Nat.add_assoc, hc _ (by omega), f2]
end Go.Proofs.Ytlpgabbnldalhaa
