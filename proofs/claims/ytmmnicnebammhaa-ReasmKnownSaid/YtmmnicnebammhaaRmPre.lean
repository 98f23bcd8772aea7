/-
  Pieces told one by one ('preH': those that begin ahead of a place); bytes counted from a place on.
-/
import Derived.Test.YtmmnicnebammhaaRmFace
import Derived.Test.YtmmnicnebammhaaRmHalfP
namespace Go.Proofs.Ytmmnicnebammhaa
set_option maxRecDepth 10000
open Go.RowKit
set_option linter.unusedSimpArgs false
set_option linter.unusedVariables false

theorem info_pair : (Try.prog.info? 60).map (fun i => (i.zero, i.size, i.bytes)) = some (some (.agg #[.int .u32 0, .int .u32 0]), 2, 8) := by kernel_rfl
def preH (at_ : Int) (L : BL) (i : Nat) : List (Int × Int) := ((List.range i).filter (beginB L)).map (fun j => (num32 (at_ + (j : Nat)), num32 (at_ + ((j + readyB (L.drop j) : Nat) : Int))))
theorem preH_all (at_ : Int) (L : BL) : heldI at_ L = preH at_ L L.length := by
  unfold heldI heldB preH
  rw [List.map_map]
  rfl
theorem preH_no {at_ : Int} {L : BL} {i : Nat} (h : beginB L i = false) : preH at_ L (i + 1) = preH at_ L i := by
  unfold preH
  simp [List.range_succ, List.filter_append, h]
theorem preH_yes {at_ : Int} {L : BL} {i : Nat} (h : beginB L i = true) : preH at_ L (i + 1) = preH at_ L i ++ [(num32 (at_ + (i : Nat)), num32 (at_ + ((i + readyB (L.drop i) : Nat) : Int)))] := by
  unfold preH
  simp [List.range_succ, List.filter_append, h]
theorem preH_le (at_ : Int) (L : BL) (i : Nat) : (preH at_ L i).length ≤ i := by
  unfold preH
  rw [List.length_map]
  have := List.length_filter_le (beginB L) (List.range i)
  rw [List.length_range] at this
  exact this
theorem preH_one (at_ : Int) (L : BL) : preH at_ L 1 = [] := by
  have h : beginB L 0 = false := by unfold beginB; simp
  rw [preH_no h]
  rfl
theorem flat2_app (a b : List (Int × Int)) : flat2 (a ++ b) = flat2 a ++ flat2 b := by unfold flat2; rw [List.flatMap_append]
theorem w32R (x : Nat) (h : x ≤ 1000000) : IntKind.u32.wrap (x : Int) = x := by rw [IntKind.wrap_u32]; omega
theorem num32R (x : Int) : IntKind.u32.wrap x = num32 x := by rw [IntKind.wrap_u32]; unfold num32; rfl
theorem preH_skip {at_ : Int} {L : BL} {i : Nat} : ∀ k, i ≤ k → (∀ p, i ≤ p → p < k → beginB L p = false) → preH at_ L k = preH at_ L i := by
  intro k
  induction k with
  | zero => intro h _; rw [show i = 0 by omega]
  | succ k ih =>
    intro h hb
    by_cases e : i = k + 1
    · rw [e]
    · rw [preH_no (hb k (by omega) (by omega)), ih (by omega) (fun p h1 h2 => hb p h1 (by omega))]
theorem have_ready (L : BL) : haveB L = readyB L + haveB (L.drop (readyB L)) := by
  induction L with
  | nil => simp [haveB, readyB]
  | cons o l ih =>
    cases o with
    | none => simp [haveB, readyB]
    | some x =>
      unfold haveB at ih ⊢
      simp only [readyB, List.countP_cons, List.drop_succ_cons, Option.isSome_some, if_true]
      omega
theorem have_next {L : BL} {i : Nat} (h : isB L i = false) : haveB (L.drop i) = haveB (L.drop (i + 1)) := by
  by_cases hi : i < L.length
  · rw [List.drop_eq_getElem_cons hi]
    unfold isB at h
    rw [List.getD, List.getElem?_eq_getElem hi] at h
    have h : L[i].isSome = false := h
    unfold haveB
    rw [List.countP_cons, h]
    simp
  · rw [List.drop_eq_nil_of_le (by omega), List.drop_eq_nil_of_le (by omega)]
theorem have_none {L : BL} {i : Nat} (h : haveB (L.drop i) = 0) : ∀ p, i ≤ p → isB L p = false := by
  intro p hp
  cases hb : isB L p with
  | false => rfl
  | true =>
    obtain ⟨x, hx⟩ := (isB_get L p).1 hb
    have hm : some x ∈ L.drop i := by
      refine List.mem_of_getElem? (i := p - i) ?_
      rw [List.getElem?_drop, show i + (p - i) = p by omega]
      exact hx
    unfold haveB at h
    have := List.countP_eq_zero.1 h _ hm
    simp at this
theorem have_lt {L : BL} {i : Nat} (h : 0 < haveB (L.drop i)) : i < L.length := by
  rcases Nat.lt_or_ge i L.length with h1 | h1
  · exact h1
  · rw [List.drop_eq_nil_of_le h1] at h
    simp [haveB] at h
theorem have_len (L : BL) : haveB L ≤ L.length := List.countP_le_length
theorem ready_run {L : BL} {i : Nat} : (∀ p, i ≤ p → p < i + readyB (L.drop i) → isB L p = true) ∧ isB L (i + readyB (L.drop i)) = false := by
  obtain ⟨h1, h2⟩ := ready_is (L.drop i)
  rw [isB_drop] at h2
  refine ⟨fun p hp hq => ?_, h2⟩
  have := h1 (p - i) (by omega)
  rw [isB_drop, show i + (p - i) = p by omega] at this
  exact this
theorem ready_zero {L : BL} {i : Nat} (h : readyB (L.drop i) = 0) : isB L i = false := by
  have := (ready_run (L := L) (i := i)).2
  rw [h] at this
  exact this
theorem begin_run {L : BL} {i : Nat} : ∀ p, i + 1 ≤ p → p < i + readyB (L.drop i) → beginB L p = false := by
  intro p h1 h2
  have := (ready_run (L := L) (i := i)).1 (p - 1) (by omega) (by omega)
  unfold beginB
  rw [this]
  simp
theorem preH_zero (at_ : Int) (L : BL) : preH at_ L 0 = [] := rfl
theorem begin_zero (L : BL) : beginB L 0 = false := by unfold beginB; simp
end Go.Proofs.Ytmmnicnebammhaa
