/-
  Alarms in a row, plainly: by instants, then ids; what Set, Stop, At, Next, Tick leave and tell. Nothing of the program.
-/
import Derived.Test.YtlpgabbnldalhaaSlV
namespace Go.Proofs.Ytlpgabbnldalhaa
set_option maxRecDepth 10000
open Go.RowKit
set_option linter.unusedSimpArgs false
set_option linter.unusedVariables false

/-- Alarms: ids, and when. -/
abbrev AL := List (Int × Int)
def stopW (id : Int) (L : AL) : AL := L.filter (fun a => !decide (a.1 = id))
def ltW (id at_ : Int) (a : Int × Int) : Bool := decide (a.2 < at_) || (decide (a.2 = at_) && decide (a.1 < id))
def insW (id at_ : Int) (L : AL) : AL := L.takeWhile (ltW id at_) ++ (id, at_) :: L.dropWhile (ltW id at_)
def setW (id at_ : Int) (L : AL) : AL := insW id at_ (stopW id L)
def atW (id : Int) (L : AL) : Option (Int × Int) := L.find? (fun a => decide (a.1 = id))
def dueW (now : Int) (L : AL) : AL := L.takeWhile (fun a => decide (a.2 ≤ now))
def leftW (now : Int) (L : AL) : AL := L.dropWhile (fun a => decide (a.2 ≤ now))
def nextW : AL → Int × Bool
  | [] => (0, false)
  | a :: _ => (a.2, true)
def flatW (L : AL) : List Value := L.flatMap (fun a => [.int .u64 a.1, .int .u64 a.2])
theorem flatW_nil : flatW [] = [] := rfl
theorem flatW_cons (a : Int × Int) (L : AL) : flatW (a :: L) = .int .u64 a.1 :: .int .u64 a.2 :: flatW L := rfl
theorem flatW_append (L M : AL) : flatW (L ++ M) = flatW L ++ flatW M := by simp [flatW]
theorem flatW_length (L : AL) : (flatW L).length = L.length * 2 := by
  induction L with
  | nil => rfl
  | cons a L ih => rw [flatW_cons]; simp only [List.length_cons, ih]; omega
theorem flatW_get (L : AL) {i : Nat} (hi : i < L.length) : (flatW L)[i * 2]? = some (.int .u64 (L.getD i (0, 0)).1) ∧ (flatW L)[i * 2 + 1]? = some (.int .u64 (L.getD i (0, 0)).2) := by
  induction L generalizing i with
  | nil => simp at hi
  | cons a L ih =>
    rw [flatW_cons]
    cases i with
    | zero => exact ⟨rfl, rfl⟩
    | succ i =>
      simp only [List.length_cons] at hi
      have := ih (i := i) (by omega)
      rw [show (i + 1) * 2 = i * 2 + 1 + 1 by omega]
      simpa using this
theorem flatW_take (L : AL) (k : Nat) : flatW (L.take k) = (flatW L).take (k * 2) := by
  induction L generalizing k with
  | nil => simp [flatW_nil]
  | cons a L ih =>
    cases k with
    | zero => simp [flatW_nil]
    | succ k =>
      rw [List.take_succ_cons, flatW_cons, flatW_cons, ih, show (k + 1) * 2 = k * 2 + 1 + 1 by omega]
      rfl
theorem flatW_drop (L : AL) (k : Nat) : flatW (L.drop k) = (flatW L).drop (k * 2) := by
  induction L generalizing k with
  | nil => simp [flatW_nil]
  | cons a L ih =>
    cases k with
    | zero => simp
    | succ k =>
      rw [List.drop_succ_cons, flatW_cons, ih, show (k + 1) * 2 = k * 2 + 1 + 1 by omega]
      rfl
theorem flatW_one (L : AL) : ∀ u ∈ flatW L, u.oneCell' = true := by
  intro u hu
  unfold flatW at hu
  obtain ⟨a, _, ha⟩ := List.mem_flatMap.1 hu
  simp only [List.mem_cons, List.not_mem_nil, or_false] at ha
  rcases ha with rfl | rfl <;> rfl
theorem filter_take_succ {p : Int × Int → Bool} (L : AL) {j : Nat} (hj : j < L.length) : (L.take (j + 1)).filter p = (L.take j).filter p ++ (if p (L.getD j (0, 0)) = true then [L.getD j (0, 0)] else []) := by
  rw [List.take_succ_eq_append_getElem hj, List.filter_append]
  have e : L[j] = L.getD j (0, 0) := by simp [List.getD, List.getElem?_eq_getElem hj]
  rw [e]
  congr 1
  generalize List.getD L j (0, 0) = x
  cases h : p x <;> simp [h]
/-- The first j are so, the next one is not: how far takeWhile goes. -/
theorem takeWhile_at {p : Int × Int → Bool} (L : AL) {j : Nat} (hj : j ≤ L.length) (h : ∀ i, i < j → p (L.getD i (0, 0)) = true) (hn : j = L.length ∨ p (L.getD j (0, 0)) = false) : L.takeWhile p = L.take j ∧ L.dropWhile p = L.drop j := by
  induction L generalizing j with
  | nil => simp at hj; subst hj; simp
  | cons a L ih =>
    cases j with
    | zero =>
      rcases hn with hn | hn
      · simp at hn
      · have : p a = false := hn
        simp [this]
    | succ j =>
      have h0 : p a = true := h 0 (by omega)
      simp only [List.length_cons] at hj hn
      have := ih (j := j) (by omega) (fun i hi => by have := h (i + 1) (by omega); simpa using this) (by
        rcases hn with hn | hn
        · exact .inl (by omega)
        · exact .inr (by simpa using hn))
      simp [h0, this.1, this.2]
end Go.Proofs.Ytlpgabbnldalhaa
