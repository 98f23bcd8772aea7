/-
  Bytes, an even number of them: words laid into them, and what that does to their sum. Plain lists: nothing of the program.
-/
import Derived.Test.YtoblllgefmajiaaSumPlain
namespace Go.Proofs.Ytoblllgefmajiaa
set_option maxRecDepth 10000

def wordL (l : List Int) (k : Nat) : Int := l.getD (2 * k) 0 * 256 + l.getD (2 * k + 1) 0
def layL (l : List Int) (k : Nat) (x : Int) : List Int := (l.set (2 * k) (x / 256)).set (2 * k + 1) (x % 256)
def restL (l : List Int) (k : Nat) : Int := ws false l - wordL l k
def evenL (l : List Int) : List Int := l ++ List.replicate (if l.length < 4 then 4 - l.length else l.length % 2) 0

theorem evenL_len (l : List Int) : (evenL l).length % 2 = 0 ∧ 4 ≤ (evenL l).length ∧ (evenL l).length ≤ l.length + 4 := by
  unfold evenL
  rw [List.length_append, List.length_replicate]
  split <;> omega
theorem bytes_rep (k : Nat) : Bytes (List.replicate k 0) := fun x hx => by rw [List.eq_of_mem_replicate hx]; omega
theorem evenL_byte {l : List Int} (h : Bytes l) : Bytes (evenL l) := h.app (bytes_rep _)

theorem ws_set0 (l : List Int) (p : Bool) (i : Nat) (x : Int) (h : i < l.length) : ws p (l.set i x) = ws p l + (if xor p (decide (i % 2 = 1)) then x - l.getD i 0 else 256 * (x - l.getD i 0)) := by
  induction l generalizing p i with
  | nil => simp at h
  | cons y l ih =>
    cases i with
    | zero => cases p <;> simp [ws] <;> omega
    | succ i =>
      have h' : i < l.length := by simpa using h
      have e : decide ((i + 1) % 2 = 1) = !decide (i % 2 = 1) := by
        by_cases hi : i % 2 = 1
        · simp [hi]; omega
        · simp [hi]; omega
      cases p
      · simp only [List.set_cons_succ, ws, ih true i h', List.getD_cons_succ, e]
        cases decide (i % 2 = 1) <;> simp <;> omega
      · simp only [List.set_cons_succ, ws, ih false i h', List.getD_cons_succ, e]
        cases decide (i % 2 = 1) <;> simp <;> omega

theorem layL_len (l : List Int) (k : Nat) (x : Int) : (layL l k x).length = l.length := by simp [layL]
theorem layL_byte {l : List Int} (h : Bytes l) (k : Nat) {x : Int} (hx : U16 x) : Bytes (layL l k x) := by
  unfold U16 at hx
  intro y hy
  rcases List.mem_or_eq_of_mem_set hy with hy | rfl
  · rcases List.mem_or_eq_of_mem_set hy with hy | rfl
    · exact h y hy
    · omega
  · omega
theorem ws_lay (l : List Int) (k : Nat) (x : Int) (h : 2 * k + 1 < l.length) : ws false (layL l k x) = ws false l - wordL l k + x := by
  unfold layL wordL
  rw [ws_set0 _ _ _ _ (by simpa using h), ws_set0 _ _ _ _ (by omega)]
  have e1 : (2 * k + 1) % 2 = 1 := by omega
  have e3 : (l.set (2 * k) (x / 256)).getD (2 * k + 1) 0 = l.getD (2 * k + 1) 0 := by simp [List.getD]
  rw [e3]
  simp [e1]
  omega
theorem wordL_lay_same (l : List Int) (k : Nat) (x : Int) (h : 2 * k + 1 < l.length) : wordL (layL l k x) k = x := by
  unfold layL wordL
  have e1 : ((l.set (2 * k) (x / 256)).set (2 * k + 1) (x % 256)).getD (2 * k) 0 = x / 256 := by
    simp [List.getD, show 2 * k < l.length by omega]
  have e2 : ((l.set (2 * k) (x / 256)).set (2 * k + 1) (x % 256)).getD (2 * k + 1) 0 = x % 256 := by
    simp [List.getD, h]
  rw [e1, e2]
  omega
theorem wordL_lay_other (l : List Int) (k j : Nat) (x : Int) (h : k ≠ j) : wordL (layL l k x) j = wordL l j := by
  unfold layL wordL
  simp [List.getD, show ¬ 2 * k = 2 * j by omega, show ¬ 2 * k + 1 = 2 * j by omega, show ¬ 2 * k = 2 * j + 1 by omega]
theorem wordL_bd {l : List Int} (h : Bytes l) (k : Nat) : U16 (wordL l k) := by
  have hb : ∀ i, 0 ≤ l.getD i 0 ∧ l.getD i 0 < 256 := by
    intro i
    by_cases hj : i < l.length
    · simp only [List.getD, List.getElem?_eq_getElem hj, Option.getD_some]
      exact h _ (List.getElem_mem hj)
    · simp [List.getD, List.getElem?_eq_none (by omega : l.length ≤ i)]
  have h1 := hb (2 * k)
  have h2 := hb (2 * k + 1)
  unfold wordL U16
  omega
theorem ws_zero {l : List Int} (h : Bytes l) (p : Bool) : ws p l = 0 ↔ ∀ i, i < l.length → l.getD i 0 = 0 := by
  induction l generalizing p with
  | nil => simp [ws]
  | cons x l ih =>
    have hx := h x (by simp)
    have hl : Bytes l := fun y hy => h y (by simp [hy])
    have n1 := ws_nn l hl true
    have n2 := ws_nn l hl false
    have key : (∀ i, i < (x :: l).length → (x :: l).getD i 0 = 0) ↔ x = 0 ∧ ∀ i, i < l.length → l.getD i 0 = 0 := by
      constructor
      · intro hh
        exact ⟨by simpa using hh 0 (by simp), fun i hi => by simpa using hh (i + 1) (by simpa using hi)⟩
      · rintro ⟨h0, hh⟩ i hi
        cases i with
        | zero => simpa using h0
        | succ i => simpa using hh i (by simpa using hi)
    rw [key]
    cases p
    · rw [← ih hl true]; simp only [ws]; omega
    · rw [← ih hl false]; simp only [ws]; omega
theorem restL_lay {l : List Int} (k : Nat) (h : 2 * k + 1 < l.length) : restL l k = ws false (layL l k 0) := by
  rw [ws_lay l k 0 h]; unfold restL; omega
theorem restL_nn {l : List Int} (hb : Bytes l) (k : Nat) (h : 2 * k + 1 < l.length) : 0 ≤ restL l k := by
  rw [restL_lay k h]; exact ws_nn _ (layL_byte hb k (by unfold U16; omega)) _
theorem restL_zero {l : List Int} (hb : Bytes l) (k : Nat) (h : 2 * k + 1 < l.length) : restL l k = 0 ↔ ∀ i, i < l.length → l.getD i 0 = 0 ∨ i / 2 = k := by
  rw [restL_lay k h, ws_zero (layL_byte hb k (by unfold U16; omega)), layL_len]
  have e : ∀ i, i < l.length → ((layL l k 0).getD i 0 = 0 ↔ l.getD i 0 = 0 ∨ i / 2 = k) := by
    intro i hi
    unfold layL
    by_cases h1 : i = 2 * k + 1
    · subst h1
      have : (2 * k + 1) / 2 = k := by omega
      simp [List.getD, hi, this]
    · by_cases h2 : i = 2 * k
      · subst h2
        have : (2 * k) / 2 = k := by omega
        simp [List.getD, hi, this]
      · have : ¬ i / 2 = k := by omega
        simp [List.getD, show ¬ 2 * k + 1 = i by omega, show ¬ 2 * k = i by omega, this]
  exact ⟨fun hh i hi => (e i hi).1 (hh i hi), fun hh i hi => (e i hi).2 (hh i hi)⟩
theorem restL_same (l : List Int) (k : Nat) (x : Int) (h : 2 * k + 1 < l.length) : restL (layL l k x) k = restL l k := by
  unfold restL; rw [ws_lay l k x h, wordL_lay_same l k x h]; omega
theorem restL_other (l : List Int) (k j : Nat) (x : Int) (h : 2 * k + 1 < l.length) (hne : k ≠ j) : restL (layL l k x) j = restL l j - wordL l k + x := by
  unfold restL; rw [ws_lay l k x h, wordL_lay_other l k j x hne]; omega
theorem ws_rest (l : List Int) (k : Nat) : ws false l = restL l k + wordL l k := by unfold restL; omega

end Go.Proofs.Ytoblllgefmajiaa
