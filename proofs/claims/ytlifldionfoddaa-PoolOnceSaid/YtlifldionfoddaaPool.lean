/-
  Pools of ports, plainly: which is taken, until when each rests; what Take, Give, Free, Count, Taken tell and leave. Nothing of the program.
-/
import Derived.Test.YtlifldionfoddaaRd
namespace Go.Proofs.Ytlifldionfoddaa
set_option maxRecDepth 10000
open Go.RowKit

/-- How many below n are so. -/
def cnt (n : Nat) (p : Nat → Bool) : Nat := (List.range n).countP p
theorem cnt_zero (p : Nat → Bool) : cnt 0 p = 0 := rfl
theorem cnt_succ (n : Nat) (p : Nat → Bool) : cnt (n + 1) p = cnt n p + (if p n = true then 1 else 0) := by
  unfold cnt
  rw [List.range_succ, List.countP_append]
  simp [List.countP_cons]
theorem cnt_congr {n : Nat} {p q : Nat → Bool} (h : ∀ i, i < n → p i = q i) : cnt n p = cnt n q := by
  induction n with
  | zero => rfl
  | succ n ih => rw [cnt_succ, cnt_succ, ih (fun i hi => h i (by omega)), h n (by omega)]
theorem cnt_le (n : Nat) (p : Nat → Bool) : cnt n p ≤ n := by
  induction n with
  | zero => exact Nat.le_refl _
  | succ n ih => rw [cnt_succ]; split <;> omega
theorem cnt_false {n : Nat} {p : Nat → Bool} (h : ∀ i, i < n → p i = false) : cnt n p = 0 := by
  induction n with
  | zero => rfl
  | succ n ih => rw [cnt_succ, ih (fun i hi => h i (by omega)), h n (by omega)]; rfl
theorem cnt_true {n : Nat} {p : Nat → Bool} (h : ∀ i, i < n → p i = true) : cnt n p = n := by
  induction n with
  | zero => rfl
  | succ n ih => rw [cnt_succ, ih (fun i hi => h i (by omega)), h n (by omega)]; rfl
/-- One that was not so may be so now. -/
theorem cnt_upd {n j : Nat} {p q : Nat → Bool} (hj : j < n) (hp : p j = false) (h : ∀ i, i < n → i ≠ j → q i = p i) : cnt n q = cnt n p + (if q j = true then 1 else 0) := by
  induction n with
  | zero => omega
  | succ n ih =>
    rw [cnt_succ, cnt_succ]
    by_cases e : j = n
    · subst e
      rw [hp, cnt_congr (fun i hi => h i (by omega) (by omega))]
      simp
    · rw [ih (by omega) (fun i hi hn => h i (by omega) hn), h n (by omega) (fun k => e k.symm)]
      omega
/-- Three ways that are all. -/
theorem cnt_three {n : Nat} {p q r : Nat → Bool} (h : ∀ i, i < n → (p i = true ∧ q i = false ∧ r i = false) ∨ (p i = false ∧ q i = true ∧ r i = false) ∨ (p i = false ∧ q i = false ∧ r i = true)) : cnt n p + cnt n q + cnt n r = n := by
  induction n with
  | zero => rfl
  | succ n ih =>
    have := ih (fun i hi => h i (by omega))
    rw [cnt_succ, cnt_succ, cnt_succ]
    rcases h n (by omega) with ⟨a, b, c⟩ | ⟨a, b, c⟩ | ⟨a, b, c⟩ <;> rw [a, b, c] <;> simp <;> omega
theorem cnt_pos {n : Nat} {p : Nat → Bool} : 0 < cnt n p ↔ ∃ i, i < n ∧ p i = true := by
  unfold cnt
  rw [List.countP_pos_iff]
  constructor
  · rintro ⟨i, hi, hp⟩; exact ⟨i, List.mem_range.1 hi, hp⟩
  · rintro ⟨i, hi, hp⟩; exact ⟨i, List.mem_range.2 hi, hp⟩
/-- The first below n that is so. -/
def fst_ (n : Nat) (p : Nat → Bool) : Option Nat := (List.range n).find? p
theorem fst_none {n : Nat} {p : Nat → Bool} : fst_ n p = none ↔ ∀ i, i < n → p i = false := by
  unfold fst_
  rw [List.find?_eq_none]
  constructor
  · intro h i hi; simpa using h i (List.mem_range.2 hi)
  · intro h i hi; simpa using h i (List.mem_range.1 hi)
theorem fst_some {n j : Nat} {p : Nat → Bool} (hj : j < n) (hp : p j = true) (h : ∀ i, i < j → p i = false) : fst_ n p = some j := by
  unfold fst_
  obtain ⟨m, rfl⟩ : ∃ m, n = j + 1 + m := ⟨n - (j + 1), by omega⟩
  rw [List.range_add, List.find?_append, List.range_succ, List.find?_append]
  rw [show (List.range j).find? p = none from fst_none.2 h]
  simp [hp]
theorem fst_mem {n j : Nat} {p : Nat → Bool} (h : fst_ n p = some j) : j < n ∧ p j = true ∧ ∀ i, i < j → p i = false := by
  have h1 := List.find?_some h
  have h2 := List.mem_range.1 (List.mem_of_find?_eq_some h)
  refine ⟨h2, h1, fun i hi => ?_⟩
  cases hp : p i with
  | false => rfl
  | true =>
    exfalso
    unfold fst_ at h
    have hs : ∃ k, fst_ n p = some k ∧ k ≤ i := by
      clear h h1
      obtain ⟨m, rfl⟩ : ∃ m, n = i + 1 + m := ⟨n - (i + 1), by omega⟩
      unfold fst_
      rw [List.range_add, List.find?_append]
      cases hq : (List.range (i + 1)).find? p with
      | none =>
        have := fst_none.1 hq i (by omega)
        rw [hp] at this; cases this
      | some k => exact ⟨k, rfl, by have := List.mem_range.1 (List.mem_of_find?_eq_some hq); omega⟩
    obtain ⟨k, hk, hki⟩ := hs
    unfold fst_ at hk
    rw [h] at hk
    injection hk with hk
    omega

def bigT : Int := 1099511627776
/-- A pool: the ports from lo on, how many; which is taken; until when each that is not rests. -/
structure AP where
  lo : Int
  n : Nat
  rest : Int
  now : Int
  tk : Nat → Bool
  un : Nat → Int
structure AP.ok (s : AP) : Prop where
  lo : 1 ≤ s.lo
  n : 1 ≤ s.n
  hi : s.lo + s.n ≤ 65536
  rest : 0 ≤ s.rest ∧ s.rest ≤ bigT
  now : 0 ≤ s.now ∧ s.now ≤ bigT
  un : ∀ i, 0 ≤ s.un i ∧ s.un i ≤ bigT + bigT
def newA (lo hi rest : Int) : AP := ⟨lo, (hi - lo + 1).toNat, rest, 0, fun _ => false, fun _ => 0⟩
def badA (lo hi rest : Int) : Bool := decide (lo = 0) || (decide (hi < lo) || decide (bigT < rest))
def atA (s : AP) (t : Int) : AP := { s with now := if s.now < t then t else s.now }
def freeAt (s : AP) (i : Nat) : Bool := !s.tk i && decide (s.un i ≤ s.now)
def firstA (s : AP) : Option Nat := fst_ s.n (freeAt s)
def takeE (s : AP) (t : Int) : Int := if bigT < t then 1 else match firstA (atA s t) with | none => 7 | some _ => 0
def takeP (s : AP) (t : Int) : Int := if bigT < t then 0 else match firstA (atA s t) with | none => 0 | some i => s.lo + i
def takeI (s : AP) (i : Nat) : AP := { s with tk := fun j => decide (j = i) || s.tk j }
def takeA (s : AP) (t : Int) : AP := if bigT < t then s else match firstA (atA s t) with | none => atA s t | some i => takeI (atA s t) i
def takenA (s : AP) (p : Int) : Bool := decide (s.lo ≤ p) && (decide (p < s.lo + s.n) && s.tk (p - s.lo).toNat)
def giveE (s : AP) (p t : Int) : Int := if bigT < t then 1 else if takenA s p = true then 0 else 6
def giveI (s : AP) (i : Nat) : AP := { s with tk := fun j => !decide (j = i) && s.tk j, un := fun j => if j = i then s.now + s.rest else s.un j }
def giveA (s : AP) (p t : Int) : AP := if bigT < t then s else if takenA s p = true then giveI (atA s t) (p - s.lo).toNat else s
def freeN (s : AP) (t : Int) : Nat := if bigT < t then 0 else cnt s.n (freeAt (atA s t))
def freeA (s : AP) (t : Int) : AP := if bigT < t then s else atA s t
def countA (s : AP) : Nat := cnt s.n s.tk
theorem newA_ok {lo hi rest : Int} (h : badA lo hi rest = false) (h0 : 0 ≤ lo) (h1 : hi < 65536) (h2 : 0 ≤ rest) : (newA lo hi rest).ok := by
  unfold badA at h
  simp only [Bool.or_eq_false_iff, decide_eq_false_iff_not] at h
  unfold newA
  refine ⟨by simp only; omega, by simp only; omega, by simp only; omega, ⟨h2, by simp only; omega⟩, ⟨by simp, by simp [bigT]⟩, fun i => ⟨by simp, by simp [bigT]⟩⟩
theorem atA_ok {s : AP} (h : s.ok) {t : Int} (ht : 0 ≤ t) (hb : ¬ bigT < t) : (atA s t).ok := by
  refine ⟨h.lo, h.n, h.hi, h.rest, ?_, h.un⟩
  have := h.now
  unfold atA
  simp only
  split <;> omega
theorem takeI_ok {s : AP} (h : s.ok) (i : Nat) : (takeI s i).ok := ⟨h.lo, h.n, h.hi, h.rest, h.now, h.un⟩
theorem giveI_ok {s : AP} (h : s.ok) (i : Nat) : (giveI s i).ok := by
  refine ⟨h.lo, h.n, h.hi, h.rest, h.now, fun j => ?_⟩
  have := h.un j; have := h.rest; have := h.now
  unfold giveI
  simp only
  split <;> omega
theorem takeA_ok {s : AP} (h : s.ok) {t : Int} (ht : 0 ≤ t) : (takeA s t).ok := by
  unfold takeA
  split
  · exact h
  · split
    · exact atA_ok h ht (by assumption)
    · exact takeI_ok (atA_ok h ht (by assumption)) _
theorem giveA_ok {s : AP} (h : s.ok) (p : Int) {t : Int} (ht : 0 ≤ t) : (giveA s p t).ok := by
  unfold giveA
  split
  · exact h
  · split
    · exact giveI_ok (atA_ok h ht (by assumption)) _
    · exact h
theorem freeA_ok {s : AP} (h : s.ok) {t : Int} (ht : 0 ≤ t) : (freeA s t).ok := by
  unfold freeA
  split
  · exact h
  · exact atA_ok h ht (by assumption)
theorem takenA_at (s : AP) (i : Nat) : takenA s (s.lo + i) = (decide (i < s.n) && s.tk i) := by
  unfold takenA
  rw [show (s.lo + (i : Int) - s.lo).toNat = i by omega]
  by_cases h : i < s.n
  · rw [decide_eq_true (by omega : s.lo ≤ s.lo + (i : Int)), decide_eq_true (by omega : s.lo + (i : Int) < s.lo + s.n), decide_eq_true h]; rfl
  · rw [decide_eq_false (by omega : ¬ s.lo + (i : Int) < s.lo + s.n), decide_eq_false h]; simp
end Go.Proofs.Ytlifldionfoddaa
