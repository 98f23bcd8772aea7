/-
  What a buffer has of one stream: some of its places, from one on up to an end. Nothing of the program.
-/
import Derived.Test.YtmmnicnebammhaaRmP
namespace Go.Proofs.Ytmmnicnebammhaa
set_option maxRecDepth 10000
set_option linter.unusedSimpArgs false
set_option linter.unusedVariables false

def rowG (F : Nat → Option Int) (t m : Nat) : BL := (List.range (m - t)).map (fun i => F (t + i))
theorem rowG_len (F : Nat → Option Int) (t m : Nat) : (rowG F t m).length = m - t := by unfold rowG; simp
theorem rowG_get (F : Nat → Option Int) (t m i : Nat) : (rowG F t m)[i]? = if i < m - t then some (F (t + i)) else none := by
  unfold rowG
  rw [List.getElem?_map]
  by_cases h : i < m - t
  · rw [if_pos h, List.getElem?_range h]; rfl
  · rw [if_neg h, List.getElem?_eq_none (by simp; omega)]; rfl
theorem rowG_ext {F G : Nat → Option Int} {t m : Nat} (h : ∀ p, t ≤ p → p < m → F p = G p) : rowG F t m = rowG G t m := by
  apply List.ext_getElem?
  intro i
  rw [rowG_get, rowG_get]
  by_cases hi : i < m - t
  · rw [if_pos hi, if_pos hi, h _ (by omega) (by omega)]
  · rw [if_neg hi, if_neg hi]
theorem row_none (m : Nat) : List.replicate m none = rowG (fun _ => none) 0 m := by
  apply List.ext_getElem?
  intro i
  rw [rowG_get, List.getElem?_replicate]
  simp
theorem put_rowG (F : Nat → Option Int) (t m from_ : Nat) (data : List Int) : putB ((from_ : Int) - t) data (rowG F t m) = rowG (fun p => (F p).or (if from_ ≤ p then data[p - from_]? else none)) t m := by
  apply List.ext_getElem?
  intro i
  rw [put_get, rowG_get, rowG_get]
  by_cases hi : i < m - t
  · rw [if_pos hi, if_pos hi]
    simp only [Option.map_some]
    congr 2
    unfold pickB
    by_cases h : from_ ≤ t + i
    · rw [if_pos (by omega), if_pos h]
      congr 1
      omega
    · rw [if_neg (by omega), if_neg h]
  · rw [if_neg hi, if_neg hi]
    rfl
theorem isB_rowG (F : Nat → Option Int) (t m i : Nat) : isB (rowG F t m) i = (decide (i < m - t) && (F (t + i)).isSome) := by
  unfold isB
  rw [List.getD, rowG_get]
  by_cases hi : i < m - t
  · rw [if_pos hi]; simp [hi]
  · rw [if_neg hi]; simp [hi]
theorem ready_rowG {F : Nat → Option Int} {t m r : Nat} (h1 : ∀ p, t ≤ p → p < t + r → (F p).isSome = true) (h2 : t + r ≤ m) (h3 : t + r < m → F (t + r) = none) : readyB (rowG F t m) = r := by
  refine ready_of (fun i hi => ?_) ?_
  · rw [isB_rowG, h1 (t + i) (by omega) (by omega), Bool.and_true]
    exact decide_eq_true (by omega)
  · rw [isB_rowG]
    by_cases h : r < m - t
    · rw [h3 (by omega)]
      simp
    · rw [decide_eq_false h]
      rfl
theorem left_rowG {F : Nat → Option Int} {t m r : Nat} (h : readyB (rowG F t m) = r) : leftB (rowG F t m) = rowG F (t + r) m := by
  unfold leftB
  rw [h]
  apply List.ext_getElem?
  intro i
  rw [List.getElem?_drop, rowG_get, rowG_get]
  by_cases hi : r + i < m - t
  · rw [if_pos hi, if_pos (by omega), Nat.add_assoc]
  · rw [if_neg hi, if_neg (by omega)]
theorem take_rowG {F : Nat → Option Int} {t m r : Nat} (h : readyB (rowG F t m) = r) : takeB (rowG F t m) = (List.range r).map (fun i => (F (t + i)).getD 0) := by
  have hle := ready_le (rowG F t m)
  rw [h, rowG_len] at hle
  unfold takeB
  rw [h]
  apply List.ext_getElem?
  intro i
  rw [List.getElem?_map, List.getElem?_map]
  by_cases hi : i < r
  · rw [List.getElem?_take_of_lt hi, rowG_get, if_pos (by omega), List.getElem?_range hi]
    rfl
  · rw [List.getElem?_eq_none (by rw [List.length_take, rowG_len]; omega), List.getElem?_eq_none (by simp; omega)]
    rfl
/-- Of the stream s: the places P. -/
def rowS (s : List Int) (P : Nat → Bool) (t m : Nat) : BL := rowG (fun p => if P p = true then s[p]? else none) t m
def cntB (P : Nat → Bool) (n : Nat) : Nat := (List.range n).countP P
theorem rowS_none (s : List Int) (m : Nat) : List.replicate m none = rowS s (fun _ => false) 0 m := by
  rw [row_none]
  exact rowG_ext (fun p _ _ => by simp)
theorem rowS_len (s : List Int) (P : Nat → Bool) (t m : Nat) : (rowS s P t m).length = m - t := rowG_len _ _ _
theorem rowS_ext {s : List Int} {P Q : Nat → Bool} {t m : Nat} (h : ∀ p, t ≤ p → p < m → p < s.length → P p = Q p) : rowS s P t m = rowS s Q t m := by
  refine rowG_ext (fun p h1 h2 => ?_)
  by_cases hp : p < s.length
  · rw [h p h1 h2 hp]
  · rw [List.getElem?_eq_none (by omega)]
    simp
theorem piece_get {s : List Int} {from_ to p : Nat} (h1 : from_ ≤ p) : ((s.drop from_).take (to - from_))[p - from_]? = if p < to then s[p]? else none := by
  rw [List.getElem?_take]
  by_cases h : p < to
  · rw [if_pos h, if_pos (by omega), List.getElem?_drop, Nat.add_sub_cancel' h1]
  · rw [if_neg h, if_neg (by omega)]
theorem put_rowS (s : List Int) (P : Nat → Bool) (t m from_ to : Nat) : putB ((from_ : Int) - t) ((s.drop from_).take (to - from_)) (rowS s P t m) = rowS s (fun p => P p || (decide (from_ ≤ p) && decide (p < to))) t m := by
  unfold rowS
  rw [put_rowG]
  refine rowG_ext (fun p _ _ => ?_)
  show (if P p = true then s[p]? else none).or (if from_ ≤ p then ((s.drop from_).take (to - from_))[p - from_]? else none) = if (P p || (decide (from_ ≤ p) && decide (p < to))) = true then s[p]? else none
  cases hP : P p with
  | true =>
    simp only [if_true, Bool.true_or]
    cases h : s[p]? with
    | some x => rfl
    | none =>
      rw [Option.none_or]
      by_cases h1 : from_ ≤ p
      · rw [if_pos h1, piece_get h1, h]
        split <;> rfl
      · rw [if_neg h1]
  | false =>
    simp only [Bool.false_eq_true, if_false, Option.none_or, Bool.false_or]
    by_cases h1 : from_ ≤ p
    · rw [if_pos h1, piece_get h1]
      by_cases h2 : p < to
      · rw [if_pos h2]; simp [h1, h2]
      · rw [if_neg h2]; simp [h2]
    · rw [if_neg h1]; simp [h1]
theorem cnt_all {P : Nat → Bool} {n : Nat} (h : ∀ p, p < n → P p = true) : cntB P n = n := by
  unfold cntB
  have : (List.range n).countP P = (List.range n).length := List.countP_eq_length.2 (fun p hp => h p (by simpa using hp))
  rw [this, List.length_range]
theorem cnt_add (P : Nat → Bool) (a b : Nat) : cntB P (a + b) = cntB P a + (List.range b).countP (fun i => P (a + i)) := by
  unfold cntB
  rw [List.range_add, List.countP_append, List.countP_map]
  rfl
theorem cnt_le (P : Nat → Bool) (n : Nat) : cntB P n ≤ n := by
  unfold cntB
  have := List.countP_le_length (p := P) (l := List.range n)
  simpa using this
/-- One place more. -/
theorem cnt_set {P : Nat → Bool} {k n : Nat} (hk : k < n) : cntB (fun p => P p || decide (p = k)) n = cntB P n + (if P k = true then 0 else 1) := by
  unfold cntB
  induction n with
  | zero => omega
  | succ n ih =>
    rw [List.range_succ, List.countP_append, List.countP_append, List.countP_singleton, List.countP_singleton]
    by_cases h : k = n
    · subst h
      have h1 : (List.range k).countP (fun p => P p || decide (p = k)) = (List.range k).countP P := by
        refine List.countP_congr (fun p hp => ?_)
        simp only [List.mem_range] at hp
        have : ¬ p = k := by omega
        simp [this]
      rw [h1]
      cases P k <;> simp
    · have := ih (by omega)
      have h2 : ¬ n = k := fun e => h e.symm
      rw [this]
      simp only [h2, decide_false, Bool.or_false]
      omega
theorem have_rowS {s : List Int} {P : Nat → Bool} {t m : Nat} (h1 : ∀ p, P p = true → p < s.length) (h2 : ∀ p, p < t → P p = true) (h3 : t ≤ m) : haveB (rowS s P t m) + t = cntB P m := by
  have e : m = t + (m - t) := by omega
  have hc := cnt_add P t (m - t)
  rw [← e, cnt_all h2] at hc
  have hh : haveB (rowS s P t m) = (List.range (m - t)).countP (fun i => P (t + i)) := by
    unfold haveB rowS rowG
    rw [List.countP_map]
    refine List.countP_congr (fun i _ => ?_)
    simp only [Function.comp]
    cases hp : P (t + i) with
    | true => simp [h1 _ hp]
    | false => simp
  omega
end Go.Proofs.Ytmmnicnebammhaa
