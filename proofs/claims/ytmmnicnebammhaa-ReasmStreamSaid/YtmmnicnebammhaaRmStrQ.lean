/-
  Plain facts of ReasmStream: pieces of one stream, put and taken. Nothing of the program.
-/
import Derived.Test.YtmmnicnebammhaaRmHalfP
namespace Go.Proofs.Ytmmnicnebammhaa
set_option maxRecDepth 10000
set_option linter.unusedSimpArgs false
set_option linter.unusedVariables false

/-- Of the stream s the first t bytes have been taken; the places P have been put; m is the room at first. -/
structure StrI (s : List Int) (n m t : Nat) (P : Nat → Bool) : Prop where
  len : s.length = n
  lt : ∀ p, P p = true → p < n ∧ p < m
  all : ∀ p, p < t → P p = true
  tn : t ≤ n
  tm : t ≤ m
def addP (P : Nat → Bool) (a b : Nat) : Nat → Bool := fun p => P p || iv a b p
theorem StrI.start (s : List Int) (n m : Nat) (h : s.length = n) : StrI s n m 0 (fun _ => false) := ⟨h, fun p h => (by cases h), fun p h => absurd h (Nat.not_lt_zero p), Nat.zero_le _, Nat.zero_le _⟩
theorem diff_two (f : Int) (a b : Nat) (ha : a < 100000) (hb : b < 100000) : diffB (num32 (f + a)) (num32 (f + b)) = (a : Int) - b := diff_near _ _ _ (by unfold num32; omega) (by omega) (by omega)
theorem num_bd (x : Int) : 0 ≤ num32 x ∧ num32 x < 4294967296 := by unfold num32; omega
theorem addP_same (P : Nat → Bool) (a b : Nat) (h : b ≤ a) : addP P a b = P := by
  funext p
  unfold addP iv
  have : (decide (a ≤ p) && decide (p < b)) = false := by simp; omega
  rw [this, Bool.or_false]
theorem addP_step (P : Nat → Bool) (a b : Nat) (h : a ≤ b) : (fun p => addP P a b p || decide (p = b)) = addP P a (b + 1) := by
  funext p
  unfold addP iv
  rw [Bool.or_assoc]
  congr 1
  rw [Bool.eq_iff_iff]
  simp
  omega
theorem addP_at (P : Nat → Bool) (a b : Nat) : addP P a b b = P b := by unfold addP iv; simp
section
variable {s : List Int} {n m t : Nat} {P : Nat → Bool}
theorem StrI.add (h : StrI s n m t P) {a b : Nat} (hb : b ≤ n) (hm : b ≤ max a m) : StrI s n m t (addP P a b) := by
  refine ⟨h.len, fun p hp => ?_, fun p hp => by unfold addP; rw [h.all p hp]; rfl, h.tn, h.tm⟩
  unfold addP iv at hp
  simp only [Bool.or_eq_true, Bool.and_eq_true, decide_eq_true_eq] at hp
  rcases hp with hp | hp
  · exact h.lt p hp
  · omega
/-- One Put of a piece. -/
theorem str_put (h : StrI s n m t P) (a b : Nat) (hab : a ≤ b) (hb : b ≤ n) (d : Int) (hd : d = (a : Int) - t) (hi : Nat) (hh : hi = max a (min b m)) : ∃ (L' : BL) (k : Nat) (x : Int), putQ d ((s.take b).drop a) (rowS s P t m) = L' ∧ putE d ((s.take b).drop a) (rowS s P t m) = x ∧ putN d ((s.take b).drop a) (rowS s P t m) = k ∧
    ((x = 7 ∧ k = 0 ∧ L' = rowS s P t m) ∨ (x = 0 ∧ L' = rowS s (addP P a hi) t m ∧ k + cntB P m = cntB (addP P a hi) m)) := by
  subst hd
  refine ⟨_, _, _, rfl, rfl, rfl, ?_⟩
  have e : (s.take b).drop a = (s.drop a).take (b - a) := by rw [List.drop_take]
  rw [e]
  have hp : putB ((a : Int) - t) ((s.drop a).take (b - a)) (rowS s P t m) = rowS s (addP P a hi) t m := (put_rowS s P t m a b).trans (rowS_ext (fun p p1 p2 p3 => by
    unfold addP iv
    congr 1
    rw [Bool.eq_iff_iff]
    simp
    omega))
  unfold putE putN putQ
  cases hf : fullB ((a : Int) - t) ((s.drop a).take (b - a)) (rowS s P t m) with
  | true => left; simp
  | false =>
    right
    simp only [Bool.false_eq_true, if_false]
    refine ⟨trivial, hp, ?_⟩
    unfold freshB
    have hle := have_le ((a : Int) - t) ((s.drop a).take (b - a)) (rowS s P t m)
    rw [hp] at hle ⊢
    have I2 := h.add (a := a) (b := hi) (by omega) (by omega)
    have k1 := have_rowS (s := s) (m := m) (fun p hp => by rw [h.len]; exact (h.lt p hp).1) h.all h.tm
    have k2 := have_rowS (s := s) (m := m) (fun p hp => by rw [h.len]; exact (I2.lt p hp).1) I2.all h.tm
    omega
theorem cnt_step (P : Nat → Bool) (a b m : Nat) (hab : a ≤ b) (hm : b < m) : cntB (addP P a (b + 1)) m = cntB (addP P a b) m + (if P b = true then 0 else 1) := by
  rw [← addP_step P a b hab, cnt_set hm, addP_at]
/-- One Take. -/
theorem str_take (h : StrI s n m t P) : ∃ r, readyB (rowS s P t m) = r ∧ takeB (rowS s P t m) = (s.drop t).take r ∧ leftB (rowS s P t m) = rowS s P (t + r) m ∧ StrI s n m (t + r) P ∧ s.take t ++ (s.drop t).take r = s.take (t + r) ∧ ((s.drop t).take r).length = r ∧ (∀ p, p = t + r → P p = false) := by
  obtain ⟨r, hr⟩ : ∃ r, readyB (rowS s P t m) = r := ⟨_, rfl⟩
  obtain ⟨h1, h2⟩ := ready_is (rowS s P t m)
  rw [hr] at h1 h2
  have hP : ∀ p, t ≤ p → p < t + r → P p = true := fun p p1 p2 => by
    have := h1 (p - t) (by omega)
    unfold rowS at this
    rw [isB_rowG, show t + (p - t) = p by omega] at this
    cases hp : P p with
    | true => rfl
    | false => rw [hp] at this; simp at this
  have hlt : r = 0 ∨ (t + r ≤ n ∧ t + r ≤ m) := by
    rcases Nat.eq_zero_or_pos r with e | e
    · exact .inl e
    · have := h.lt (t + r - 1) (hP _ (by omega) (by omega))
      right
      omega
  have tn := h.tn
  have tm := h.tm
  have hstop : P (t + r) = false := by
    cases hp : P (t + r) with
    | false => rfl
    | true =>
      exfalso
      have := h.lt _ hp
      unfold rowS at h2
      rw [isB_rowG, hp, if_pos rfl, List.getElem?_eq_getElem (by rw [h.len]; omega), decide_eq_true (by omega)] at h2
      cases h2
  refine ⟨r, hr, take_rowS hr hP (by rw [h.len]; omega), left_rowS hr, ⟨h.len, h.lt, fun p hp => ?_, by omega, by omega⟩, ?_, ?_, fun p hp => by rw [hp]; exact hstop⟩
  · by_cases e : p < t
    · exact h.all p e
    · exact hP p (by omega) hp
  · rw [← List.take_add]
  · rw [List.length_take, List.length_drop, h.len]
    omega
/-- Behind the last Take nothing is ready. -/
theorem str_rest (h : StrI s n m t P) (hp : P t = false) : readyB (rowS s P t m) = 0 ∧ takeB (rowS s P t m) = [] := by
  have hr : readyB (rowS s P t m) = 0 := ready_rowS (fun p _ h => by omega) (by rw [h.len]; exact h.tn) h.tm (fun _ _ => hp)
  refine ⟨hr, ?_⟩
  have := take_len (rowS s P t m)
  rw [hr] at this
  exact List.eq_nil_of_length_eq_zero this
end
end Go.Proofs.Ytmmnicnebammhaa
