/-
  When bytes make a piece more ('Alone'); the part of the bytes that Cut leaves. Nothing of the program.
-/
import Derived.Test.YtmmnicnebammhaaRmPutP
import Derived.Test.YtmmnicnebammhaaSeqRd
namespace Go.Proofs.Ytmmnicnebammhaa
set_option maxRecDepth 10000
set_option linter.unusedSimpArgs false
set_option linter.unusedVariables false

/-- Bytes from place i up to place j would touch no piece, and do not begin at the front. -/
def Alone (L : BL) (i j : Nat) : Prop := 0 < i ∧ ∀ k, i - 1 ≤ k → k ≤ j → isB L k = false
theorem isB_lay {i j : Nat} {part : List Int} {L : BL} (hj : j = i + part.length) (hjl : j ≤ L.length) (p : Nat) : isB (putB (i : Int) part L) p = (isB L p || decide (i ≤ p ∧ p < j)) := by
  rw [isB_put, pick_is]
  congr 1
  by_cases h : i ≤ p ∧ p < j
  · rw [decide_eq_true h, decide_eq_true (by omega), decide_eq_true (by omega)]
    rfl
  · rw [decide_eq_false h]
    by_cases h2 : p < L.length
    · rw [decide_eq_false (p := (i : Int) ≤ (p : Int) ∧ (p : Int) - (i : Int) < (part.length : Int)) (by omega)]
      simp
    · rw [decide_eq_false h2]
      rfl
theorem count_two (p q : Nat → Bool) (k : Nat) (hq : q k = true) (l : List Nat) : l.countP (fun x => q x && decide (x ≠ k)) + l.countP (fun x => decide (x = k)) ≤ l.countP q := by
  induction l with
  | nil => simp
  | cons x l ih =>
    simp only [List.countP_cons]
    by_cases e : x = k
    · subst e
      rw [hq]
      simp
      simp at ih
      omega
    · simp [e]
      simp at ih
      cases q x <;> simp <;> omega
theorem count_or (q : Nat → Bool) (i : Nat) (l : List Nat) : l.countP (fun x => q x || decide (x = i)) ≤ l.countP q + l.countP (fun x => decide (x = i)) := by
  induction l with
  | nil => simp
  | cons x l ih =>
    simp only [List.countP_cons]
    cases q x <;> cases decide (x = i) <;> simp <;> omega
theorem count_is (k n : Nat) (h : k < n) : 1 ≤ (List.range n).countP (fun x => decide (x = k)) := by
  have : 0 < (List.range n).countP (fun x => decide (x = k)) := List.countP_pos_iff.2 ⟨k, by simpa using h, by simp⟩
  exact this
theorem count_ex {p q : Nat → Bool} {n k i : Nat} (hk : k < n) (hq : q k = true) (h : ∀ x, x < n → p x = true → (q x = true ∧ x ≠ k) ∨ x = i) : (List.range n).countP p ≤ (List.range n).countP q := by
  have h1 : (List.range n).countP p ≤ (List.range n).countP (fun x => (q x && decide (x ≠ k)) || decide (x = i)) := countP_imp _ _ _ (fun x hx hp => by
    simp only [List.mem_range] at hx
    rcases h x hx hp with ⟨h2, h3⟩ | h2
    · simp [h2, h3]
    · simp [h2])
  have h2 := count_or (fun x => q x && decide (x ≠ k)) i (List.range n)
  have h3 := count_one i n
  have h4 := count_two p q k hq (List.range n)
  have h5 := count_is k n hk
  omega
section
variable {i j : Nat} {part : List Int} {L : BL}
theorem begin_lay (hj : j = i + part.length) (hjl : j ≤ L.length) {p : Nat} (h : beginB (putB (i : Int) part L) p = true) : (beginB L p = true ∧ ¬ (i < p ∧ p ≤ j)) ∨ (p = i ∧ 0 < i ∧ isB L (i - 1) = false) := by
  unfold beginB at h ⊢
  simp only [Bool.and_eq_true, decide_eq_true_eq, Bool.not_eq_true', isB_lay hj hjl, Bool.or_eq_true, Bool.or_eq_false_iff, decide_eq_false_iff_not] at h ⊢
  obtain ⟨h0, h1, h2, h3⟩ := h
  by_cases e : p = i
  · subst e
    exact .inr ⟨rfl, h0, h2⟩
  · refine .inl ⟨⟨h0, ?_, h2⟩, by omega⟩
    rcases h1 with h1 | h1
    · exact h1
    · omega
/-- No piece more. -/
theorem held_same (hj : j = i + part.length) (hjl : j ≤ L.length) (hne : 0 < part.length) (h : ¬ Alone L i j) : (heldB (putB (i : Int) part L)).length ≤ (heldB L).length := by
  rw [held_len, held_len, put_len]
  by_cases h1 : 0 < i ∧ isB L (i - 1) = false
  · obtain ⟨h0, h1⟩ := h1
    have hex : ∃ k, i ≤ k ∧ k ≤ j ∧ isB L k = true ∧ isB L (k - 1) = false := by
      have key : ∀ n, (∀ k, i ≤ k → k < i + n → isB L k = false) ∨ ∃ k, i ≤ k ∧ k < i + n ∧ isB L k = true ∧ isB L (k - 1) = false := by
        intro n
        induction n with
        | zero => exact .inl (fun k h1 h2 => by omega)
        | succ n ih =>
          rcases ih with ih | ⟨k, h2, h3, h4⟩
          · cases hb : isB L (i + n) with
            | false =>
              refine .inl (fun k h2 h3 => ?_)
              by_cases e : k = i + n
              · rw [e]; exact hb
              · exact ih k h2 (by omega)
            | true =>
              refine .inr ⟨i + n, by omega, by omega, hb, ?_⟩
              by_cases e : n = 0
              · subst e; exact h1
              · rw [show i + n - 1 = i + (n - 1) by omega]
                exact ih _ (by omega) (by omega)
          · exact .inr ⟨k, h2, by omega, h4⟩
      rcases key (j + 1 - i) with h2 | ⟨k, h2, h3, h4⟩
      · refine absurd ⟨h0, fun k h3 h4 => ?_⟩ h
        by_cases e : k = i - 1
        · rw [e]; exact h1
        · exact h2 k (by omega) (by omega)
      · exact ⟨k, h2, by omega, h4⟩
    obtain ⟨k, h2, h3, h4, h5⟩ := hex
    have hkb : beginB L k = true := by
      unfold beginB
      rw [h4, h5, decide_eq_true (show 0 < k by omega)]
      rfl
    refine count_ex (k := k) (i := i) (isB_lt h4) hkb (fun x hx hp => ?_)
    rcases begin_lay hj hjl hp with ⟨q1, q2⟩ | ⟨q1, _⟩
    · by_cases e : x = i
      · exact .inr e
      · exact .inl ⟨q1, fun e2 => q2 (by omega)⟩
    · exact .inr q1
  · refine countP_imp _ _ _ (fun x hx hp => ?_)
    rcases begin_lay hj hjl hp with ⟨q1, _⟩ | ⟨_, q2⟩
    · exact q1
    · exact absurd q2 h1
/-- A piece more. -/
theorem held_more (hj : j = i + part.length) (hjl : j ≤ L.length) (hne : 0 < part.length) (h : Alone L i j) : (heldB L).length + 1 ≤ (heldB (putB (i : Int) part L)).length := by
  rw [held_len, held_len, put_len]
  obtain ⟨h0, h1⟩ := h
  have hi : beginB L i = false := by
    unfold beginB
    rw [h1 i (by omega) (by omega)]
    simp
  have h2 : (List.range L.length).countP (fun x => beginB L x || decide (x = i)) ≤ (List.range L.length).countP (beginB (putB (i : Int) part L)) := countP_imp _ _ _ (fun x hx hp => by
    simp only [List.mem_range] at hx
    unfold beginB
    simp only [Bool.and_eq_true, decide_eq_true_eq, Bool.not_eq_true', isB_lay hj hjl, Bool.or_eq_true, Bool.or_eq_false_iff, decide_eq_false_iff_not] at hp ⊢
    rcases hp with hp | rfl
    · unfold beginB at hp
      simp only [Bool.and_eq_true, decide_eq_true_eq, Bool.not_eq_true'] at hp
      obtain ⟨q0, q1, q2⟩ := hp
      refine ⟨q0, .inl q1, q2, fun q3 => ?_⟩
      have := h1 x (by omega) (by omega)
      rw [q1] at this
      cases this
    · exact ⟨h0, .inr ⟨by omega, by omega⟩, h1 _ (by omega) (by omega), by omega⟩)
  have h3 : (List.range L.length).countP (beginB L) + (List.range L.length).countP (fun x => decide (x = i)) ≤ (List.range L.length).countP (fun x => beginB L x || decide (x = i)) := by
    have := count_two (fun _ => true) (fun x => beginB L x || decide (x = i)) i (by simp) (List.range L.length)
    have h4 : (List.range L.length).countP (beginB L) ≤ (List.range L.length).countP (fun x => (beginB L x || decide (x = i)) && decide (x ≠ i)) := countP_imp _ _ _ (fun x hx hp => by
      have : x ≠ i := fun e => by rw [e, hi] at hp; cases hp
      simp [hp, this])
    omega
  have h4 := count_is i L.length (by omega)
  omega
end
theorem full_is {i j : Nat} {part : List Int} {L : BL} (hj : j = i + part.length) (hjl : j ≤ L.length) (hz : part = [] → i = 0) (hh : (heldB L).length ≤ 16) : fullB (i : Int) part L = true ↔ Alone L i j ∧ (heldB L).length = 16 := by
  unfold fullB
  rw [decide_eq_true_eq]
  by_cases he : part = []
  · have := hz he
    subst this
    subst he
    have e : putB ((0 : Nat) : Int) [] L = L := put_zero _ [] L
    rw [e]
    refine ⟨fun h => absurd h (by omega), fun h => absurd h.1.1 (by omega)⟩
  · have hne : 0 < part.length := List.length_pos_iff.2 he
    constructor
    · intro h
      by_cases ha : Alone L i j
      · refine ⟨ha, ?_⟩
        have := holes_put (i : Int) part L
        omega
      · have := held_same hj hjl hne ha
        omega
    · rintro ⟨h1, h2⟩
      have := held_more hj hjl hne h1
      omega
theorem diff_ahead (a at_ : Int) : sAhead at_ a = diffB a at_ := by
  unfold sAhead diffB num32
  split <;> omega
/-- What Cut leaves of the bytes is laid just as the bytes themselves. -/
theorem cut_put (a at_ : Int) (data : List Int) (L : BL) (hL : L.length ≤ 16384) :
    ∃ i : Nat, sAhead at_ (cutFrom a at_ (L.length : Int) data) = (i : Int) ∧ i + (cutBytes a at_ (L.length : Int) data).length ≤ L.length ∧ putB (diffB a at_) data L = putB (i : Int) (cutBytes a at_ (L.length : Int) data) L ∧ (cutBytes a at_ (L.length : Int) data = [] → i = 0) := by
  unfold cutFrom cutBytes
  obtain ⟨s, es⟩ : ∃ s, diffB a at_ = s := ⟨_, rfl⟩
  have hs := diff_ahead a at_
  rw [es] at hs ⊢
  rw [hs]
  obtain ⟨n, en⟩ : ∃ n, data.length = n := ⟨_, rfl⟩
  rw [en]
  obtain ⟨lo, elo⟩ : ∃ lo, pl (0 - s) n = lo := ⟨_, rfl⟩
  obtain ⟨hi, ehi⟩ : ∃ hi, pl (min (L.length : Int) 2147483647 - s) n = hi := ⟨_, rfl⟩
  rw [elo, ehi]
  have hpl := pl_mono (x := 0 - s) (y := min (L.length : Int) 2147483647 - s) n (by omega)
  rw [elo, ehi] at hpl
  unfold pl at elo ehi
  by_cases e : lo = hi
  · rw [if_pos e, e, Nat.sub_self, List.take_zero]
    refine ⟨0, by unfold sAhead; omega, by simp, ?_, fun _ => rfl⟩
    apply List.ext_getElem?
    intro k
    rw [put_get, put_get]
    cases hk : L[k]? with
    | none => rfl
    | some o =>
      have hkl := (List.getElem?_eq_some_iff.1 hk).1
      have h1 : pickB ((0 : Nat) : Int) [] k = none := by unfold pickB; simp
      have h2 : pickB s data k = none := by
        unfold pickB
        split
        · exact List.getElem?_eq_none (by omega)
        · rfl
      rw [h1, h2]
  · rw [if_neg e]
    have hlen : ((data.drop lo).take (hi - lo)).length = hi - lo := by rw [List.length_take, List.length_drop]; omega
    have h0 : 0 ≤ s + (lo : Int) := by omega
    have h1 : s + (hi : Int) ≤ (L.length : Int) := by omega
    refine ⟨(s + (lo : Int)).toNat, ?_, by rw [hlen]; omega, ?_, fun h => ?_⟩
    · rw [Int.toNat_of_nonneg h0]
      unfold sAdd
      unfold sAhead at hs ⊢
      omega
    · apply List.ext_getElem?
      intro k
      rw [put_get, put_get]
      cases hk : L[k]? with
      | none => rfl
      | some o =>
        have hkl := (List.getElem?_eq_some_iff.1 hk).1
        have h2 : pickB s data k = pickB (((s + (lo : Int)).toNat : Nat) : Int) ((data.drop lo).take (hi - lo)) k := by
          unfold pickB
          rw [Int.toNat_of_nonneg h0]
          by_cases h3 : 0 ≤ (k : Int) - (s + (lo : Int))
          · rw [if_pos h3, if_pos (by omega)]
            by_cases h4 : ((k : Int) - (s + (lo : Int))).toNat < hi - lo
            · rw [List.getElem?_take_of_lt h4, List.getElem?_drop]
              congr 1
              omega
            · have a1 : data[((k : Int) - s).toNat]? = none := List.getElem?_eq_none (by omega)
              have a2 : ((data.drop lo).take (hi - lo))[((k : Int) - (s + (lo : Int))).toNat]? = none := List.getElem?_eq_none (by rw [hlen]; omega)
              rw [a1, a2]
          · rw [if_neg h3, if_neg (by omega)]
        rw [h2]
    · rw [h] at hlen
      simp at hlen
      omega
end Go.Proofs.Ytmmnicnebammhaa
