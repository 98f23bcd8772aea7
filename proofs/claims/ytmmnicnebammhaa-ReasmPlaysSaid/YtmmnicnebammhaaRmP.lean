/-
  Bytes by how far they are ahead: what a buffer has, tells, takes. Nothing of the program.
-/
import Derived.WalkKit
namespace Go.Proofs.Ytmmnicnebammhaa
set_option maxRecDepth 10000
set_option linter.unusedSimpArgs false
set_option linter.unusedVariables false

/-- What a buffer has, by how far it is ahead. -/
abbrev BL := List (Option Int)
def isB (L : BL) (i : Nat) : Bool := (L.getD i none).isSome
def readyB : BL → Nat
  | some _ :: l => readyB l + 1
  | _ => 0
def takeB (L : BL) : List Int := (L.take (readyB L)).map (fun o => o.getD 0)
def leftB (L : BL) : BL := L.drop (readyB L)
def pickB (d : Int) (data : List Int) (k : Nat) : Option Int := if 0 ≤ (k : Int) - d then data[((k : Int) - d).toNat]? else none
def putB (d : Int) (data : List Int) (L : BL) : BL := L.mapIdx (fun k o => o.or (pickB d data k))
def haveB (L : BL) : Nat := L.countP Option.isSome
def freshB (d : Int) (data : List Int) (L : BL) : Nat := haveB (putB d data L) - haveB L
def beginB (L : BL) (i : Nat) : Bool := decide (0 < i) && (isB L i && !isB L (i - 1))
def heldB (L : BL) : List (Nat × Nat) := ((List.range L.length).filter (beginB L)).map (fun i => (i, i + readyB (L.drop i)))
def fullB (d : Int) (data : List Int) (L : BL) : Bool := decide (16 < (heldB (putB d data L)).length)
def putE (d : Int) (data : List Int) (L : BL) : Int := if fullB d data L = true then 7 else 0
def putN (d : Int) (data : List Int) (L : BL) : Nat := if fullB d data L = true then 0 else freshB d data L
def putQ (d : Int) (data : List Int) (L : BL) : BL := if fullB d data L = true then L else putB d data L
def num32 (x : Int) : Int := x % 4294967296
def heldI (at_ : Int) (L : BL) : List (Int × Int) := (heldB L).map (fun p => (num32 (at_ + p.1), num32 (at_ + p.2)))
/-- How far a number is ahead of another one, either way. -/
def diffB (a b : Int) : Int := if num32 (a - b) < 2147483648 then num32 (a - b) else num32 (a - b) - 4294967296
def okB (L : BL) : Prop := ∀ x, some x ∈ L → 0 ≤ x ∧ x < 256

theorem put_get (d : Int) (data : List Int) (L : BL) (k : Nat) : (putB d data L)[k]? = L[k]?.map (fun o => o.or (pickB d data k)) := by
  unfold putB
  rw [List.getElem?_mapIdx]
theorem put_len (d : Int) (data : List Int) (L : BL) : (putB d data L).length = L.length := by unfold putB; simp
theorem isB_get (L : BL) (i : Nat) : isB L i = true ↔ ∃ x, L[i]? = some (some x) := by
  unfold isB
  rw [List.getD]
  cases h : L[i]? with
  | none => simp
  | some o => cases o <;> simp
theorem isB_lt {L : BL} {i : Nat} (h : isB L i = true) : i < L.length := by
  obtain ⟨x, hx⟩ := (isB_get L i).1 h
  exact (List.getElem?_eq_some_iff.1 hx).1
theorem ready_le (L : BL) : readyB L ≤ L.length := by
  induction L with
  | nil => simp [readyB]
  | cons o l ih => cases o <;> simp [readyB] <;> omega
theorem ready_is (L : BL) : (∀ i, i < readyB L → isB L i = true) ∧ isB L (readyB L) = false := by
  induction L with
  | nil => simp [readyB, isB]
  | cons o l ih =>
    cases o with
    | none => simp [readyB, isB]
    | some x =>
      refine ⟨fun i hi => ?_, ?_⟩
      · cases i with
        | zero => simp [isB]
        | succ i =>
          have := ih.1 i (by simp [readyB] at hi; omega)
          simpa [isB] using this
      · have := ih.2
        simpa [isB, readyB] using this
theorem ready_of {L : BL} {r : Nat} (h : ∀ i, i < r → isB L i = true) (h2 : isB L r = false) : readyB L = r := by
  obtain ⟨h3, h4⟩ := ready_is L
  rcases Nat.lt_trichotomy (readyB L) r with h5 | h5 | h5
  · have := h _ h5
    rw [h4] at this
    cases this
  · exact h5
  · have := h3 _ h5
    rw [h2] at this
    cases this
theorem take_len (L : BL) : (takeB L).length = readyB L := by
  unfold takeB
  rw [List.length_map, List.length_take]
  have := ready_le L
  omega
theorem left_len (L : BL) : (leftB L).length = L.length - readyB L := by unfold leftB; rw [List.length_drop]
theorem have_le (d : Int) (data : List Int) (L : BL) : haveB L ≤ haveB (putB d data L) := by
  unfold haveB putB
  have key : ∀ (L : BL) (f : Nat → Option Int), L.countP Option.isSome ≤ (L.mapIdx (fun k o => o.or (f k))).countP Option.isSome := by
    intro L
    induction L with
    | nil => intro f; simp
    | cons o l ih =>
      intro f
      have := ih (fun k => f (k + 1))
      simp only [] at this
      rw [List.mapIdx_cons]
      simp only [List.countP_cons]
      cases o <;> cases f 0 <;> simp <;> omega
  exact key L _
theorem put_ok {d : Int} {data : List Int} {L : BL} (h : okB L) (hd : ∀ x ∈ data, 0 ≤ x ∧ x < 256) : okB (putB d data L) := by
  intro x hx
  obtain ⟨k, hk⟩ := List.getElem?_of_mem hx
  rw [put_get] at hk
  cases e : L[k]? with
  | none => rw [e] at hk; cases hk
  | some o =>
    rw [e] at hk
    simp only [Option.map_some, Option.some.injEq] at hk
    cases o with
    | some y =>
      simp at hk
      subst hk
      exact h y (List.mem_of_getElem? e)
    | none =>
      simp only [Option.none_or] at hk
      unfold pickB at hk
      split at hk
      · exact hd x (List.mem_of_getElem? hk)
      · cases hk
theorem putQ_ok {d : Int} {data : List Int} {L : BL} (h : okB L) (hd : ∀ x ∈ data, 0 ≤ x ∧ x < 256) : okB (putQ d data L) := by
  unfold putQ
  split
  · exact h
  · exact put_ok h hd
theorem left_ok {L : BL} (h : okB L) : okB (leftB L) := fun x hx => h x (List.mem_of_mem_drop hx)
theorem putQ_len (d : Int) (data : List Int) (L : BL) : (putQ d data L).length = L.length := by
  unfold putQ
  split
  · rfl
  · exact put_len _ _ _
theorem take_ok {L : BL} (h : okB L) : ∀ x ∈ takeB L, 0 ≤ x ∧ x < 256 := by
  intro x hx
  unfold takeB at hx
  obtain ⟨o, ho, rfl⟩ := List.mem_map.1 hx
  cases o with
  | none => simp
  | some y => exact h y (List.mem_of_mem_take ho)
/-- How many pieces there are that do not begin at the front. -/
theorem held_len (L : BL) : (heldB L).length = (List.range L.length).countP (beginB L) := by
  unfold heldB
  rw [List.length_map, ← List.countP_eq_length_filter]
theorem countP_imp {α : Type} (p q : α → Bool) (l : List α) (h : ∀ x ∈ l, p x = true → q x = true) : l.countP p ≤ l.countP q := List.countP_mono_left h
theorem count_one (d n : Nat) : (List.range n).countP (fun i => decide (i = d)) ≤ 1 := by
  induction n with
  | zero => simp
  | succ n ih =>
    rw [List.range_succ, List.countP_append, List.countP_singleton]
    by_cases h : n = d
    · have h0 : (List.range n).countP (fun i => decide (i = d)) = 0 := by
        rw [List.countP_eq_zero]
        intro x hx
        simp at hx ⊢
        omega
      rw [h0]
      simp [h]
    · simp [h]
      exact ih
theorem isB_put (d : Int) (data : List Int) (L : BL) (i : Nat) : isB (putB d data L) i = (isB L i || (decide (i < L.length) && (pickB d data i).isSome)) := by
  unfold isB
  rw [List.getD, List.getD, put_get]
  cases e : L[i]? with
  | none =>
    have : ¬ i < L.length := by
      intro h
      rw [List.getElem?_eq_getElem h] at e
      cases e
    simp [this]
  | some o =>
    have : i < L.length := (List.getElem?_eq_some_iff.1 e).1
    cases o <;> simp [this]
theorem pick_is (d : Int) (data : List Int) (i : Nat) : (pickB d data i).isSome = decide (d ≤ (i : Int) ∧ (i : Int) - d < data.length) := by
  unfold pickB
  by_cases h : 0 ≤ (i : Int) - d
  · rw [if_pos h]
    by_cases h2 : ((i : Int) - d).toNat < data.length
    · rw [List.getElem?_eq_getElem h2]
      exact (decide_eq_true (by omega)).symm
    · rw [List.getElem?_eq_none (by omega)]
      exact (decide_eq_false (by omega)).symm
  · rw [if_neg h]
    simp
    omega
/-- A run of bytes makes one piece more at most. -/
theorem holes_put (d : Int) (data : List Int) (L : BL) : (heldB (putB d data L)).length ≤ (heldB L).length + 1 := by
  rw [held_len, held_len, put_len]
  have h1 : (List.range L.length).countP (beginB (putB d data L)) ≤ (List.range L.length).countP (fun i => beginB L i || decide (i = d.toNat)) := by
    refine countP_imp _ _ _ (fun i hi hb => ?_)
    simp only [List.mem_range] at hi
    unfold beginB at hb ⊢
    simp only [Bool.and_eq_true, decide_eq_true_eq, Bool.not_eq_true', isB_put, pick_is, Bool.or_eq_true, Bool.or_eq_false_iff, Bool.and_eq_false_iff, decide_eq_false_iff_not] at hb ⊢
    obtain ⟨h0, h2, h3, h4⟩ := hb
    by_cases hL : isB L i = true
    · exact .inl ⟨h0, hL, h3⟩
    · right
      rcases h2 with h2 | h2
      · exact absurd h2 hL
      · have h5 : ((i - 1 : Nat) : Int) = (i : Int) - 1 := by omega
        rcases h4 with h4 | h4
        · omega
        · rw [h5] at h4
          have := h2.2
          omega
  have h2 : (List.range L.length).countP (fun i => beginB L i || decide (i = d.toNat)) ≤ (List.range L.length).countP (beginB L) + (List.range L.length).countP (fun i => decide (i = d.toNat)) := by
    generalize List.range L.length = l
    induction l with
    | nil => simp
    | cons x l ih =>
      simp only [List.countP_cons]
      cases beginB L x <;> cases decide (x = d.toNat) <;> simp <;> omega
  have h3 := count_one d.toNat L.length
  omega
theorem isB_drop (L : BL) (r i : Nat) : isB (L.drop r) i = isB L (r + i) := by
  unfold isB
  rw [List.getD, List.getD, List.getElem?_drop]
theorem holes_drop (L : BL) (r : Nat) : (heldB (L.drop r)).length ≤ (heldB L).length := by
  rw [held_len, held_len, List.length_drop]
  have key : ∀ n, n + r ≤ L.length → (List.range n).countP (beginB (L.drop r)) ≤ (List.range (n + r)).countP (beginB L) := by
    intro n
    induction n with
    | zero => intro _; simp
    | succ n ih =>
      intro hn
      have := ih (by omega)
      rw [List.range_succ, show n + 1 + r = (n + r) + 1 by omega, List.range_succ, List.countP_append, List.countP_append, List.countP_singleton, List.countP_singleton]
      have hb : beginB (L.drop r) n = true → beginB L (n + r) = true := by
        unfold beginB
        simp only [Bool.and_eq_true, decide_eq_true_eq, isB_drop, Bool.not_eq_true']
        rintro ⟨h0, h1, h2⟩
        rw [show r + n = n + r by omega] at h1
        rw [show r + (n - 1) = n + r - 1 by omega] at h2
        exact ⟨by omega, h1, h2⟩
      cases h : beginB (L.drop r) n with
      | false =>
        simp only [Bool.false_eq_true, if_false]
        omega
      | true =>
        rw [hb h]
        simp only [if_true]
        omega
  by_cases h : r ≤ L.length
  · have := key (L.length - r) (by omega)
    rw [show L.length - r + r = L.length by omega] at this
    exact this
  · rw [show L.length - r = 0 by omega]
    simp
theorem holes_left (L : BL) : (heldB (leftB L)).length ≤ (heldB L).length := holes_drop L _
theorem holes_none (n : Nat) : heldB (List.replicate n none) = [] := by
  unfold heldB
  rw [List.map_eq_nil_iff, List.filter_eq_nil_iff]
  intro i _
  unfold beginB isB
  rw [List.getD]
  cases e : (List.replicate n (none : Option Int))[i]? with
  | none => simp
  | some o =>
    have := List.getElem?_replicate (a := (none : Option Int)) (n := n) (i := i)
    rw [e] at this
    split at this
    · cases this; simp
    · cases this
theorem putQ_holes {d : Int} {data : List Int} {L : BL} (h : (heldB L).length ≤ 16) : (heldB (putQ d data L)).length ≤ 16 := by
  unfold putQ fullB
  by_cases hf : 16 < (heldB (putB d data L)).length
  · rw [decide_eq_true hf, if_pos rfl]; exact h
  · rw [decide_eq_false hf, if_neg (by simp)]; omega
theorem diff_near (a b : Int) (k : Int) (h : num32 (a - b) = num32 k) (h1 : -2147483648 ≤ k) (h2 : k < 2147483648) : diffB a b = k := by
  unfold diffB
  rw [h]
  unfold num32
  split <;> omega
end Go.Proofs.Ytmmnicnebammhaa
