/-
  Bytes put one by one: a place more, or none. Nothing of the program.
-/
import Derived.Test.YtmmnicnebammhaaRmP
namespace Go.Proofs.Ytmmnicnebammhaa
set_option maxRecDepth 10000
set_option linter.unusedSimpArgs false
set_option linter.unusedVariables false

theorem pick_take (d : Int) (l : List Int) (i k : Nat) : pickB d (l.take i) k = if (k : Int) - d < i then pickB d l k else none := by
  unfold pickB
  by_cases h : 0 ≤ (k : Int) - d
  · simp only [if_pos h]
    by_cases h2 : (k : Int) - d < i
    · rw [if_pos h2, List.getElem?_take_of_lt (by omega)]
    · rw [if_neg h2, List.getElem?_eq_none (by rw [List.length_take]; omega)]
  · simp only [if_neg h]
    split <;> rfl
theorem put_zero (d : Int) (l : List Int) (L : BL) : putB d (l.take 0) L = L := by
  apply List.ext_getElem?
  intro k
  rw [put_get]
  have : pickB d (l.take 0) k = none := by unfold pickB; simp
  rw [this]
  cases L[k]? <;> simp
theorem pick_far {d : Int} {l : List Int} {i k : Nat} (h : ¬ d + (i : Int) = k) : pickB d (l.take (i + 1)) k = pickB d (l.take i) k := by
  rw [pick_take, pick_take]
  by_cases h2 : (k : Int) - d < i
  · rw [if_pos h2, if_pos (by omega)]
  · rw [if_neg h2, if_neg (by omega)]
theorem pick_now {d : Int} {l : List Int} {i k : Nat} (h : d + (i : Int) = k) (hi : i < l.length) : pickB d (l.take (i + 1)) k = some l[i] := by
  rw [pick_take, if_pos (by omega)]
  unfold pickB
  rw [if_pos (by omega), show ((k : Int) - d).toNat = i by omega, List.getElem?_eq_getElem hi]
theorem pick_yet {d : Int} {l : List Int} {i k : Nat} (h : d + (i : Int) = k) : pickB d (l.take i) k = none := by
  rw [pick_take, if_neg (by omega)]
/-- Nothing more: out of the room, or there already. -/
theorem put_skip {d : Int} {l : List Int} {L : BL} {i : Nat} (h : ∀ k : Nat, d + (i : Int) = k → k < L.length → isB (putB d (l.take i) L) k = true) : putB d (l.take (i + 1)) L = putB d (l.take i) L := by
  apply List.ext_getElem?
  intro k
  rw [put_get, put_get]
  by_cases e : d + (i : Int) = k
  · cases ek : L[k]? with
    | none => rfl
    | some o =>
      have hk := (List.getElem?_eq_some_iff.1 ek).1
      obtain ⟨x, hx⟩ := (isB_get _ _).1 (h k e hk)
      rw [put_get, ek, pick_yet e] at hx
      simp at hx
      subst hx
      simp
  · rw [pick_far e]
/-- One more. -/
theorem put_more {d : Int} {l : List Int} {L : BL} {i k : Nat} (e : d + (i : Int) = k) (hk : k < L.length) (hi : i < l.length) (h : isB (putB d (l.take i) L) k = false) : putB d (l.take (i + 1)) L = (putB d (l.take i) L).set k (some l[i]) := by
  apply List.ext_getElem?
  intro j
  rw [put_get]
  by_cases ej : k = j
  · subst ej
    rw [List.getElem?_set_self (by rw [put_len]; exact hk), List.getElem?_eq_getElem hk, pick_now e hi]
    have : L[k]? = some none := by
      cases eo : L[k]? with
      | none => rw [List.getElem?_eq_getElem hk] at eo; cases eo
      | some o =>
        cases o with
        | none => rfl
        | some x =>
          have : isB (putB d (l.take i) L) k = true := (isB_get _ _).2 ⟨x, by rw [put_get, eo]; rfl⟩
          rw [h] at this
          cases this
    rw [List.getElem?_eq_getElem hk] at this
    injection this with this
    rw [this]
    rfl
  · rw [List.getElem?_set_ne ej, put_get, pick_far (by omega)]
theorem have_more {M : BL} {k : Nat} (hk : k < M.length) (h : isB M k = false) (x : Int) : haveB (M.set k (some x)) = haveB M + 1 := by
  unfold haveB
  have hm : M[k].isSome = false := by
    unfold isB at h
    rw [List.getD, List.getElem?_eq_getElem hk] at h
    simpa using h
  rw [List.countP_set hk]
  simp [hm]
theorem isV_set (M : BL) (k : Nat) (x : Int) : (M.map (fun o => Go.Value.bool o.isSome)).set k (.bool true) = (M.set k (some x)).map (fun o => Go.Value.bool o.isSome) := by rw [List.map_set]; rfl
theorem byV_set (M : BL) (k : Nat) (x : Int) : (M.map (fun o => Go.Value.int .u8 (o.getD 0))).set k (.int .u8 x) = (M.set k (some x)).map (fun o => Go.Value.int .u8 (o.getD 0)) := by rw [List.map_set]; rfl
end Go.Proofs.Ytmmnicnebammhaa
