/-
  Plain facts of ReasmStays: what is there stays. Nothing of the program.
-/
import Derived.Test.YtmmnicnebammhaaRmHalfP
namespace Go.Proofs.Ytmmnicnebammhaa
set_option maxRecDepth 10000
set_option linter.unusedSimpArgs false
set_option linter.unusedVariables false

theorem cnt_or {P Q : Nat → Bool} {n : Nat} (h : ∀ p, P p = true → Q p = false) : cntB (fun p => P p || Q p) n = cntB P n + cntB Q n := by
  unfold cntB
  induction n with
  | zero => simp
  | succ n ih =>
    rw [List.range_succ, List.countP_append, List.countP_append, List.countP_append, List.countP_singleton, List.countP_singleton, List.countP_singleton, ih]
    cases hp : P n with
    | true => rw [h n hp]; simp; omega
    | false => cases Q n <;> simp <;> omega
theorem have_rowG (F : Nat → Option Int) (m : Nat) : haveB (rowG F 0 m) = cntB (fun p => (F p).isSome) m := by
  unfold haveB rowG cntB
  rw [List.countP_map, Nat.sub_zero]
  refine List.countP_congr (fun i _ => ?_)
  simp
/-- What stands at a place in the end. -/
def stayF (a o : List Int) (k : Nat) (p : Nat) : Option Int := (if k ≤ p then a[p]? else none).or o[p]?
structure StayIs (a o : List Int) (f : Int) (na no k : Nat) (L1 L2 L3 : BL) (nk wn r : Nat) (T : List Int) (fk ft : Int) : Prop where
  xfk : num32 (f + k) = fk
  xfkb : 0 ≤ fk ∧ fk < 4294967296
  x1 : putQ (diffB fk f) (a.drop k) (List.replicate 700 none) = L1 ∧ putE (diffB fk f) (a.drop k) (List.replicate 700 none) = 0 ∧ putN (diffB fk f) (a.drop k) (List.replicate 700 none) = nk
  xnk : na - k = nk
  x2 : putQ (diffB f f) o L1 = L2 ∧ putE (diffB f f) o L1 = 0 ∧ putN (diffB f f) o L1 = wn
  xwn : min no k + (no - na) = wn
  xt : takeB L2 = T ∧ leftB L2 = L3 ∧ num32 (f + readyB L2) = ft
  xtl : T.length = r
  xr : r ≤ max na no
  xstop : stayF a o k r = none
  xat : ∀ x, x < r → stayF a o k x = some (T.getD x 0) ∧ T.take (x + 1) = T.take x ++ [T.getD x 0]
theorem stay_is (a o : List Int) (f : Int) (na no k : Nat) (ha : a.length = na) (ho : o.length = no) (h1 : na ≤ 300) (h2 : no ≤ 300) (hk : k ≤ na) : ∃ L1 L2 L3 nk wn r T fk ft, StayIs a o f na no k L1 L2 L3 nk wn r T fk ft := by
  subst ha; subst ho
  have ivlt : ∀ x y p, y ≤ a.length → iv x y p = true → p < a.length := fun x y p hb h => by unfold iv at h; simp at h; omega
  have e0 : List.replicate 700 none = rowS a (iv 0 0) 0 700 := (rowS_none a 700).trans (rowS_ext (fun p _ _ _ => by unfold iv; simp))
  have hh0 : (heldB (rowS a (iv 0 0) 0 700)).length = 0 := by rw [← e0, holes_none]; rfl
  have dk : (k : Int) - (0 : Nat) = diffB (num32 (f + k)) f := by rw [diff_add f k (by omega)]; omega
  obtain ⟨a1, a1e, a1n, a1h⟩ := put_iv (s := a) (P := iv 0 0) (Q := iv k a.length) (t := 0) (m := 700) (a := k) (b := a.length) dk (List.take_of_length_le (by rw [List.length_drop]; exact Nat.le_refl _)) (fun p _ _ _ => by unfold iv; simp) (by omega) (ivlt 0 0 · (Nat.zero_le _)) (fun p h => by omega) (by omega) (ivlt k _ · (Nat.le_refl _)) (fun p h => by omega)
  rw [cnt_iv (by omega), cnt_iv (by omega)] at a1n
  have eL1 : rowS a (iv k a.length) 0 700 = rowG (fun p => if k ≤ p then a[p]? else none) 0 700 := rowG_ext (fun p _ _ => by
    by_cases h : k ≤ p
    · rw [if_pos h]
      by_cases h3 : p < a.length
      · rw [if_pos (by unfold iv; simp [h, h3])]
      · rw [List.getElem?_eq_none (by omega)]; simp
    · rw [if_neg h, if_neg (by unfold iv; simp [h])])
  obtain ⟨b1, b2, b3⟩ := put_fit 0 o (L := rowS a (iv k a.length) 0 700) (by omega)
  have hp : putB 0 o (rowS a (iv k a.length) 0 700) = rowG (stayF a o k) 0 700 := by
    rw [eL1]
    have := put_rowG (fun p => if k ≤ p then a[p]? else none) 0 700 0 o
    rw [show ((0 : Nat) : Int) - (0 : Nat) = 0 by omega] at this
    rw [this]
    exact rowG_ext (fun p _ _ => by rw [if_pos (Nat.zero_le _), Nat.sub_zero]; rfl)
  have hs : (fun p => (stayF a o k p).isSome) = fun p => iv 0 (min o.length k) p || (iv k a.length p || iv a.length o.length p) := by
    funext p
    unfold stayF iv
    by_cases h : k ≤ p
    · rw [if_pos h]
      by_cases h3 : p < a.length
      · rw [List.getElem?_eq_getElem h3]
        simp [h, h3]
      · rw [List.getElem?_eq_none (by omega), Option.none_or, Bool.eq_iff_iff]
        by_cases h4 : p < o.length
        · rw [List.getElem?_eq_getElem h4]; simp; omega
        · rw [List.getElem?_eq_none (by omega)]; simp; omega
    · rw [if_neg h, Option.none_or, Bool.eq_iff_iff]
      by_cases h4 : p < o.length
      · rw [List.getElem?_eq_getElem h4]; simp; omega
      · rw [List.getElem?_eq_none (by omega)]; simp; omega
  have hc : cntB (fun p => (stayF a o k p).isSome) 700 = min o.length k + ((a.length - k) + (o.length - a.length)) := by
    rw [hs, cnt_or (fun p h => by unfold iv at h ⊢; simp at h; rw [Bool.eq_false_iff]; simp; omega), cnt_or (fun p h => by unfold iv at h ⊢; simp at h; rw [Bool.eq_false_iff]; simp; omega), cnt_iv (by omega), cnt_iv (by omega), cnt_iv (by omega)]
    omega
  have hn : freshB 0 o (rowS a (iv k a.length) 0 700) = min o.length k + (o.length - a.length) := by
    unfold freshB
    rw [hp, have_rowG, hc]
    have := have_rowS (s := a) (P := iv k a.length) (t := 0) (m := 700) (ivlt k _ · (Nat.le_refl _)) (fun p h => by omega) (by omega)
    rw [cnt_iv (by omega)] at this
    omega
  rw [hp] at b1
  rw [hn] at b3
  obtain ⟨r, hr⟩ : ∃ r, readyB (rowG (stayF a o k) 0 700) = r := ⟨_, rfl⟩
  obtain ⟨k1, k2⟩ := ready_is (rowG (stayF a o k) 0 700)
  rw [hr] at k1 k2
  have hsm : ∀ p, (stayF a o k p).isSome = true → p < max a.length o.length := fun p h => by
    have this : (stayF a o k p).isSome = (iv 0 (min o.length k) p || (iv k a.length p || iv a.length o.length p)) := congrFun hs p
    rw [this] at h
    unfold iv at h
    simp at h
    omega
  have k3 : ∀ x, x < r → (stayF a o k x).isSome = true := fun x hx => by
    have := k1 x hx
    rw [isB_rowG, Nat.zero_add] at this
    simp at this
    exact this.2
  have hrm : r ≤ max a.length o.length := by
    rcases Nat.eq_zero_or_pos r with e | e
    · omega
    · have := hsm (r - 1) (k3 _ (by omega))
      omega
  have k4 : stayF a o k r = none := by
    rw [isB_rowG, Nat.zero_add, decide_eq_true (by omega), Bool.true_and] at k2
    cases h : stayF a o k r with
    | none => rfl
    | some x => rw [h] at k2; cases k2
  have ht := take_rowG hr
  have hTl : (takeB (rowG (stayF a o k) 0 700)).length = r := by rw [take_len, hr]
  refine ⟨rowS a (iv k a.length) 0 700, rowG (stayF a o k) 0 700, _, _, _, r, takeB (rowG (stayF a o k) 0 700), num32 (f + k), _, ⟨rfl, by unfold num32; omega, ?_, rfl, ?_, rfl, ⟨rfl, rfl, rfl⟩, hTl, hrm, k4, fun x hx => ⟨?_, ?_⟩⟩⟩
  · rw [e0]
    exact ⟨a1, a1e, by rw [a1n]; omega⟩
  · rw [diff_self]
    exact ⟨b1, b2, b3⟩
  · rw [ht]
    have hg := k3 x hx
    cases h : stayF a o k x with
    | none => rw [h] at hg; cases hg
    | some y =>
      rw [List.getD, List.getElem?_map, List.getElem?_range hx, Option.map_some, Nat.zero_add, h]
      rfl
  · rw [List.getD, List.getElem?_eq_getElem (by rw [hTl]; exact hx), Option.getD_some]
    exact (List.take_append_getElem (by rw [hTl]; exact hx)).symm
end Go.Proofs.Ytmmnicnebammhaa
