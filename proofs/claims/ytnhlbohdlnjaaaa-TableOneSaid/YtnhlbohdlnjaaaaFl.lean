/-
  Flows of a table as plain data: what is found, added, led elsewhere, touched, dropped. Nothing of the program but tuples' own '=='.
-/
import Derived.Test.YtnhlbohdlnjaaaaTupVal
namespace Go.Proofs.Ytnhlbohdlnjaaaa
set_option maxRecDepth 10000
open Go.RowKit
set_option linter.unusedSimpArgs false
set_option linter.unusedVariables false

instance : DecidableEq Tu := fun a b => decidable_of_iff (tuSame a b = true) (tuSame_iff a b)
structure Fl where
  id : Int
  i : Tu
  o : Tu
  em : Bool
abbrev TL := List Fl
def zT : Tu := ⟨0, 0, 0, 0, 0⟩
def f0 : Fl := ⟨0, zT, zT, false⟩
def innF (x : Tu) (L : TL) : Option Fl := L.find? (fun f => decide (f.i = x))
def outF (x : Tu) (L : TL) : Option Fl := if x = zT then none else L.find? (fun f => decide (f.o = x))
def idOf (r : Option Fl) : Int := match r with | none => 0 | some f => f.id
def isOf (r : Option Fl) : Bool := match r with | none => false | some _ => true
def atF (id : Int) (L : TL) : Option Nat := L.findIdx? (fun f => decide (f.id = id))
def emF (L : TL) : Option Nat := L.findIdx? (fun f => f.em)
def touchF (k : Nat) (L : TL) : TL := L.eraseIdx k ++ [L.getD k f0]
def readyF (k : Nat) (L : TL) : TL := L.set k { L.getD k f0 with em := false }
def leadF (k : Nat) (o : Tu) (L : TL) : TL := L.set k { L.getD k f0 with o := o }
structure Apart (a b : Fl) : Prop where
  id : a.id ≠ b.id
  i : a.i ≠ b.i
  o : a.o = zT ∨ a.o ≠ b.o
theorem Apart.symm {a b : Fl} (h : Apart a b) : Apart b a :=
  ⟨fun e => h.id e.symm, fun e => h.i e.symm, by
    rcases h.o with e | e
    · by_cases hb : b.o = zT
      · exact .inl hb
      · exact .inr (fun e2 => hb (e2.trans e))
    · exact .inr (fun e2 => e e2.symm)⟩
structure okF (M last : Int) (L : TL) : Prop where
  mb : 1 ≤ M ∧ M ≤ 1024
  len : (L.length : Int) ≤ M
  ids : ∀ f ∈ L, 1 ≤ f.id ∧ f.id ≤ last
  pw : L.Pairwise Apart
  nz : ∀ f ∈ L, f.i ≠ zT
  lb : 0 ≤ last ∧ last ≤ 1000000
theorem getD_mem {L : TL} {k : Nat} (hk : k < L.length) : L.getD k f0 ∈ L := by
  simp only [List.getD, List.getElem?_eq_getElem hk, Option.getD_some]
  exact List.getElem_mem _
theorem getD_at {L : TL} {k : Nat} (hk : k < L.length) : L[k]? = some (L.getD k f0) := by
  simp only [List.getD, List.getElem?_eq_getElem hk, Option.getD_some]
theorem mem_at {L : TL} {f : Fl} (h : f ∈ L) : ∃ k, k < L.length ∧ L.getD k f0 = f := by
  obtain ⟨k, hk⟩ := List.getElem?_of_mem h
  obtain ⟨h1, h2⟩ := List.getElem?_eq_some_iff.1 hk
  exact ⟨k, h1, by simp only [List.getD, hk, Option.getD_some]⟩
theorem pw_at {L : TL} (h : L.Pairwise Apart) {a b : Nat} (ha : a < L.length) (hb : b < L.length) (hne : a ≠ b) : Apart (L.getD a f0) (L.getD b f0) := by
  have e : ∀ k, (hk : k < L.length) → L.getD k f0 = L[k] := fun k hk => by simp only [List.getD, List.getElem?_eq_getElem hk, Option.getD_some]
  rw [e a ha, e b hb]
  rcases Nat.lt_or_ge a b with h1 | h1
  · exact List.pairwise_iff_getElem.1 h a b ha hb h1
  · exact (List.pairwise_iff_getElem.1 h b a hb ha (by omega)).symm
theorem mem_erase {L : TL} (h : L.Pairwise Apart) {k : Nat} (hk : k < L.length) {f : Fl} : f ∈ L.eraseIdx k ↔ f ∈ L ∧ f.id ≠ (L.getD k f0).id := by
  rw [List.mem_eraseIdx_iff_getElem?]
  constructor
  · rintro ⟨j, hj, hf⟩
    obtain ⟨h1, h2⟩ := List.getElem?_eq_some_iff.1 hf
    refine ⟨List.mem_of_getElem? hf, ?_⟩
    have := pw_at h h1 hk hj
    rw [show L.getD j f0 = f by simp only [List.getD, hf, Option.getD_some]] at this
    exact this.id
  · rintro ⟨hf, hne⟩
    obtain ⟨j, hj, rfl⟩ := mem_at hf
    exact ⟨j, fun e => hne (by rw [e]), getD_at hj⟩
theorem okF.erase {M last : Int} {L : TL} (h : okF M last L) (k : Nat) : okF M last (L.eraseIdx k) := by
  have hs := List.eraseIdx_sublist L k
  exact ⟨h.mb, by have := hs.length_le; have := h.len; omega, fun f hf => h.ids f (hs.subset hf), h.pw.sublist hs, fun f hf => h.nz f (hs.subset hf), h.lb⟩
theorem okF.push {M last : Int} {L : TL} (h : okF M last L) (f : Fl) (hlen : (L.length : Int) < M) (hid : f.id = last + 1) (hi : ∀ g ∈ L, g.i ≠ f.i) (hz : f.i ≠ zT) (ho : f.o = zT ∨ ∀ g ∈ L, g.o ≠ f.o) (hl : last < 1000000) : okF M (last + 1) (L ++ [f]) := by
  have hlb := h.lb
  refine ⟨h.mb, by simp only [List.length_append, List.length_cons, List.length_nil]; omega, fun g hg => ?_, ?_, fun g hg => ?_, by omega⟩
  · rcases List.mem_append.1 hg with hg | hg
    · have := h.ids g hg; omega
    · rw [List.mem_singleton] at hg; subst hg; omega
  · refine List.pairwise_append.2 ⟨h.pw, List.pairwise_singleton _ _, fun g hg b hb => ?_⟩
    rw [List.mem_singleton] at hb
    subst hb
    refine ⟨fun e => ?_, hi g hg, ?_⟩
    · have := h.ids g hg; omega
    · by_cases e : g.o = zT
      · exact .inl e
      · refine .inr (fun e2 => ?_)
        rcases ho with h1 | h1
        · exact e (e2.trans h1)
        · exact h1 g hg e2
  · rcases List.mem_append.1 hg with hg | hg
    · exact h.nz g hg
    · rw [List.mem_singleton] at hg; subst hg; exact hz
theorem touch_perm {k : Nat} {L : TL} (hk : k < L.length) : (touchF k L).Perm L := by
  unfold touchF
  have e : L = L.take k ++ L.getD k f0 :: L.drop (k + 1) := by
    have : L.getD k f0 = L[k] := by simp only [List.getD, List.getElem?_eq_getElem hk, Option.getD_some]
    rw [this, ← List.drop_eq_getElem_cons hk, List.take_append_drop]
  rw [List.eraseIdx_eq_take_drop_succ, List.append_assoc]
  conv => rhs; rw [e]
  refine List.Perm.append_left _ ?_
  exact (List.perm_append_singleton _ _)
theorem okF.perm {M last : Int} {L L' : TL} (h : okF M last L) (hp : L'.Perm L) : okF M last L' :=
  ⟨h.mb, by rw [hp.length_eq]; exact h.len, fun f hf => h.ids f (hp.mem_iff.1 hf), h.pw.perm hp.symm (fun h => h.symm), fun f hf => h.nz f (hp.mem_iff.1 hf), h.lb⟩
theorem okF.touch {M last : Int} {L : TL} (h : okF M last L) {k : Nat} (hk : k < L.length) : okF M last (touchF k L) := h.perm (touch_perm hk)
theorem set_getD {L : TL} {k j : Nat} (f : Fl) (hj : j < L.length) : (L.set k f).getD j f0 = if k = j then f else L.getD j f0 := by
  simp only [List.getD, List.getElem?_set]
  by_cases e : k = j
  · subst e; simp [hj]
  · simp [e]
theorem mem_set {L : TL} {k : Nat} {f g : Fl} (hk : k < L.length) : g ∈ L.set k f ↔ g = f ∨ ∃ j, j ≠ k ∧ j < L.length ∧ L.getD j f0 = g := by
  constructor
  · intro h
    obtain ⟨j, hj, rfl⟩ := mem_at h
    rw [List.length_set] at hj
    rw [set_getD f hj]
    by_cases e : k = j
    · exact .inl (if_pos e)
    · rw [if_neg e]; exact .inr ⟨j, fun e2 => e e2.symm, hj, rfl⟩
  · rintro (rfl | ⟨j, h1, h2, rfl⟩)
    · exact List.mem_set hk _
    · have := set_getD (k := k) f h2
      rw [if_neg (fun e => h1 e.symm)] at this
      rw [← this]
      exact getD_mem (by rw [List.length_set]; exact h2)
/-- One flow's part turns, its id and inner tuple stay. -/
theorem okF.set {M last : Int} {L : TL} (h : okF M last L) {k : Nat} (hk : k < L.length) (f : Fl) (h1 : f.id = (L.getD k f0).id) (h2 : f.i = (L.getD k f0).i) (h3 : f.o = zT ∨ ∀ j, j < L.length → j ≠ k → (L.getD j f0).o ≠ f.o) : okF M last (L.set k f) := by
  refine ⟨h.mb, by rw [List.length_set]; exact h.len, fun g hg => ?_, ?_, fun g hg => ?_, h.lb⟩
  · rcases (mem_set hk).1 hg with rfl | ⟨j, _, hj, rfl⟩
    · rw [h1]; exact h.ids _ (getD_mem hk)
    · exact h.ids _ (getD_mem hj)
  · refine List.pairwise_iff_getElem.2 (fun a b ha hb hab => ?_)
    have e : ∀ j, (hj : j < (L.set k f).length) → (L.set k f)[j] = (L.set k f).getD j f0 := fun j hj => by simp only [List.getD, List.getElem?_eq_getElem hj, Option.getD_some]
    rw [e a ha, e b hb]
    rw [List.length_set] at ha hb
    rw [set_getD f ha, set_getD f hb]
    by_cases ea : k = a
    · subst ea
      rw [if_pos rfl, if_neg (by omega)]
      have := pw_at h.pw ha hb (by omega)
      refine ⟨by rw [h1]; exact this.id, by rw [h2]; exact this.i, ?_⟩
      rcases h3 with h3 | h3
      · exact .inl h3
      · exact .inr (fun e2 => h3 b hb (by omega) e2.symm)
    · rw [if_neg ea]
      by_cases eb : k = b
      · subst eb
        rw [if_pos rfl]
        have := pw_at h.pw ha hb (by omega)
        refine ⟨by rw [h1]; exact this.id, by rw [h2]; exact this.i, ?_⟩
        by_cases ez : (L.getD a f0).o = zT
        · exact .inl ez
        · refine .inr (fun e2 => ?_)
          rcases h3 with h3 | h3
          · exact ez (e2.trans h3)
          · exact h3 a ha (by omega) e2
      · rw [if_neg eb]
        exact pw_at h.pw ha hb (by omega)
  · rcases (mem_set hk).1 hg with rfl | ⟨j, _, hj, rfl⟩
    · rw [h2]; exact h.nz _ (getD_mem hk)
    · exact h.nz _ (getD_mem hj)
theorem atF_some {id : Int} {L : TL} {k : Nat} (h : atF id L = some k) : k < L.length ∧ (L.getD k f0).id = id ∧ ∀ j, j < k → (L.getD j f0).id ≠ id := by
  obtain ⟨h1, h2, h3⟩ := List.findIdx?_eq_some_iff_getElem.1 h
  refine ⟨h1, ?_, fun j hj => ?_⟩
  · simp only [List.getD, List.getElem?_eq_getElem h1, Option.getD_some]; simpa using h2
  · have := h3 j hj
    simp only [List.getD, List.getElem?_eq_getElem (show j < L.length by omega), Option.getD_some]
    simpa using this
theorem atF_none {id : Int} {L : TL} (h : atF id L = none) : ∀ f ∈ L, f.id ≠ id := by
  intro f hf
  have := List.findIdx?_eq_none_iff.1 h f hf
  simpa using this
theorem emF_some {L : TL} {k : Nat} (h : emF L = some k) : k < L.length ∧ (L.getD k f0).em = true ∧ ∀ j, j < k → (L.getD j f0).em = false := by
  obtain ⟨h1, h2, h3⟩ := List.findIdx?_eq_some_iff_getElem.1 h
  refine ⟨h1, ?_, fun j hj => ?_⟩
  · simp only [List.getD, List.getElem?_eq_getElem h1, Option.getD_some]; exact h2
  · have := h3 j hj
    simp only [List.getD, List.getElem?_eq_getElem (show j < L.length by omega), Option.getD_some]
    simpa using this
theorem emF_none {L : TL} (h : emF L = none) : ∀ f ∈ L, f.em = false := by
  intro f hf
  have := List.findIdx?_eq_none_iff.1 h f hf
  simpa using this
theorem find_at {p : Fl → Bool} {L : TL} {k : Nat} (hk : k < L.length) (h1 : p (L.getD k f0) = true) (h2 : ∀ j, j < k → p (L.getD j f0) = false) : L.findIdx? p = some k ∧ L.find? p = some (L.getD k f0) := by
  have e : L.getD k f0 = L[k] := by simp only [List.getD, List.getElem?_eq_getElem hk, Option.getD_some]
  constructor
  · refine List.findIdx?_eq_some_iff_getElem.2 ⟨hk, by rw [← e]; exact h1, fun j hj => ?_⟩
    have := h2 j hj
    simp only [List.getD, List.getElem?_eq_getElem (show j < L.length by omega), Option.getD_some] at this
    simp [this]
  · rw [e]
    refine List.find?_eq_some_iff_getElem.2 ⟨by rw [← e]; exact h1, k, hk, rfl, fun j hj => ?_⟩
    have := h2 j hj
    simp only [List.getD, List.getElem?_eq_getElem (show j < L.length by omega), Option.getD_some] at this
    simp [this]
theorem find_non {p : Fl → Bool} {L : TL} (h : ∀ j, j < L.length → p (L.getD j f0) = false) : L.findIdx? p = none ∧ L.find? p = none := by
  have : ∀ f ∈ L, p f = false := fun f hf => by
    obtain ⟨j, hj, rfl⟩ := mem_at hf
    exact h j hj
  exact ⟨List.findIdx?_eq_none_iff.2 this, List.find?_eq_none.2 (fun f hf => by rw [this f hf]; simp)⟩
theorem innF_some {x : Tu} {L : TL} {f : Fl} (h : innF x L = some f) : f ∈ L ∧ f.i = x :=
  ⟨List.mem_of_find?_eq_some h, by simpa using List.find?_some h⟩
theorem innF_none {x : Tu} {L : TL} (h : innF x L = none) : ∀ f ∈ L, f.i ≠ x := fun f hf => by
  have := List.find?_eq_none.1 h f hf
  simpa using this
theorem outF_some {x : Tu} {L : TL} {f : Fl} (h : outF x L = some f) : x ≠ zT ∧ f ∈ L ∧ f.o = x := by
  unfold outF at h
  split at h
  · cases h
  · rename_i hx
    exact ⟨hx, List.mem_of_find?_eq_some h, by simpa using List.find?_some h⟩
theorem outF_none {x : Tu} {L : TL} (h : outF x L = none) : x = zT ∨ ∀ f ∈ L, f.o ≠ x := by
  unfold outF at h
  split at h
  · rename_i hx; exact .inl hx
  · refine .inr (fun f hf => ?_)
    have := List.find?_eq_none.1 h f hf
    simpa using this
/-- What Add tells (id, that of the one that went, the error) and leaves (the flows; the last id). -/
def addF (M last : Int) (a b : Tu) (L : TL) : (Int × Int × Int) × TL × Int :=
  if a = zT then ((0, 0, 1), L, last)
  else if isOf (innF a L) = true ∨ isOf (outF b L) = true then ((0, 0, 9), L, last)
  else if (L.length : Int) < M then ((last + 1, 0, 0), L ++ [⟨last + 1, a, b, true⟩], last + 1)
  else match emF L with
    | none => ((0, 0, 7), L, last)
    | some k => ((last + 1, (L.getD k f0).id, 0), L.eraseIdx k ++ [⟨last + 1, a, b, true⟩], last + 1)
def touchR (id : Int) (L : TL) : Int × TL := match atF id L with | none => (6, L) | some k => (0, touchF k L)
def readyR (id : Int) (L : TL) : Int × TL := match atF id L with | none => (6, L) | some k => (0, readyF k L)
def dropR (id : Int) (L : TL) : Int × TL := match atF id L with | none => (6, L) | some k => (0, L.eraseIdx k)
def leadR (id : Int) (o : Tu) (L : TL) : Int × TL := match atF id L with
  | none => (6, L)
  | some k => if isOf (outF o L) = true ∧ idOf (outF o L) ≠ id then (9, L) else (0, leadF k o L)
def flowR (id : Int) (L : TL) : Fl × Bool := match atF id L with | none => (f0, false) | some k => (L.getD k f0, true)
theorem isOf_some {r : Option Fl} : isOf r = true ↔ ∃ f, r = some f := by cases r <;> simp [isOf]
theorem isOf_none {r : Option Fl} : isOf r = false ↔ r = none := by cases r <;> simp [isOf]
end Go.Proofs.Ytnhlbohdlnjaaaa
