/-
  Forwards as plain data (stage 14, written ahead): their order, what is found, what may be, in and out again. Nothing of the program.
-/
import Derived.Test.YtknmpfdmjfbpdaaTup
namespace Go.Proofs.Ytknmpfdmjfbpdaa
set_option maxRecDepth 10000
open Go.RowKit
set_option linter.unusedSimpArgs false
set_option linter.unusedVariables false

structure Fw where
  pr : Int
  po : Int
  ad : Int
  tp : Int
deriving DecidableEq
abbrev FWL := List Fw
def fw0 : Fw := ⟨0, 0, 0, 0⟩
def fwLt (a b : Fw) : Bool := decide (a.pr < b.pr) || (decide (a.pr = b.pr) && decide (a.po < b.po))
def FwNe (a b : Fw) : Prop := ¬ (a.pr = b.pr ∧ a.po = b.po)
def fwIns (f : Fw) (L : FWL) : FWL := L.takeWhile (fun g => fwLt g f) ++ f :: L.dropWhile (fun g => fwLt g f)
def fwAll (L : FWL) : FWL := L.foldl (fun out f => fwIns f out) []
def fwFind (p q : Int) (L : FWL) : Option Fw := L.find? (fun f => decide (f.pr = p ∧ f.po = q))
def fwOf (r : Option Fw) : Fw := match r with | none => fw0 | some f => f
def fwIs (r : Option Fw) : Bool := match r with | none => false | some _ => true
def fwInw (x : Tu) (L : FWL) : Tu × Bool := match fwFind x.pr x.dp L with
  | none => (x, false)
  | some f => ({ x with ds := f.ad, dp := f.tp }, true)
def fwLeads (x : Tu) (f : Fw) : Bool := decide (f.pr = x.pr ∧ f.ad = x.sr ∧ f.tp = x.sp)
def fwOut (x : Tu) (outer : Int) (L : FWL) : Tu × Bool := match (fwAll L).find? (fwLeads x) with
  | none => (x, false)
  | some f => ({ x with sr := outer, sp := f.po }, true)
theorem fwLt_iff {a b : Fw} : fwLt a b = true ↔ a.pr < b.pr ∨ (a.pr = b.pr ∧ a.po < b.po) := by simp [fwLt]
theorem fwLt_trans {a b c : Fw} (h1 : fwLt a b = true) (h2 : fwLt b c = true) : fwLt a c = true := by rw [fwLt_iff] at *; omega
theorem fwLt_asym {a b : Fw} (h1 : fwLt a b = true) (h2 : fwLt b a = true) : False := by rw [fwLt_iff] at *; omega
theorem fwLt_ne {a b : Fw} (h : fwLt a b = true) : FwNe a b := by rw [fwLt_iff] at h; unfold FwNe; omega
theorem fwLt_or {a b : Fw} (h : FwNe a b) : fwLt a b = true ∨ fwLt b a = true := by
  unfold FwNe at h
  rw [fwLt_iff, fwLt_iff]
  omega
theorem FwNe.symm {a b : Fw} (h : FwNe a b) : FwNe b a := fun ⟨h1, h2⟩ => h ⟨h1.symm, h2.symm⟩
theorem fwIns_nil (f : Fw) : fwIns f [] = [f] := rfl
theorem fwIns_cons (f g : Fw) (L : FWL) : fwIns f (g :: L) = if fwLt g f = true then g :: fwIns f L else f :: g :: L := by
  unfold fwIns
  by_cases h : fwLt g f = true
  · rw [if_pos h, List.takeWhile_cons, List.dropWhile_cons, if_pos h, if_pos h, List.cons_append]
  · rw [if_neg h, List.takeWhile_cons, List.dropWhile_cons, if_neg h, if_neg h, List.nil_append]
theorem fwIns_perm (f : Fw) (L : FWL) : (fwIns f L).Perm (f :: L) := by
  unfold fwIns
  refine List.perm_middle.trans ?_
  rw [List.takeWhile_append_dropWhile]
theorem fold_perm (L : FWL) : ∀ acc : FWL, (L.foldl (fun out f => fwIns f out) acc).Perm (acc ++ L) := by
  induction L with
  | nil => intro acc; simp
  | cons f L ih =>
    intro acc
    rw [List.foldl_cons]
    refine (ih _).trans ?_
    refine ((fwIns_perm f acc).append_right L).trans ?_
    exact (List.perm_middle (l₁ := acc) (l₂ := L) (a := f)).symm
theorem fwAll_perm (L : FWL) : (fwAll L).Perm L := by have := fold_perm L []; simpa [fwAll] using this
theorem fwIns_sorted {f : Fw} {L : FWL} (h : L.Pairwise (fun a b => fwLt a b = true)) (hne : ∀ g ∈ L, FwNe g f) : (fwIns f L).Pairwise (fun a b => fwLt a b = true) := by
  induction L with
  | nil => exact List.pairwise_singleton _ _
  | cons g L ih =>
    rw [List.pairwise_cons] at h
    rw [fwIns_cons]
    by_cases hg : fwLt g f = true
    · rw [if_pos hg, List.pairwise_cons]
      refine ⟨fun x hx => ?_, ih h.2 (fun x hx => hne x (List.mem_cons_of_mem _ hx))⟩
      rcases List.mem_cons.1 ((fwIns_perm f L).mem_iff.1 hx) with rfl | hx
      · exact hg
      · exact h.1 x hx
    · rw [if_neg hg]
      have hfg : fwLt f g = true := by
        rcases fwLt_or (hne g (List.mem_cons_self ..)) with e | e
        · exact absurd e hg
        · exact e
      refine List.pairwise_cons.2 ⟨fun x hx => ?_, List.pairwise_cons.2 h⟩
      rcases List.mem_cons.1 hx with rfl | hx
      · exact hfg
      · exact fwLt_trans hfg (h.1 x hx)
theorem fold_sorted (L : FWL) : ∀ acc : FWL, acc.Pairwise (fun a b => fwLt a b = true) → (acc ++ L).Pairwise FwNe → (L.foldl (fun out f => fwIns f out) acc).Pairwise (fun a b => fwLt a b = true) := by
  induction L with
  | nil => intro acc h _; exact h
  | cons f L ih =>
    intro acc h hd
    rw [List.foldl_cons]
    refine ih _ (fwIns_sorted h (fun g hg => ?_)) ?_
    · exact (List.pairwise_append.1 hd).2.2 g hg f (List.mem_cons_self ..)
    · refine hd.perm ?_ (fun h => h.symm)
      refine (List.perm_middle (l₁ := acc) (l₂ := L) (a := f)).trans ?_
      exact ((fwIns_perm f acc).append_right L).symm
theorem fwAll_sorted {L : FWL} (h : L.Pairwise FwNe) : (fwAll L).Pairwise (fun a b => fwLt a b = true) := fold_sorted L [] List.Pairwise.nil (by simpa using h)
/-- The order of All is the only one. -/
theorem fwAll_only {L A : FWL} (hs : A.Pairwise (fun a b => fwLt a b = true)) (hp : A.Perm L) : A = fwAll L := by
  have hne : L.Pairwise FwNe := (hs.imp (fun h => fwLt_ne h)).perm hp (fun h => h.symm)
  exact List.Perm.eq_of_pairwise (fun a b _ _ h1 h2 => (fwLt_asym h1 h2).elim) hs (fwAll_sorted hne) (hp.trans (fwAll_perm L).symm)
theorem fwAll_same {L L' : FWL} (h : L.Pairwise FwNe) (hp : L'.Perm L) : fwAll L' = fwAll L :=
  fwAll_only (fwAll_sorted (h.perm hp.symm (fun h => h.symm))) ((fwAll_perm L').trans hp)
theorem fw_one {L : FWL} (h : L.Pairwise FwNe) {a b : Fw} (ha : a ∈ L) (hb : b ∈ L) (h1 : a.pr = b.pr) (h2 : a.po = b.po) : a = b := by
  induction L with
  | nil => cases ha
  | cons g L ih =>
    rw [List.pairwise_cons] at h
    rcases List.mem_cons.1 ha with rfl | ha'
    · rcases List.mem_cons.1 hb with rfl | hb'
      · rfl
      · exact absurd ⟨h1, h2⟩ (h.1 b hb')
    · rcases List.mem_cons.1 hb with rfl | hb'
      · exact absurd ⟨h1.symm, h2.symm⟩ (h.1 a ha')
      · exact ih h.2 ha' hb'
theorem fwFind_some {p q : Int} {L : FWL} {f : Fw} (h : fwFind p q L = some f) : f ∈ L ∧ f.pr = p ∧ f.po = q := ⟨List.mem_of_find?_eq_some h, by simpa using List.find?_some h⟩
theorem fwFind_none {p q : Int} {L : FWL} (h : fwFind p q L = none) : ∀ f ∈ L, ¬ (f.pr = p ∧ f.po = q) := fun f hf => by
  have := List.find?_eq_none.1 h f hf
  simpa using this
theorem fwFind_at {L : FWL} (h : L.Pairwise FwNe) {f : Fw} (hf : f ∈ L) : fwFind f.pr f.po L = some f := by
  cases he : fwFind f.pr f.po L with
  | none => exact absurd ⟨rfl, rfl⟩ (fwFind_none he f hf)
  | some g =>
    obtain ⟨h1, h2, h3⟩ := fwFind_some he
    rw [fw_one h h1 hf h2 h3]
theorem fwFind_no {p q : Int} {L : FWL} (h : ∀ f ∈ L, ¬ (f.pr = p ∧ f.po = q)) : fwFind p q L = none := List.find?_eq_none.2 (fun f hf => by simpa using h f hf)
theorem fwFind_same {p q : Int} {L L' : FWL} (h : L.Pairwise FwNe) (hp : ∀ f, f ∈ L' ↔ f ∈ L) : fwFind p q L' = fwFind p q L := by
  cases he : fwFind p q L with
  | none => exact fwFind_no (fun f hf => fwFind_none he f ((hp f).1 hf))
  | some f =>
    obtain ⟨h1, h2, h3⟩ := fwFind_some he
    cases he2 : fwFind p q L' with
    | none => exact absurd ⟨h2, h3⟩ (fwFind_none he2 f ((hp f).2 h1))
    | some g =>
      obtain ⟨g1, g2, g3⟩ := fwFind_some he2
      rw [fw_one h ((hp g).1 g1) h1 (g2.trans h2.symm) (g3.trans h3.symm)]
/-- A list that may be: 'ok' says it of each. -/
structure FwMay (ok : Fw → Prop) (L : FWL) : Prop where
  len : L.length ≤ 64
  each : ∀ f ∈ L, ok f
  ne : L.Pairwise FwNe
theorem FwMay.perm {ok : Fw → Prop} {L L' : FWL} (h : FwMay ok L) (hp : L'.Perm L) : FwMay ok L' := ⟨by rw [hp.length_eq]; exact h.len, fun f hf => h.each f (hp.mem_iff.1 hf), h.ne.perm hp.symm (fun h => h.symm)⟩
theorem FwMay.sub {ok : Fw → Prop} {L L' : FWL} (h : FwMay ok L) (hs : L'.Sublist L) : FwMay ok L' := ⟨Nat.le_trans hs.length_le h.len, fun f hf => h.each f (hs.subset hf), h.ne.sublist hs⟩
theorem fwMay_twice {ok : Fw → Prop} {L : FWL} {f : Fw} (hf : f ∈ L) : ¬ FwMay ok (L ++ [f]) := fun h =>
  (List.pairwise_append.1 h.ne).2.2 f hf f (List.mem_singleton.2 rfl) ⟨rfl, rfl⟩
/-- What comes in goes out again: who answers leads to the same place; it is the one that came, if no other leads there. -/
theorem fw_back {L : FWL} {x : Tu} {f : Fw} (h : fwFind x.pr x.dp L = some f) {y : Tu} (hy : y.pr = x.pr ∧ y.sr = f.ad ∧ y.sp = f.tp) : ∃ g, (fwAll L).find? (fwLeads y) = some g ∧ g ∈ L ∧ g.pr = f.pr ∧ g.ad = f.ad ∧ g.tp = f.tp := by
  obtain ⟨h1, h2, h3⟩ := fwFind_some h
  have hm : f ∈ fwAll L := (fwAll_perm L).mem_iff.2 h1
  have hl : fwLeads y f = true := by unfold fwLeads; simp [hy.1, hy.2.1, hy.2.2, h2]
  cases he : (fwAll L).find? (fwLeads y) with
  | none => exact absurd hl (List.find?_eq_none.1 he f hm)
  | some g =>
    have hg := List.find?_some he
    unfold fwLeads at hg
    simp at hg
    exact ⟨g, rfl, (fwAll_perm L).mem_iff.1 (List.mem_of_find?_eq_some he), by rw [hg.1, hy.1, h2], by rw [hg.2.1, hy.2.1], by rw [hg.2.2, hy.2.2]⟩
end Go.Proofs.Ytknmpfdmjfbpdaa
