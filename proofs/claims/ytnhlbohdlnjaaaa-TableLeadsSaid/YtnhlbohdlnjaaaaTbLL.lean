/-
  Flows whose ids and inner tuples count from 1 on, with outer ones as told: what Add and Lead make of them. Nothing of the program.
-/
import Derived.Test.YtnhlbohdlnjaaaaTbTold
namespace Go.Proofs.Ytnhlbohdlnjaaaa
set_option maxRecDepth 10000
open Go.RowKit
set_option linter.unusedSimpArgs false
set_option linter.unusedVariables false

def LL (m : Nat) (g : Nat → Tu) : TL := (List.range m).map (fun (j : Nat) => ⟨(j : Int) + 1, ofT ((j : Int) + 1), g j, true⟩)
theorem ofT_inj {a b : Int} : ofT a = ofT b ↔ a = b := by unfold ofT; simp
theorem ofT_zero {a : Int} : ofT a = zT ↔ a = 0 := by unfold ofT zT; simp
theorem LL_len (m : Nat) (g : Nat → Tu) : (LL m g).length = m := by simp [LL]
theorem LL_get {m : Nat} (g : Nat → Tu) {j : Nat} (hj : j < m) : (LL m g).getD j f0 = ⟨(j : Int) + 1, ofT ((j : Int) + 1), g j, true⟩ := by
  simp [LL, List.getD, hj]
theorem LL_mem {m : Nat} {g : Nat → Tu} {f : Fl} (h : f ∈ LL m g) : ∃ j, j < m ∧ f = ⟨(j : Int) + 1, ofT ((j : Int) + 1), g j, true⟩ := by
  simp only [LL, List.mem_map, List.mem_range] at h
  obtain ⟨j, h1, h2⟩ := h
  exact ⟨j, h1, h2.symm⟩
theorem LL_ext {L M : TL} (hl : L.length = M.length) (h : ∀ j, j < M.length → L.getD j f0 = M.getD j f0) : L = M := by
  refine List.ext_getElem hl (fun j h1 h2 => ?_)
  have := h j h2
  simpa [List.getD, h1, h2] using this
theorem LL_lead {m : Nat} (g : Nat → Tu) {k : Nat} (hk : k < m) (x : Tu) : leadF k x (LL m g) = LL m (fun j => if j = k then x else g j) := by
  have hl : (leadF k x (LL m g)).length = m := by unfold leadF; rw [List.length_set, LL_len]
  refine LL_ext (by rw [hl, LL_len]) (fun j hj => ?_)
  rw [LL_len] at hj
  rw [LL_get _ hj]
  unfold leadF
  rw [set_getD _ (by rw [LL_len]; exact hj), LL_get _ hk]
  by_cases e : k = j
  · subst e; simp
  · rw [if_neg e, LL_get _ hj, if_neg (fun e2 => e e2.symm)]
theorem LL_at {m : Nat} (g : Nat → Tu) {j : Nat} (hj : j < m) {id : Int} (hid : id = (j : Int) + 1) : atF id (LL m g) = some j := by
  refine (find_at (p := fun f => decide (f.id = id)) (by rw [LL_len]; exact hj) ?_ (fun i hi => ?_)).1
  · rw [LL_get _ hj]; simp [hid]
  · rw [LL_get _ (by omega)]; simp; omega
theorem LL_out {m : Nat} (g : Nat → Tu) {t : Tu} (ht : t ≠ zT) {j : Nat} (hj : j < m) (hg : g j = t) (hu : ∀ i, i < m → g i = t → i = j) : outF t (LL m g) = some ⟨(j : Int) + 1, ofT ((j : Int) + 1), t, true⟩ := by
  unfold outF
  rw [if_neg ht]
  rw [(find_at (p := fun f => decide (f.o = t)) (L := LL m g) (k := j) (by rw [LL_len]; exact hj) (by rw [LL_get _ hj]; simp [hg]) (fun i hi => ?_)).2, LL_get _ hj, hg]
  rw [LL_get _ (by omega)]
  have : ¬ g i = t := fun e => by have := hu i (by omega) e; omega
  simpa using this
theorem LL_out_none {m : Nat} (g : Nat → Tu) {t : Tu} (h : ∀ i, i < m → g i ≠ t) : outF t (LL m g) = none := by
  unfold outF
  split
  · rfl
  · refine (find_non (p := fun f => decide (f.o = t)) (fun i hi => ?_)).2
    rw [LL_len] at hi
    rw [LL_get _ hi]
    simpa using h i hi
theorem LL_inn_none {m : Nat} (g : Nat → Tu) {a : Int} (h : (m : Int) < a) : innF (ofT a) (LL m g) = none := by
  refine (find_non (p := fun f => decide (f.i = ofT a)) (fun i hi => ?_)).2
  rw [LL_len] at hi
  rw [LL_get _ hi]
  have : ¬ ofT ((i : Int) + 1) = ofT a := fun e => by rw [ofT_inj] at e; omega
  simpa using this
theorem LL_add {M : Int} {i : Nat} (g : Nat → Tu) (hM : (i : Int) < M) (hg : ∀ j, j < i → g j = zT ∨ g j ≠ g i) : addF M i (ofT ((i : Int) + 1)) (g i) (LL i g) = (((i : Int) + 1, 0, 0), LL (i + 1) g, (i : Int) + 1) := by
  unfold addF
  rw [if_neg (fun e => by rw [ofT_zero] at e; omega), LL_inn_none g (show (i : Int) < (i : Int) + 1 by omega)]
  have ho : outF (g i) (LL i g) = none := by
    by_cases e : g i = zT
    · unfold outF; rw [if_pos e]
    · refine LL_out_none g (fun j hj e2 => ?_)
      rcases hg j hj with h1 | h1
      · exact e (e2.symm.trans h1)
      · exact h1 e2
  rw [ho, if_neg (by simp [isOf]), LL_len, if_pos hM]
  have : LL (i + 1) g = LL i g ++ [⟨(i : Int) + 1, ofT ((i : Int) + 1), g i, true⟩] := by simp [LL, List.range_succ]
  rw [this]
theorem LL_leadR {m : Nat} (g : Nat → Tu) {k : Nat} (hk : k < m) (x : Tu) {id : Int} (hid : id = (k : Int) + 1) (hx : ∀ i, i < m → g i = x → x = zT ∨ i = k) : leadR id x (LL m g) = (0, LL m (fun j => if j = k then x else g j)) := by
  unfold leadR
  rw [LL_at g hk hid]
  simp only
  rw [if_neg, LL_lead g hk]
  rintro ⟨h1, h2⟩
  obtain ⟨f, hf⟩ := isOf_some.1 h1
  obtain ⟨h3, h4, h5⟩ := outF_some hf
  obtain ⟨j, hj, rfl⟩ := LL_mem h4
  rcases hx j hj h5 with e | e
  · exact h3 e
  · rw [hf] at h2
    exact h2 (by rw [hid, ← e]; rfl)
theorem LL_leadR_there {m : Nat} (g : Nat → Tu) {k j : Nat} (hk : k < m) (hj : j < m) (x : Tu) {id : Int} (hid : id = (k : Int) + 1) (hx0 : x ≠ zT) (hg : g j = x) (hu : ∀ i, i < m → g i = x → i = j) (hne : j ≠ k) : leadR id x (LL m g) = (9, LL m g) := by
  unfold leadR
  rw [LL_at g hk hid]
  simp only
  rw [LL_out g hx0 hj hg hu, if_pos]
  refine ⟨rfl, ?_⟩
  show (j : Int) + 1 ≠ id
  omega
theorem LL_flow {m : Nat} (g : Nat → Tu) {k : Nat} (hk : k < m) {id : Int} (hid : id = (k : Int) + 1) : flowR id (LL m g) = (⟨id, ofT id, g k, true⟩, true) := by
  unfold flowR
  rw [LL_at g hk hid]
  simp only
  rw [LL_get g hk, hid]
end Go.Proofs.Ytnhlbohdlnjaaaa
