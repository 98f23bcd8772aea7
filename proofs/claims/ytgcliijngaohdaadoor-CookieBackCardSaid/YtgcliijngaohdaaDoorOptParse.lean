/-
  The contract of the document's own Parse for options (culvertref05), and of culvertref03's Own.
-/
import Derived.Test.YtgcliijngaohdaaDoorOptFind
import Derived.Deep.RegionHeld3
import Derived.IntWalk
import Derived.Test.YtgcliijngaohdaaDoorPart
namespace Go.Proofs.YtgcliijngaohdaaDoor
set_option maxRecDepth 10000
open Go.RowKit

/-- Options' bytes, read: the options and the error. -/
def parseF : Nat → List Int → List (Int × List Int) × Int
  | 0, _ => ([], 0)
  | _ + 1, [] => ([], 0)
  | f + 1, k :: r =>
    if k = 0 then (if r.all (fun x => x == 0) = true then ([], 0) else ([], 5))
    else if k = 1 then parseF f r
    else match r with
      | [] => ([], 4)
      | n :: r' => if n < 2 then ([], 5) else if (r'.length : Int) + 2 < n then ([], 4) else
        if (parseF f (r'.drop (n - 2).toNat)).2 = 0 then ((k, r'.take (n - 2).toNat) :: (parseF f (r'.drop (n - 2).toNat)).1, 0) else ([], (parseF f (r'.drop (n - 2).toNat)).2)
def parseL (b : List Int) : List (Int × List Int) × Int := parseF b.length b
theorem parseF_stable : ∀ (f g : Nat) (b : List Int), b.length ≤ f → b.length ≤ g → parseF f b = parseF g b
  | 0, 0, _, _, _ => rfl
  | 0, _ + 1, [], _, _ => rfl
  | _ + 1, 0, [], _, _ => rfl
  | _ + 1, _ + 1, [], _, _ => rfl
  | f + 1, g + 1, k :: r, hf, hg => by
    have hf' : r.length ≤ f := by simpa using hf
    have hg' : r.length ≤ g := by simpa using hg
    unfold parseF
    split
    · rfl
    · split
      · exact parseF_stable f g r hf' hg'
      · match r, hf', hg' with
        | [], _, _ => rfl
        | n :: r', hf', hg' =>
          have e := parseF_stable f g (r'.drop (n - 2).toNat) (by simp at hf' ⊢; omega) (by simp at hg' ⊢; omega)
          simp only [e]
theorem parseL_nil : parseL [] = ([], 0) := rfl
theorem parseL_zero (r : List Int) : parseL (0 :: r) = (if r.all (fun x => x == 0) = true then ([], 0) else ([], 5)) := by
  show parseF (r.length + 1) (0 :: r) = _
  unfold parseF
  rw [if_pos rfl]
theorem parseL_one (r : List Int) : parseL (1 :: r) = parseL r := by
  show parseF (r.length + 1) (1 :: r) = _
  unfold parseF
  rw [if_neg (by decide), if_pos rfl]
  rfl
theorem parseL_end (k : Int) (h0 : k ≠ 0) (h1 : k ≠ 1) : parseL [k] = ([], 4) := by
  show parseF 1 [k] = _
  unfold parseF
  rw [if_neg h0, if_neg h1]
/-- What is told of the rest, behind what was read. -/
def behindO (acc : List (Int × List Int)) (p : List (Int × List Int) × Int) : List (Int × List Int) × Int := if p.2 = 0 then (acc ++ p.1, 0) else ([], p.2)
theorem parseL_opt (k n : Int) (r : List Int) (h0 : k ≠ 0) (h1 : k ≠ 1) :
    parseL (k :: n :: r) = if n < 2 then ([], 5) else if (r.length : Int) + 2 < n then ([], 4) else behindO [(k, r.take (n - 2).toNat)] (parseL (r.drop (n - 2).toNat)) := by
  show parseF (r.length + 2) (k :: n :: r) = _
  unfold parseF
  rw [if_neg h0, if_neg h1]
  have e := parseF_stable (r.length + 1) (r.drop (n - 2).toNat).length (r.drop (n - 2).toNat) (by simp; omega) (Nat.le_refl _)
  simp only [e]
  rfl
theorem behindO_app (a b : List (Int × List Int)) (p : List (Int × List Int) × Int) : behindO a (behindO b p) = behindO (a ++ b) p := by
  unfold behindO
  by_cases h : p.2 = 0 <;> simp [h]
theorem behindO_nil (p : List (Int × List Int) × Int) (h : p.2 ≠ 0 → p.1 = []) : behindO [] p = p := by
  unfold behindO
  by_cases h0 : p.2 = 0
  · rw [if_pos h0]; ext <;> simp [h0]
  · rw [if_neg h0]; ext <;> simp [h h0]
theorem parseF_err : ∀ (f : Nat) (b : List Int), (parseF f b).2 ≠ 0 → (parseF f b).1 = []
  | 0, _, h => rfl
  | _ + 1, [], h => rfl
  | f + 1, k :: r, h => by
    unfold parseF at h ⊢
    split
    · split <;> rfl
    · rename_i h0
      rw [if_neg h0] at h
      split
      · rename_i h1
        rw [if_pos h1] at h
        exact parseF_err f r h
      · rename_i h1
        rw [if_neg h1] at h
        match r with
        | [] => rfl
        | n :: r' =>
          simp only at h ⊢
          split
          · rfl
          · rename_i h2
            rw [if_neg h2] at h
            split
            · rfl
            · rename_i h3
              rw [if_neg h3] at h
              split
              · rename_i h4
                rw [if_pos h4] at h
                exact absurd rfl h
              · rfl
/-- What Parse tells of bytes. -/
def parseO (b : List Int) : List (Int × List Int) × Int := if 40 < b.length then ([], 3) else parseL b
/-- The options' bytes lie in rows of block B and on. -/
def FreshO (B : Nat) (os : List OptV) : Prop := ∀ o ∈ os, ∀ b off, o.A = some ⟨b, off, none⟩ → 0 < o.n → B ≤ b
theorem FreshO.snoc {B : Nat} {os : List OptV} {v : OptV} (h : FreshO B os) (hv : 0 < v.n → ∀ b off, v.A = some ⟨b, off, none⟩ → B ≤ b) : FreshO B (os ++ [v]) := by
  intro o ho b off e h0
  rcases List.mem_append.1 ho with h1 | h1
  · exact h o h1 b off e h0
  · obtain rfl : o = v := by simpa using h1
    exact hv h0 b off e
theorem drop_cons_ (b : List Int) (j : Nat) (h : j < b.length) : b.drop j = b.getD j 0 :: b.drop (j + 1) := by rw [List.drop_eq_getElem_cons h]; simp [List.getD, List.getElem?_eq_getElem h]
end Go.Proofs.YtgcliijngaohdaaDoor
