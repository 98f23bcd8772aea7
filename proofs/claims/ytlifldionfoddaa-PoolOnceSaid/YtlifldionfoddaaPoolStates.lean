/-
  A pool's states, plainly, as the laws of pool come to them. Nothing of the program.
-/
import Derived.Test.YtlifldionfoddaaPool
namespace Go.Proofs.Ytlifldionfoddaa
set_option maxRecDepth 10000
open Go.RowKit
set_option linter.unusedSimpArgs false
set_option linter.unusedVariables false

theorem cnt_lt (n k : Nat) (hk : k ≤ n) : cnt n (fun i => decide (i < k)) = k := by
  induction n generalizing k with
  | zero => have : k = 0 := by omega
            subst this; rfl
  | succ n ih =>
    rw [cnt_succ]
    by_cases h : k ≤ n
    · rw [ih k h, if_neg (by simp; omega)]
      rfl
    · have : k = n + 1 := by omega
      subst this
      rw [cnt_congr (q := fun i => decide (i < n)) (fun i hi => by simp; omega), ih n (Nat.le_refl _), if_pos (by simp)]
/-- The first j are taken. -/
def stL (lo : Int) (n j : Nat) : AP := ⟨lo, n, 0, if j = 0 then 0 else 3, fun i => decide (i < j), fun _ => 0⟩
theorem ap_ext {a b : AP} (h1 : a.lo = b.lo) (h2 : a.n = b.n) (h3 : a.rest = b.rest) (h4 : a.now = b.now) (h5 : a.tk = b.tk) (h6 : a.un = b.un) : a = b := by
  cases a; cases b; simp_all
theorem atA_stL (lo : Int) (n j : Nat) : atA (stL lo n j) 3 = ⟨lo, n, 0, 3, fun i => decide (i < j), fun _ => 0⟩ := by
  unfold atA stL
  refine ap_ext rfl rfl rfl ?_ rfl rfl
  simp only
  by_cases h : j = 0 <;> simp [h]
theorem first_stL (lo : Int) (n j : Nat) (hj : j < n) : firstA (atA (stL lo n j) 3) = some j := by
  rw [atA_stL]
  refine fst_some hj ?_ (fun i hi => ?_)
  · simp [freeAt]
  · simp [freeAt, hi]
theorem take_stL (lo : Int) (n j : Nat) (hj : j < n) : takeP (stL lo n j) 3 = lo + (j : Int) ∧ takeE (stL lo n j) 3 = 0 ∧ takeA (stL lo n j) 3 = stL lo n (j + 1) := by
  have hb : ¬ bigT < 3 := by decide
  unfold takeP takeE takeA
  rw [if_neg hb, if_neg hb, if_neg hb, first_stL lo n j hj]
  refine ⟨rfl, rfl, ?_⟩
  rw [atA_stL]
  unfold takeI stL
  refine ap_ext rfl rfl rfl (by simp) ?_ rfl
  funext i
  simp only
  by_cases h : i = j
  · subst h; simp
  · by_cases h2 : i < j
    · simp [h, h2]; omega
    · simp [h, h2]; omega
theorem new_stL (lo hi : Int) (n : Nat) (hn : hi - lo + 1 = n) : newA lo hi 0 = stL lo n 0 := by
  unfold newA stL
  refine ap_ext rfl (by simp only; omega) rfl (by simp) ?_ rfl
  funext i
  simp
/-- One of them is given back. -/
def stG (lo : Int) (n k b : Nat) : AP := ⟨lo, n, 0, 3, fun i => !decide (i = b) && decide (i < k), fun i => if i = b then 3 else 0⟩
theorem give_stL (lo : Int) (n k b : Nat) (hk : k ≤ n) (hb : b < k) : giveE (stL lo n k) (lo + (b : Int)) 1 = 0 ∧ giveA (stL lo n k) (lo + (b : Int)) 1 = stG lo n k b := by
  have h1 : ¬ bigT < 1 := by decide
  have ht : takenA (stL lo n k) (lo + (b : Int)) = true := by
    have h2 := takenA_at (stL lo n k) b
    have h3 : (stL lo n k).lo = lo := rfl
    rw [h3] at h2
    rw [h2]
    have h4 : b < n := by omega
    simp [stL, h4, hb]
  unfold giveE giveA
  rw [if_neg h1, if_neg h1, if_pos ht, if_pos ht]
  refine ⟨rfl, ?_⟩
  have hk0 : ¬ k = 0 := by omega
  have hat : atA (stL lo n k) 1 = ⟨lo, n, 0, 3, fun i => decide (i < k), fun _ => 0⟩ := by
    unfold atA stL
    refine ap_ext rfl rfl rfl ?_ rfl rfl
    simp [hk0]
  rw [hat]
  have e : (lo + (b : Int) - (stL lo n k).lo).toNat = b := by
    show (lo + (b : Int) - lo).toNat = b
    omega
  rw [e]
  unfold giveI stG
  refine ap_ext rfl rfl rfl rfl rfl ?_
  funext i
  simp
theorem give_stG (lo : Int) (n k b : Nat) : giveE (stG lo n k b) (lo + (b : Int)) 1 = 6 ∧ giveA (stG lo n k b) (lo + (b : Int)) 1 = stG lo n k b := by
  have h1 : ¬ bigT < 1 := by decide
  have ht : takenA (stG lo n k b) (lo + (b : Int)) = false := by
    have h2 := takenA_at (stG lo n k b) b
    have h3 : (stG lo n k b).lo = lo := rfl
    rw [h3] at h2
    rw [h2]
    simp [stG]
  unfold giveE giveA
  rw [if_neg h1, if_neg h1, ht]
  simp
theorem take_stG (lo : Int) (n k b : Nat) (hk : k ≤ n) (hb : b < k) : takeP (stG lo n k b) 0 = lo + (b : Int) ∧ takeE (stG lo n k b) 0 = 0 ∧ countA (takeA (stG lo n k b) 0) = k := by
  have h1 : ¬ bigT < 0 := by decide
  have hat : atA (stG lo n k b) 0 = stG lo n k b := by
    unfold atA stG
    refine ap_ext rfl rfl rfl ?_ rfl rfl
    simp
  have hf : firstA (stG lo n k b) = some b := by
    refine fst_some (by show b < n; omega) ?_ (fun i hi => ?_)
    · simp [freeAt, stG]
    · have h2 : ¬ i = b := by omega
      have h3 : i < k := by omega
      simp [freeAt, stG, h2, h3]
  unfold takeP takeE takeA
  rw [if_neg h1, if_neg h1, if_neg h1, hat, hf]
  refine ⟨rfl, rfl, ?_⟩
  unfold countA takeI stG
  simp only
  rw [cnt_congr (q := fun i => decide (i < k)) (fun i hi => ?_), cnt_lt n k hk]
  by_cases h : i = b
  · subst h; simp [hb]
  · simp [h]
end Go.Proofs.Ytlifldionfoddaa
