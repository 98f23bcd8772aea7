/-
  Send's two loops, plain: what is told so far, and what is still to be told.
-/
import Derived.Test.YtncbkgcblmohoaaRxP
namespace Go.Proofs.Ytncbkgcblmohoaa
set_option maxRecDepth 10000
set_option linter.unusedSimpArgs false
set_option linter.unusedVariables false

/-- What is still to be told once k bytes of the queue have been told. -/
def restX (s : XS) (k : Nat) : List Int := (s.bs.take (limX s)).drop k
theorem restX_len (s : XS) (k : Nat) : (restX s k).length = limX s - k := by
  unfold restX
  rw [List.length_drop, List.length_take]
  unfold limX
  omega
theorem limX_lt (s : XS) (k : Nat) (hw : 0 ≤ s.win) : k < limX s ↔ k < s.bs.length ∧ (k : Int) < s.win := by
  unfold limX
  omega
theorem restX_get (s : XS) (k t : Nat) (h : k + t < limX s) : (restX s k)[t]? = s.bs[k + t]? := by
  unfold restX
  rw [List.getElem?_drop, List.getElem?_take_of_lt h]
theorem restX_take (s : XS) (k t : Nat) (h : k + t < limX s) : (restX s k).take (t + 1) = (restX s k).take t ++ [s.bs.getD (k + t) 0] := by
  have h1 : t < (restX s k).length := by rw [restX_len]; omega
  have h2 := restX_get s k t h
  rw [List.take_add_one, h2]
  have h3 : k + t < s.bs.length := by unfold limX at h; omega
  simp [List.getD, List.getElem?_eq_getElem h3]
theorem restX_drop (s : XS) (k t : Nat) : (restX s k).drop t = restX s (k + t) := by unfold restX; rw [List.drop_drop]
theorem cutX_fuel (m : Nat) (hm : 0 < m) : ∀ (f f' : Nat) (a : Int) (l : List Int), l.length ≤ f → l.length ≤ f' → cutX m f a l = cutX m f' a l := by
  intro f
  induction f with
  | zero =>
    intro f' a l h _
    have : l = [] := List.length_eq_zero_iff.1 (by omega)
    subst this
    cases f' <;> simp [cutX]
  | succ f ih =>
    intro f' a l h h'
    cases f' with
    | zero =>
      have : l = [] := List.length_eq_zero_iff.1 (by omega)
      subst this
      simp [cutX]
    | succ f' =>
      by_cases e : l = []
      · simp [cutX, e]
      · have hl : 0 < l.length := List.length_pos_iff.2 e
        simp only [cutX, if_neg e]
        rw [ih f' _ _ (by rw [List.length_drop]; omega) (by rw [List.length_drop]; omega)]
/-- What is to be told from number k on. -/
def toldX (m : Nat) (s : XS) (k : Nat) : List (Int × List Int) := cutX m (restX s k).length (numX (s.una + (k : Int))) (restX s k)
theorem toldX_none (m : Nat) (s : XS) (k : Nat) (h : ¬ k < limX s) : toldX m s k = [] := by
  have : restX s k = [] := List.length_eq_zero_iff.1 (by rw [restX_len]; omega)
  unfold toldX
  rw [this]
  rfl
/-- One piece more: t bytes from number k on. -/
theorem toldX_step (m : Nat) (s : XS) (k t : Nat) (hm : 0 < m) (h : k < limX s) (ht : t = min m (limX s - k)) : toldX m s k = (numX (s.una + (k : Int)), (restX s k).take t) :: toldX m s (k + t) := by
  have hl := restX_len s k
  have hne : restX s k ≠ [] := fun e => by rw [e] at hl; simp at hl; omega
  have htk : (restX s k).take m = (restX s k).take t := by
    by_cases hmt : m ≤ limX s - k
    · rw [show t = m by omega]
    · rw [List.take_of_length_le (by omega), List.take_of_length_le (by omega)]
  have hdk : (restX s k).drop m = (restX s k).drop t := by
    by_cases hmt : m ≤ limX s - k
    · rw [show t = m by omega]
    · rw [List.drop_of_length_le (by omega), List.drop_of_length_le (by omega)]
  have hlt : ((restX s k).take t).length = t := by rw [List.length_take]; omega
  unfold toldX
  rw [show (restX s k).length = ((restX s k).length - 1) + 1 by omega]
  simp only [cutX, if_neg hne]
  rw [htk, hdk, hlt, restX_drop, show numX (numX (s.una + (k : Int)) + (t : Int)) = numX (s.una + ((k + t : Nat) : Int)) by unfold numX; omega]
  rw [cutX_fuel m hm _ (restX s (k + t)).length _ _ (by rw [restX_len, restX_len]; omega) (Nat.le_refl _)]
theorem sendL_told (mss : Int) (s : XS) (h : ¬ badM mss = true) : sendL mss s = toldX mss.toNat s s.sent := by
  unfold sendL toldX nxtX sendR restX
  rw [if_neg h]
theorem sendS_told (mss : Int) (s : XS) (h : ¬ badM mss = true) (k : Nat) (h1 : s.sent ≤ k) (h2 : k ≤ max s.sent (limX s)) (h3 : ¬ k < limX s) : sendS mss s = { s with sent := k } := by
  unfold sendS
  rw [if_neg h, show max s.sent (limX s) = k by omega]
end Go.Proofs.Ytncbkgcblmohoaa
