/-
  Options' bytes, plainly: what is laid is read again, and what is read may be laid. No function of the program.
-/
import Derived.Test.YtoblllgefmajiaaOptParse
import Derived.Test.YtoblllgefmajiaaOptPut
namespace Go.Proofs.Ytoblllgefmajiaa
set_option maxRecDepth 10000
open Go.RowKit

theorem badB_false {l : Int × List Int} (h : badB l = false) : 2 ≤ l.1 ∧ l.2.length ≤ 38 := by
  unfold badB at h
  simp at h
  omega
theorem behindO_ok (a b : List (Int × List Int)) : behindO a (b, 0) = (a ++ b, 0) := by simp [behindO]
/-- What stands behind options that are laid is read behind them. -/
theorem parseL_bytes (r : List Int) : ∀ (ls : List (Int × List Int)), (∀ l ∈ ls, 2 ≤ l.1) → parseL (bytesO ls ++ r) = behindO ls (parseL r)
  | [], _ => by
    simp only [bytesO, List.flatMap_nil, List.nil_append]
    exact (behindO_nil (parseL r) (parseF_err _ _)).symm
  | l :: ls, h => by
    have h2 := h l (by simp)
    have ih := parseL_bytes r ls (fun x hx => h x (by simp [hx]))
    have e : bytesO (l :: ls) ++ r = l.1 :: (2 + (l.2.length : Int)) :: (l.2 ++ (bytesO ls ++ r)) := by simp [bytesO, bytesOne]
    rw [e, parseL_opt _ _ _ (by omega) (by omega), if_neg (by omega), if_neg (by simp; omega)]
    have e2 : (2 + (l.2.length : Int) - 2).toNat = l.2.length := by omega
    rw [e2, List.take_left, List.drop_left, ih, behindO_app]
    rfl
theorem parseL_zeros (k : Nat) : parseL (List.replicate k 0) = ([], 0) := by
  cases k with
  | zero => rfl
  | succ k => rw [List.replicate_succ, parseL_zero, if_pos (by simp)]
theorem parseL_ones (r : List Int) : ∀ k : Nat, parseL (List.replicate k 1 ++ r) = parseL r
  | 0 => rfl
  | k + 1 => by rw [List.replicate_succ, List.cons_append, parseL_one, parseL_ones r k]
theorem padTo4_len (b : List Int) : (padTo4 b).length % 4 = 0 ∧ b.length ≤ (padTo4 b).length ∧ (padTo4 b).length ≤ b.length + 3 := by
  unfold padTo4
  simp
  omega
/-- What Put tells is read as the options. -/
theorem parseO_put {ls : List (Int × List Int)} (h : ls.any badB = false) (hl : (bytesO ls).length ≤ 40) : parseO (padTo4 (bytesO ls)) = (ls, 0) := by
  have hp := padTo4_len (bytesO ls)
  unfold parseO
  rw [if_neg (by omega)]
  have hk : ∀ l ∈ ls, 2 ≤ l.1 := fun l hl' => (badB_false (by rw [List.any_eq_false] at h; simpa using h l hl')).1
  unfold padTo4
  rw [parseL_bytes _ ls hk, parseL_zeros, behindO_ok, List.append_nil]

/-- What is read may be laid, in no more bytes. -/
theorem parseF_fits : ∀ (f : Nat) (b : List Int), (∀ x ∈ b, 0 ≤ x ∧ x < 256) → b.length ≤ 40 → (parseF f b).1.any badB = false ∧ (bytesO (parseF f b).1).length ≤ b.length
  | 0, b, _, _ => ⟨rfl, by simp [parseF, bytesO]⟩
  | f + 1, [], _, _ => ⟨rfl, by simp [parseF, bytesO]⟩
  | f + 1, k :: r, hb, hl => by
    have hr : ∀ x ∈ r, 0 ≤ x ∧ x < 256 := fun x hx => hb x (by simp [hx])
    have hk := hb k (by simp)
    have hl' : r.length ≤ 39 := by simpa using hl
    unfold parseF
    split
    · split <;> exact ⟨rfl, by simp [bytesO]⟩
    · rename_i h0
      split
      · have ih := parseF_fits f r hr (by omega)
        exact ⟨ih.1, by have := ih.2; simp only [List.length_cons]; omega⟩
      · rename_i h1
        match r, hr, hl' with
        | [], _, _ => exact ⟨rfl, by simp [bytesO]⟩
        | n :: r', hr, hl' =>
          simp only
          split
          · exact ⟨rfl, by simp [bytesO]⟩
          · split
            · exact ⟨rfl, by simp [bytesO]⟩
            · rename_i h2 h3
              have hd : (r'.drop (n - 2).toNat).length = r'.length - (n - 2).toNat := List.length_drop
              have ht : (r'.take (n - 2).toNat).length = (n - 2).toNat := by rw [List.length_take]; omega
              have hl2 : r'.length ≤ 38 := by simpa using hl'
              have ih := parseF_fits f (r'.drop (n - 2).toNat) (fun x hx => hr x (by simp [List.mem_of_mem_drop hx])) (by omega)
              split
              · refine ⟨?_, ?_⟩
                · rw [List.any_cons, ih.1, Bool.or_false]
                  unfold badB
                  simp only [ht, Bool.or_eq_false_iff, decide_eq_false_iff_not]
                  omega
                · have e : (bytesO ((k, r'.take (n - 2).toNat) :: (parseF f (r'.drop (n - 2).toNat)).1)).length = 2 + (n - 2).toNat + (bytesO (parseF f (r'.drop (n - 2).toNat)).1).length := by
                    simp only [bytesO, List.flatMap_cons, bytesOne, List.length_append, ht, List.length_cons, List.length_nil]
                  rw [e]
                  have := ih.2
                  simp only [List.length_cons]
                  omega
              · exact ⟨rfl, by simp [bytesO]⟩
theorem parseO_fits {b : List Int} (hb : ∀ x ∈ b, 0 ≤ x ∧ x < 256) : (parseO b).1.any badB = false ∧ (bytesO (parseO b).1).length ≤ 40 := by
  unfold parseO
  split
  · exact ⟨rfl, by simp [bytesO]⟩
  · have := parseF_fits b.length b hb (by omega)
    exact ⟨this.1, by have := this.2; unfold parseL; omega⟩
theorem parseO_back {b : List Int} (hb : ∀ x ∈ b, 0 ≤ x ∧ x < 256) : parseO (padTo4 (bytesO (parseO b).1)) = ((parseO b).1, 0) := parseO_put (parseO_fits hb).1 (parseO_fits hb).2
theorem parseO_err {b : List Int} (h : (parseO b).2 ≠ 0) : (parseO b).1 = [] := by
  unfold parseO at h ⊢
  split
  · rfl
  · rename_i h2
    rw [if_neg h2] at h
    exact parseF_err _ _ h
theorem bytesO_app (a b : List (Int × List Int)) : bytesO (a ++ b) = bytesO a ++ bytesO b := by simp [bytesO]
/-- The last byte is lacking. -/
theorem parseL_cut (ls : List (Int × List Int)) (l : Int × List Int) (h : ∀ x ∈ ls, 2 ≤ x.1) (hl : 2 ≤ l.1) : parseL (bytesO (ls ++ [l])).dropLast = ([], 4) := by
  have e : (bytesO (ls ++ [l])).dropLast = bytesO ls ++ (bytesOne l).dropLast := by
    rw [bytesO_snoc, List.dropLast_append_of_ne_nil (by simp [bytesOne])]
  have e2 : parseL (bytesOne l).dropLast = ([], 4) := by
    obtain ⟨k, d⟩ := l
    simp only at hl
    cases d with
    | nil => exact parseL_end k (by omega) (by omega)
    | cons x d =>
      have e3 : (bytesOne (k, x :: d)).dropLast = k :: (2 + ((x :: d).length : Int)) :: (x :: d).dropLast := by simp [bytesOne]
      rw [e3, parseL_opt _ _ _ (by omega) (by omega), if_neg (by simp; omega), if_pos (by simp; omega)]
  rw [e, parseL_bytes _ ls h, e2]
  rfl
theorem Reads.byte {w : World} : ∀ {os : List OptV} {ls : List (Int × List Int)}, Reads w os ls → ∀ l ∈ ls, (0 ≤ l.1 ∧ l.1 < 256) ∧ ∀ x ∈ l.2, 0 ≤ x ∧ x < 256
  | [], [], _, l, hl => by simp at hl
  | o :: os, l' :: ls, h, l, hl => by
    rcases List.mem_cons.1 hl with rfl | hl
    · obtain ⟨h1, h2, _, _, h5⟩ := h.1
      exact ⟨by rw [← h1]; exact h2, h5.byte⟩
    · exact Reads.byte h.2 l hl
theorem bytesO_bytes {ls : List (Int × List Int)} (h : ∀ l ∈ ls, (0 ≤ l.1 ∧ l.1 < 256) ∧ ∀ x ∈ l.2, 0 ≤ x ∧ x < 256) (h2 : ∀ l ∈ ls, l.2.length ≤ 38) : ∀ x ∈ bytesO ls, 0 ≤ x ∧ x < 256 := by
  intro x hx
  obtain ⟨l, hl, hx⟩ := List.mem_flatMap.1 hx
  have h3 := h l hl
  have h4 := h2 l hl
  simp only [bytesOne, List.mem_append, List.mem_cons, List.not_mem_nil, or_false] at hx
  rcases hx with (rfl | rfl) | hx
  · exact h3.1
  · omega
  · exact h3.2 x hx
end Go.Proofs.Ytoblllgefmajiaa
