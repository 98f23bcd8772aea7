/-
  Bytes turned two by two, and other orders of words: what becomes of their sum. Plain lists: nothing of the program.
-/
import Derived.Test.YtghpndcninbniaaSumLay
namespace Go.Proofs.Ytghpndcninbniaa

def swapL : List Int → List Int
  | x :: y :: r => y :: x :: swapL r
  | r => r
theorem swapL_len : ∀ l : List Int, (swapL l).length = l.length
  | [] => rfl
  | [_] => rfl
  | x :: y :: r => by simp [swapL, swapL_len r]
theorem swapL_snoc : ∀ (l : List Int) (x y : Int), l.length % 2 = 0 → swapL (l ++ [x, y]) = swapL l ++ [y, x]
  | [], x, y, _ => rfl
  | [_], _, _, h => by simp at h
  | a :: b :: r, x, y, h => by
    have h' : r.length % 2 = 0 := by simp at h; omega
    simp [swapL, swapL_snoc r x y h']
theorem swapL_byte : ∀ {l : List Int}, Bytes l → Bytes (swapL l)
  | [], h => h
  | [_], h => h
  | x :: y :: r, h => by
    have hr : Bytes r := fun z hz => h z (by simp [hz])
    intro z hz
    simp only [swapL, List.mem_cons] at hz
    rcases hz with rfl | rfl | hz
    · exact h _ (by simp)
    · exact h _ (by simp)
    · exact swapL_byte hr z hz
theorem ws_swap : ∀ l : List Int, l.length % 2 = 0 → ws false (swapL l) = ws true l
  | [], _ => rfl
  | [_], h => by simp at h
  | x :: y :: r, h => by
    have h' : r.length % 2 = 0 := by simp at h; omega
    simp only [swapL, ws]
    rw [ws_swap r h']
    omega
theorem ws_turn : ∀ l : List Int, l.length % 2 = 0 → (ws true l - 256 * ws false l) % 65535 = 0
  | [], _ => rfl
  | [_], h => by simp at h
  | x :: y :: r, h => by
    have h' : r.length % 2 = 0 := by simp at h; omega
    have := ws_turn r h'
    simp only [ws]
    omega
/-- The sum of bytes turned two by two is the sum, turned. -/
theorem sum_turned {l : List Int} (hb : Bytes l) (he : l.length % 2 = 0) : sumL (swapL l) = sumL l % 256 * 256 + sumL l / 256 := by
  have h1 := ws_turn l he
  have bd := sumL_bd l
  have n1 := ws_nn l hb true
  have n2 := ws_nn l hb false
  have z : ws true l = 0 ↔ ws false l = 0 := by rw [ws_zero hb, ws_zero hb]
  have fm := fold_mod _ n2
  have fp := fold_pos (ws false l)
  have f0 : ws false l = 0 → sumL l = 0 := fun h => by unfold sumL; rw [h]; rfl
  unfold sumL at bd f0
  unfold sumL
  rw [ws_swap l he]
  refine fold_of _ _ (by omega) n1 (by omega) ⟨fun h => ?_, fun h => ?_⟩
  · apply z.2
    by_cases hz : ws false l = 0
    · exact hz
    · have := fp (by omega)
      omega
  · have := f0 (z.1 h)
    omega

/-- The first k pairs turned. -/
def swapTo (l : List Int) (k : Nat) : List Int := swapL (l.take (2 * k)) ++ l.drop (2 * k)
theorem swapTo_zero (l : List Int) : swapTo l 0 = l := by simp [swapTo, swapL]
theorem swapTo_len (l : List Int) (k : Nat) : (swapTo l k).length = l.length := by
  simp only [swapTo, List.length_append, swapL_len, List.length_take, List.length_drop]; omega
theorem swapTo_byte {l : List Int} (h : Bytes l) (k : Nat) : Bytes (swapTo l k) :=
  (swapL_byte (fun z hz => h z (List.mem_of_mem_take hz))).app (fun z hz => h z (List.mem_of_mem_drop hz))
theorem swapTo_all (l : List Int) (k : Nat) (h : l.length ≤ 2 * k) : swapTo l k = swapL l := by
  simp [swapTo, List.take_of_length_le h, List.drop_eq_nil_of_le h]
theorem drop_two (l : List Int) (i : Nat) (h : i + 1 < l.length) : l.drop i = l.getD i 0 :: l.getD (i + 1) 0 :: l.drop (i + 2) := by
  rw [List.drop_eq_getElem_cons (by omega), List.drop_eq_getElem_cons h]
  simp [List.getD, List.getElem?_eq_getElem h, List.getElem?_eq_getElem (show i < l.length by omega)]
theorem take_two (l : List Int) (i : Nat) (h : i + 1 < l.length) : l.take (i + 2) = l.take i ++ [l.getD i 0, l.getD (i + 1) 0] := by
  rw [List.take_succ_eq_append_getElem (by omega), List.take_succ_eq_append_getElem (by omega), List.append_assoc]
  simp [List.getD, List.getElem?_eq_getElem h, List.getElem?_eq_getElem (show i < l.length by omega)]
theorem swapTo_step (l : List Int) (k : Nat) (h : 2 * k + 1 < l.length) :
    swapTo l (k + 1) = ((swapTo l k).set (2 * k) (l.getD (2 * k + 1) 0)).set (2 * k + 1) (l.getD (2 * k) 0) := by
  have hl : (swapL (l.take (2 * k))).length = 2 * k := by rw [swapL_len, List.length_take]; omega
  have e1 : swapTo l (k + 1) = swapL (l.take (2 * k)) ++ [l.getD (2 * k + 1) 0, l.getD (2 * k) 0] ++ l.drop (2 * k + 2) := by
    unfold swapTo
    rw [show 2 * (k + 1) = 2 * k + 2 by omega, take_two l (2 * k) h, swapL_snoc _ _ _ (by rw [List.length_take]; omega)]
  rw [e1]
  unfold swapTo
  rw [drop_two l (2 * k) h, List.set_append_right _ _ (by omega), List.set_append_right _ _ (by omega), hl]
  simp
theorem swapTo_getD (l : List Int) (k j : Nat) (h : 2 * k ≤ j) (hj : j < l.length) : (swapTo l k).getD j 0 = l.getD j 0 := by
  have hl : (swapL (l.take (2 * k))).length = 2 * k := by rw [swapL_len, List.length_take]; omega
  unfold swapTo
  simp only [List.getD]
  rw [List.getElem?_append_right (by omega), hl, List.getElem?_drop]
  congr 2; omega

/-- Words change places. -/
theorem sum_moved {l : List Int} {a b : Nat} (ha : 2 * a + 1 < l.length) (hb : 2 * b + 1 < l.length) : ws false (layL (layL l a (wordL l b)) b (wordL l a)) = ws false l := by
  rw [ws_lay _ _ _ (by rw [layL_len]; exact hb), ws_lay _ _ _ ha]
  by_cases e : a = b
  · subst e; rw [wordL_lay_same _ _ _ ha]; omega
  · rw [wordL_lay_other _ _ _ _ e]; omega
theorem sum_parts (l : List Int) (k : Nat) : [l.take k, l.drop k].flatten = l := by simp
theorem ws_parted (l : List Int) (k : Nat) (hk : k % 2 = 0) (hl : k ≤ l.length) : ws false l = ws false (l.take k) + ws false (l.drop k) := by
  have := ws_even (l.take k) (l.drop k) (by rw [List.length_take]; omega)
  rw [List.take_append_drop] at this
  exact this
theorem sum_other (l : List Int) (k : Nat) (hk : k % 2 = 0) (hl : k ≤ l.length) (he : l.length % 2 = 0) : sumL [l.drop k, l.take k].flatten = sumL l := by
  unfold sumL
  rw [ws_parted l k hk hl]
  have : ws false ([l.drop k, l.take k].flatten) = ws false (l.drop k) + ws false (l.take k) := by
    have := ws_even (l.drop k) (l.take k) (by rw [List.length_drop]; omega)
    simpa using this
  rw [this]
  congr 1; omega
theorem sum_nought (l : List Int) (k : Nat) (hk : k % 2 = 0) (hl : k ≤ l.length) : sumL (([] ++ l.take k ++ [0, 0]) ++ l.drop k) = sumL l := by
  unfold sumL
  rw [ws_parted l k hk hl]
  have h1 : (([] ++ l.take k ++ [0, 0]) : List Int).length % 2 = 0 := by simp [List.length_take]; omega
  rw [ws_even _ _ h1, List.nil_append, ws_even _ _ (by rw [List.length_take]; omega)]
  simp [ws]

end Go.Proofs.Ytghpndcninbniaa
