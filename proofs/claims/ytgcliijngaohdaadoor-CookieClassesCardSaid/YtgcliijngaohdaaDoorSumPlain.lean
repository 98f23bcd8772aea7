/-
  Plain lemmas on sums of words of 16 bits: what goes over the greatest word comes in again below; a total, folded; bytes' words. Nothing of the program.
-/
namespace Go.Proofs.YtgcliijngaohdaaDoor
set_option maxRecDepth 10000

def U16 (x : Int) : Prop := 0 ≤ x ∧ x ≤ 65535
/-- A total, folded to 16 bits: 0 only of 0. -/
def fold16 (n : Int) : Int := if n ≤ 0 then 0 else (n - 1) % 65535 + 1
def add16 (a b : Int) : Int := if 65535 < a + b then a + b - 65535 else a + b
theorem fold_bd (n : Int) : 0 ≤ fold16 n ∧ fold16 n ≤ 65535 := by unfold fold16; split <;> omega
theorem fold_mod (n : Int) (h : 0 ≤ n) : fold16 n % 65535 = n % 65535 := by unfold fold16; split <;> omega
theorem fold_pos (n : Int) (h : 0 < n) : 0 < fold16 n := by unfold fold16; split <;> omega
theorem fold_zero : fold16 0 = 0 := rfl
theorem fold_of (x n : Int) (hx : 0 ≤ x ∧ x ≤ 65535) (hn : 0 ≤ n) (h : x % 65535 = n % 65535) (h0 : x = 0 ↔ n = 0) : fold16 n = x := by
  have b := fold_bd n
  have m := fold_mod n hn
  by_cases hz : n = 0
  · subst hz; rw [fold_zero]; have := h0.2 rfl; omega
  · have := fold_pos n (by omega)
    have : x ≠ 0 := fun e => hz (h0.1 e)
    omega
theorem add_fold (n b : Int) (hn : 0 ≤ n) (hb : U16 b) : add16 (fold16 n) b = fold16 (n + b) := by
  unfold U16 at hb
  unfold add16 fold16; (repeat' split) <;> omega
theorem add_folds (n m : Int) (hn : 0 ≤ n) (hm : 0 ≤ m) : add16 (fold16 n) (fold16 m) = fold16 (n + m) := by
  unfold add16 fold16; (repeat' split) <;> omega
theorem add_bd (a b : Int) (ha : U16 a) (hb : U16 b) : U16 (add16 a b) := by
  unfold U16 add16 at *; split <;> omega
theorem fold_id (x : Int) (h : U16 x) : fold16 x = x := by unfold U16 at h; unfold fold16; split <;> omega

/-- Two fields that are the same but that 0 and ffff are one. -/
def likeB (a b : Int) : Bool := decide (a = b) || (decide (a = 0) && decide (b = 65535)) || (decide (a = 65535) && decide (b = 0))
theorem like_of (a b : Int) (ha : U16 a) (hb : U16 b) (h : a % 65535 = b % 65535) : likeB a b = true := by
  unfold U16 at ha hb
  unfold likeB
  simp
  omega
theorem like_mod (a b : Int) (h : likeB a b = true) : a % 65535 = b % 65535 := by
  unfold likeB at h
  simp at h
  omega

/-- What becomes of a field. -/
def wordF (field was is_ : Int) : Int := 65535 - add16 (add16 (65535 - field) (65535 - was)) is_
theorem wordF_bd (f a b : Int) (hf : U16 f) (ha : U16 a) (hb : U16 b) : U16 (wordF f a b) := by
  have := add_bd _ _ (add_bd (65535 - f) (65535 - a) (by unfold U16 at *; omega) (by unfold U16 at *; omega)) hb
  unfold U16 at *
  unfold wordF
  omega
theorem wordF_mod (f a b : Int) : (wordF f a b) % 65535 = (f + a - b) % 65535 := by
  unfold wordF add16; (repeat' split) <;> omega
def longF (field was is_ : Int) : Int := wordF (wordF field (was / 65536) (is_ / 65536)) (was % 65536) (is_ % 65536)
theorem longF_bd (f a b : Int) (hf : U16 f) (ha : 0 ≤ a ∧ a < 4294967296) (hb : 0 ≤ b ∧ b < 4294967296) : U16 (longF f a b) :=
  wordF_bd _ _ _ (wordF_bd _ _ _ hf (by unfold U16; omega) (by unfold U16; omega)) (by unfold U16; omega) (by unfold U16; omega)
theorem longF_mod (f a b : Int) : (longF f a b) % 65535 = (f + a / 65536 + a % 65536 - b / 65536 - b % 65536) % 65535 := by
  have h2 := wordF_mod f (a / 65536) (b / 65536)
  have h3 := wordF_mod (wordF f (a / 65536) (b / 65536)) (a % 65536) (b % 65536)
  unfold longF
  omega

/-- All words of bytes, added up (not folded); 'true': the first byte is a word's second one. -/
def ws : Bool → List Int → Int
  | _, [] => 0
  | false, x :: l => 256 * x + ws true l
  | true, x :: l => x + ws false l
def Bytes (l : List Int) : Prop := ∀ x ∈ l, 0 ≤ x ∧ x < 256
def sumL (l : List Int) : Int := fold16 (ws false l)
theorem ws_append (p : Bool) (a b : List Int) : ws p (a ++ b) = ws p a + ws (xor p (decide (a.length % 2 = 1))) b := by
  induction a generalizing p with
  | nil => simp [ws]
  | cons x a ih =>
    have h : decide ((a.length + 1) % 2 = 1) = !decide (a.length % 2 = 1) := by
      by_cases h : a.length % 2 = 1
      · simp [h]; omega
      · simp [h]; omega
    cases p
    · simp only [List.cons_append, ws, ih, List.length_cons, h]
      cases decide (a.length % 2 = 1) <;> simp <;> omega
    · simp only [List.cons_append, ws, ih, List.length_cons, h]
      cases decide (a.length % 2 = 1) <;> simp <;> omega
theorem ws_even (a b : List Int) (h : a.length % 2 = 0) : ws false (a ++ b) = ws false a + ws false b := by
  rw [ws_append]; simp [show ¬ a.length % 2 = 1 by omega]
theorem ws_nn (l : List Int) (h : Bytes l) (p : Bool) : 0 ≤ ws p l := by
  induction l generalizing p with
  | nil => simp [ws]
  | cons x l ih =>
    have hx := h x (by simp)
    have hl : Bytes l := fun y hy => h y (by simp [hy])
    have h1 := ih hl true
    have h2 := ih hl false
    cases p <;> simp only [ws] <;> omega
theorem sumL_bd (l : List Int) : 0 ≤ sumL l ∧ sumL l ≤ 65535 := fold_bd _
theorem sumL_nil : sumL [] = 0 := rfl
theorem Bytes.app {a b : List Int} (h : Bytes a) (k : Bytes b) : Bytes (a ++ b) := fun x hx => by
  rcases List.mem_append.1 hx with h' | h'
  · exact h x h'
  · exact k x h'

/-- How far the words of the bytes d have been added: the sum, the byte that waits, whether one does. -/
structure St (d : List Int) (acc first : Int) (waits : Bool) : Prop where
  w : waits = decide (d.length % 2 = 1)
  a : acc = fold16 (ws false d - (if waits then 256 * first else 0))
  f : 0 ≤ first ∧ first < 256
  n : 0 ≤ ws false d - (if waits then 256 * first else 0)
theorem St.nil : St [] 0 0 false := ⟨by decide, by decide, by decide, by decide⟩
theorem St.bd {d : List Int} {acc first : Int} {waits : Bool} (h : St d acc first waits) : 0 ≤ acc ∧ acc ≤ 65535 := by rw [h.a]; exact fold_bd _
theorem St.one {d : List Int} {acc first : Int} (h : St d acc first true) {b : Int} (hb : 0 ≤ b ∧ b < 256) : St (d ++ [b]) (add16 acc (first * 256 + b)) b false := by
  obtain ⟨h1, h2, h3, h4⟩ := h
  have ho : d.length % 2 = 1 := by simpa using h1.symm
  have e : ws false (d ++ [b]) = ws false d + b := by rw [ws_append]; simp [ho, ws]
  simp only [if_true] at h2 h4
  refine ⟨?_, ?_, hb, ?_⟩
  · simp; omega
  · rw [h2, add_fold _ _ h4 (by unfold U16; omega), e]
    simp only [Bool.false_eq_true, if_false]
    congr 1; omega
  · rw [e]; simp only [Bool.false_eq_true, if_false]; omega
theorem St.two {d : List Int} {acc first : Int} (h : St d acc first false) {b : Int} (hb : 0 ≤ b ∧ b < 256) : St (d ++ [b]) acc b true := by
  obtain ⟨h1, h2, h3, h4⟩ := h
  have ho : ¬ d.length % 2 = 1 := by simpa using h1.symm
  have e : ws false (d ++ [b]) = ws false d + 256 * b := by rw [ws_append]; simp [ho, ws]
  simp only [Bool.false_eq_true, if_false] at h2 h4
  refine ⟨?_, ?_, hb, ?_⟩
  · simp; omega
  · rw [h2, e]
    simp only [if_true]
    congr 1; omega
  · rw [e]; simp only [if_true]; omega
theorem St.end1 {d : List Int} {acc first : Int} (h : St d acc first true) : add16 acc (first * 256) = sumL d := by
  obtain ⟨h1, h2, h3, h4⟩ := h
  simp only [if_true] at h2 h4
  rw [h2, add_fold _ _ h4 (by unfold U16; omega)]
  unfold sumL
  congr 1; omega
theorem St.end0 {d : List Int} {acc first : Int} (h : St d acc first false) : acc = sumL d := by
  obtain ⟨h1, h2, h3, h4⟩ := h
  simp only [Bool.false_eq_true, if_false] at h2
  rw [h2]
  unfold sumL
  congr 1; omega

/-- The document's own sum goes two by two. -/
theorem ws_two (l : List Int) (i : Nat) (h : i + 1 < l.length) (he : i % 2 = 0) : ws false (l.take (i + 2)) = ws false (l.take i) + (l.getD i 0 * 256 + l.getD (i + 1) 0) := by
  have e : l.take (i + 2) = l.take i ++ [l.getD i 0, l.getD (i + 1) 0] := by
    rw [List.take_succ_eq_append_getElem (by omega), List.take_succ_eq_append_getElem (by omega), List.append_assoc]
    simp [List.getD, List.getElem?_eq_getElem h, List.getElem?_eq_getElem (show i < l.length by omega)]
  rw [e, ws_even _ _ (by rw [List.length_take]; omega)]
  simp [ws]; omega
theorem ws_last (l : List Int) (i : Nat) (h : i + 1 = l.length) (he : i % 2 = 0) : ws false l = ws false (l.take i) + l.getD i 0 * 256 := by
  have e : l = l.take i ++ [l.getD i 0] := by
    have := List.take_succ_eq_append_getElem (l := l) (i := i) (by omega)
    rw [List.take_of_length_le (by omega)] at this
    simpa [List.getD, List.getElem?_eq_getElem (show i < l.length by omega)] using this
  have e2 : ws false l = ws false (l.take i ++ [l.getD i 0]) := congrArg _ e
  rw [e2, ws_even _ _ (by rw [List.length_take]; omega)]
  simp [ws]; omega

end Go.Proofs.YtgcliijngaohdaaDoor
