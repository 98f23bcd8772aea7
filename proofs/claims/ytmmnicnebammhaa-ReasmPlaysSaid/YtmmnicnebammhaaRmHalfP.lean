/-
  Plain facts of a stream in two halves, put either way. Nothing of the program.
-/
import Derived.Test.YtmmnicnebammhaaRmRow
namespace Go.Proofs.Ytmmnicnebammhaa
set_option maxRecDepth 10000
set_option linter.unusedSimpArgs false
set_option linter.unusedVariables false

theorem ready_rowS {s : List Int} {P : Nat → Bool} {t m r : Nat} (h1 : ∀ p, t ≤ p → p < t + r → P p = true) (h2 : t + r ≤ s.length) (h3 : t + r ≤ m) (h4 : t + r < m → t + r < s.length → P (t + r) = false) : readyB (rowS s P t m) = r := by
  refine ready_rowG (fun p hp hq => ?_) h3 (fun h => ?_)
  · rw [h1 p hp hq, if_pos rfl, List.getElem?_eq_getElem (by omega)]
    rfl
  · by_cases hl : t + r < s.length
    · rw [h4 h hl, if_neg (by simp)]
    · rw [List.getElem?_eq_none (by omega)]
      simp
theorem left_rowS {s : List Int} {P : Nat → Bool} {t m r : Nat} (h : readyB (rowS s P t m) = r) : leftB (rowS s P t m) = rowS s P (t + r) m := left_rowG h
theorem take_rowS {s : List Int} {P : Nat → Bool} {t m r : Nat} (h : readyB (rowS s P t m) = r) (h1 : ∀ p, t ≤ p → p < t + r → P p = true) (h2 : t + r ≤ s.length) : takeB (rowS s P t m) = (s.drop t).take r := by
  unfold rowS at h ⊢
  rw [take_rowG h]
  apply List.ext_getElem?
  intro i
  rw [List.getElem?_map]
  by_cases hi : i < r
  · rw [List.getElem?_range hi, List.getElem?_take_of_lt hi, List.getElem?_drop, Option.map_some, h1 (t + i) (by omega) (by omega), if_pos rfl, List.getElem?_eq_getElem (by omega)]
    rfl
  · rw [List.getElem?_eq_none (by simp; omega), List.getElem?_eq_none (by rw [List.length_take]; omega)]
    rfl
/-- The places from a up to b. -/
def iv (a b : Nat) (p : Nat) : Bool := decide (a ≤ p) && decide (p < b)
theorem cnt_iv {a b m : Nat} (hb : b ≤ m) : cntB (iv a b) m = b - a := by
  have e : m = b + (m - b) := by omega
  have h0 : (List.range (m - b)).countP (fun i => iv a b (b + i)) = 0 := by
    rw [List.countP_eq_zero]
    intro x _
    unfold iv
    simp
  have h1 := cnt_add (iv a b) b (m - b)
  rw [h0, ← e] at h1
  rw [h1]
  by_cases hab : a ≤ b
  · have h2 := cnt_add (iv a b) a (b - a)
    rw [show a + (b - a) = b by omega] at h2
    have h3 : cntB (iv a b) a = 0 := by
      unfold cntB
      rw [List.countP_eq_zero]
      intro x hx
      simp only [List.mem_range] at hx
      unfold iv
      simp
      omega
    have h4 : (List.range (b - a)).countP (fun i => iv a b (a + i)) = (List.range (b - a)).length := List.countP_eq_length.2 (fun x hx => by
      simp only [List.mem_range] at hx
      unfold iv
      simp
      omega)
    rw [h2, h3, h4, List.length_range]
    omega
  · have h3 : cntB (iv a b) b = 0 := by
      unfold cntB
      rw [List.countP_eq_zero]
      intro x hx
      simp only [List.mem_range] at hx
      unfold iv
      simp
      omega
    rw [h3]
    omega
/-- There is room for a piece more. -/
theorem put_fit (d : Int) (data : List Int) {L : BL} (h : (heldB L).length < 16) : putQ d data L = putB d data L ∧ putE d data L = 0 ∧ putN d data L = freshB d data L := by
  have := holes_put d data L
  have hf : fullB d data L = false := decide_eq_false (by omega)
  unfold putQ putE putN
  rw [hf]
  simp
/-- A piece of the stream, put. -/
theorem put_iv {s : List Int} {P Q : Nat → Bool} {t m a b : Nat} {d : Int} {data : List Int} (hd : (a : Int) - t = d) (hdata : (s.drop a).take (b - a) = data) (hQ : ∀ p, t ≤ p → p < m → p < s.length → (P p || iv a b p) = Q p) (hh : (heldB (rowS s P t m)).length < 16)
    (h1 : ∀ p, P p = true → p < s.length) (h2 : ∀ p, p < t → P p = true) (h3 : t ≤ m) (h4 : ∀ p, Q p = true → p < s.length) (h5 : ∀ p, p < t → Q p = true) :
    putQ d data (rowS s P t m) = rowS s Q t m ∧ putE d data (rowS s P t m) = 0 ∧ putN d data (rowS s P t m) = cntB Q m - cntB P m ∧ (heldB (rowS s Q t m)).length ≤ (heldB (rowS s P t m)).length + 1 := by
  subst hd; subst hdata
  obtain ⟨e1, e2, e3⟩ := put_fit ((a : Int) - t) ((s.drop a).take (b - a)) hh
  have hp : putB ((a : Int) - t) ((s.drop a).take (b - a)) (rowS s P t m) = rowS s Q t m := (put_rowS s P t m a b).trans (rowS_ext (fun p p1 p2 p3 => hQ p p1 p2 p3))
  have hc := holes_put ((a : Int) - t) ((s.drop a).take (b - a)) (rowS s P t m)
  rw [hp] at e1 hc
  refine ⟨e1, e2, ?_, hc⟩
  rw [e3]
  unfold freshB
  rw [hp]
  have k1 := have_rowS (m := m) h1 h2 h3
  have k2 := have_rowS (m := m) h4 h5 h3
  omega
theorem num_num (a b : Int) : num32 (num32 a + b) = num32 (a + b) := by unfold num32; omega
theorem diff_self (a : Int) : diffB a a = 0 := by unfold diffB num32; simp
theorem diff_add (f : Int) (k : Nat) (hk : k < 1000000) : diffB (num32 (f + k)) f = k := diff_near _ _ _ (by unfold num32; omega) (by omega) (by omega)

/-- What both ways tell. -/
structure HalfIs (s : List Int) (f : Int) (n k c : Nat) (A1 A2 A3 B1 B2 B3 B4 H1 H2 H3 : BL) (r1 q r : Nat) (fk fc fn : Int) : Prop where
  xfk : num32 (f + k) = fk
  xfc : num32 (f + c) = fc
  xfkb : 0 ≤ fk ∧ fk < 4294967296
  xfcb : 0 ≤ fc ∧ fc < 4294967296
  xa1 : putQ (diffB fk f) (s.drop k) (List.replicate 400 none) = A1 ∧ putE (diffB fk f) (s.drop k) (List.replicate 400 none) = 0 ∧ putN (diffB fk f) (s.drop k) (List.replicate 400 none) = n - k
  xr1 : readyB A1 = r1 ∧ (0 < k → r1 = 0)
  xa2 : putQ (diffB f f) (s.take k) A1 = A2 ∧ putE (diffB f f) (s.take k) A1 = 0 ∧ putN (diffB f f) (s.take k) A1 = k
  xb1 : putQ (diffB f f) (s.take k) (List.replicate 400 none) = B1 ∧ putE (diffB f f) (s.take k) (List.replicate 400 none) = 0 ∧ putN (diffB f f) (s.take k) (List.replicate 400 none) = k
  xb2 : takeB B1 = s.take k ∧ leftB B1 = B2 ∧ num32 (f + readyB B1) = fk
  xb3 : putQ (diffB fk fk) (s.drop k) B2 = B3 ∧ putE (diffB fk fk) (s.drop k) B2 = 0 ∧ putN (diffB fk fk) (s.drop k) B2 = n - k
  xb4 : takeB B3 = s.drop k ∧ leftB B3 = B4 ∧ num32 (fk + readyB B3) = fn
  xh1 : putQ (diffB fc f) (s.drop c) A1 = H1 ∧ putE (diffB fc f) (s.drop c) A1 = 0 ∧ putN (diffB fc f) (s.drop c) A1 = q
  xh2 : putQ (diffB f f) (s.take c) H1 = H2 ∧ putE (diffB f f) (s.take c) H1 = 0 ∧ putN (diffB f f) (s.take c) H1 = r
  xqr : q + r = k
  xh3 : takeB H2 = s ∧ leftB H2 = H3 ∧ num32 (f + readyB H2) = fn
  xa3 : takeB A2 = s ∧ leftB A2 = A3 ∧ num32 (f + readyB A2) = fn
  xla : A3.length = 400 - n
  xlb : B4.length = 400 - n
set_option maxHeartbeats 1000000 in
theorem half_is (s : List Int) (f : Int) (n k c : Nat) (hn : s.length = n) (h3 : n ≤ 300) (hk : k ≤ n) (hc : c ≤ n) : ∃ A1 A2 A3 B1 B2 B3 B4 H1 H2 H3 r1 q r fk fc fn, HalfIs s f n k c A1 A2 A3 B1 B2 B3 B4 H1 H2 H3 r1 q r fk fc fn := by
  subst hn
  have ivlt : ∀ a b p, b ≤ s.length → iv a b p = true → p < s.length := fun a b p hb h => by unfold iv at h; simp at h; omega
  have e0 : List.replicate 400 none = rowS s (iv 0 0) 0 400 := (rowS_none s 400).trans (rowS_ext (fun p _ _ _ => by unfold iv; simp))
  have hh0 : (heldB (rowS s (iv 0 0) 0 400)).length = 0 := by rw [← e0, holes_none]; rfl
  have dk : (k : Int) - (0 : Nat) = diffB (num32 (f + k)) f := by rw [diff_add f k (by omega)]; omega
  have dc : (c : Int) - (0 : Nat) = diffB (num32 (f + c)) f := by rw [diff_add f c (by omega)]; omega
  have d0 : ((0 : Nat) : Int) - (0 : Nat) = diffB f f := by rw [diff_self]; omega
  have dkk : (k : Int) - (k : Nat) = diffB (num32 (f + k)) (num32 (f + k)) := by rw [diff_self]; omega
  have tk : ∀ j, j ≤ s.length → (s.drop 0).take (j - 0) = s.take j := fun j _ => by simp
  have dr : ∀ j, j ≤ s.length → (s.drop j).take (s.length - j) = s.drop j := fun j _ => List.take_of_length_le (by rw [List.length_drop]; exact Nat.le_refl _)
  obtain ⟨a1, a1e, a1n, a1h⟩ := put_iv (s := s) (P := iv 0 0) (Q := iv k s.length) (t := 0) (m := 400) (a := k) (b := s.length) dk (dr k hk) (fun p _ _ _ => by unfold iv; simp) (by omega) (ivlt 0 0 · (Nat.zero_le _)) (fun p h => by omega) (by omega) (ivlt k _ · (Nat.le_refl _)) (fun p h => by omega)
  obtain ⟨a2, a2e, a2n, a2h⟩ := put_iv (s := s) (P := iv k s.length) (Q := iv 0 s.length) (t := 0) (m := 400) (a := 0) (b := k) d0 (tk k hk) (fun p _ _ hp => by unfold iv; rw [Bool.eq_iff_iff]; simp; omega) (by omega) (ivlt k _ · (Nat.le_refl _)) (fun p h => by omega) (by omega) (ivlt 0 _ · (Nat.le_refl _)) (fun p h => by omega)
  obtain ⟨b1, b1e, b1n, b1h⟩ := put_iv (s := s) (P := iv 0 0) (Q := iv 0 k) (t := 0) (m := 400) (a := 0) (b := k) d0 (tk k hk) (fun p _ _ _ => by unfold iv; simp) (by omega) (ivlt 0 0 · (Nat.zero_le _)) (fun p h => by omega) (by omega) (ivlt 0 k · hk) (fun p h => by omega)
  obtain ⟨b3, b3e, b3n, b3h⟩ := put_iv (s := s) (P := iv 0 k) (Q := iv 0 s.length) (t := k) (m := 400) (a := k) (b := s.length) dkk (dr k hk) (fun p _ _ hp => by unfold iv; rw [Bool.eq_iff_iff]; simp; omega) (by
      have e : leftB (rowS s (iv 0 k) 0 400) = rowS s (iv 0 k) (0 + k) 400 := left_rowS (ready_rowS (fun p _ h => by unfold iv; simp; omega) (by omega) (by omega) (fun _ _ => by unfold iv; simp))
      rw [Nat.zero_add] at e
      rw [← e]
      have := holes_left (rowS s (iv 0 k) 0 400)
      omega) (ivlt 0 k · hk) (fun p h => by unfold iv; simp; omega) (by omega) (ivlt 0 _ · (Nat.le_refl _)) (fun p h => by unfold iv; simp; omega)
  obtain ⟨h1, h1e, h1n, h1h⟩ := put_iv (s := s) (P := iv k s.length) (Q := iv (min k c) s.length) (t := 0) (m := 400) (a := c) (b := s.length) dc (dr c hc) (fun p _ _ hp => by unfold iv; rw [Bool.eq_iff_iff]; simp; omega) (by omega) (ivlt k _ · (Nat.le_refl _)) (fun p h => by omega) (by omega) (ivlt _ _ · (Nat.le_refl _)) (fun p h => by omega)
  obtain ⟨h2, h2e, h2n, h2h⟩ := put_iv (s := s) (P := iv (min k c) s.length) (Q := iv 0 s.length) (t := 0) (m := 400) (a := 0) (b := c) d0 (tk c hc) (fun p _ _ hp => by unfold iv; rw [Bool.eq_iff_iff]; simp; omega) (by omega) (ivlt _ _ · (Nat.le_refl _)) (fun p h => by omega) (by omega) (ivlt 0 _ · (Nat.le_refl _)) (fun p h => by omega)
  rw [cnt_iv (by omega), cnt_iv (by omega)] at a1n a2n b1n b3n h1n h2n
  have ra : readyB (rowS s (iv 0 s.length) 0 400) = s.length := ready_rowS (fun p _ h => by unfold iv; simp; omega) (by omega) (by omega) (fun _ h => by omega)
  have rb : readyB (rowS s (iv 0 k) 0 400) = k := ready_rowS (fun p _ h => by unfold iv; simp; omega) (by omega) (by omega) (fun _ _ => by unfold iv; simp)
  have rc : readyB (rowS s (iv 0 s.length) k 400) = s.length - k := ready_rowS (fun p _ h => by unfold iv; simp; omega) (by omega) (by omega) (fun _ h => by omega)
  have ta : takeB (rowS s (iv 0 s.length) 0 400) = s := (take_rowS ra (fun p _ h => by unfold iv; simp; omega) (by omega)).trans (by simp)
  have lb0 : leftB (rowS s (iv 0 k) 0 400) = rowS s (iv 0 k) k 400 := (left_rowS rb).trans (by rw [Nat.zero_add])
  refine ⟨rowS s (iv k s.length) 0 400, rowS s (iv 0 s.length) 0 400, leftB (rowS s (iv 0 s.length) 0 400), rowS s (iv 0 k) 0 400, rowS s (iv 0 k) k 400, rowS s (iv 0 s.length) k 400, leftB (rowS s (iv 0 s.length) k 400), rowS s (iv (min k c) s.length) 0 400, rowS s (iv 0 s.length) 0 400, leftB (rowS s (iv 0 s.length) 0 400),
    readyB (rowS s (iv k s.length) 0 400), s.length - min k c - (s.length - k), s.length - 0 - (s.length - min k c), num32 (f + k), num32 (f + c), num32 (f + s.length), ?_⟩
  have hz : ∀ x : Int, 0 ≤ num32 x ∧ num32 x < 4294967296 := fun x => by unfold num32; omega
  refine ⟨rfl, rfl, hz _, hz _, ?_, ⟨rfl, fun h0 => ?_⟩, ⟨a2, a2e, by rw [a2n]; omega⟩, ?_, ⟨?_, lb0, by rw [rb]⟩, ⟨b3, b3e, by rw [b3n]; omega⟩, ⟨?_, rfl, ?_⟩, ⟨h1, h1e, h1n⟩, ⟨h2, h2e, h2n⟩, by omega, ⟨ta, rfl, by rw [ra]⟩, ⟨ta, rfl, by rw [ra]⟩, ?_, ?_⟩
  · rw [e0]
    exact ⟨a1, a1e, by rw [a1n]; omega⟩
  · exact ready_rowS (fun p _ h => by omega) (by omega) (by omega) (fun _ _ => by unfold iv; simp; omega)
  · rw [e0]
    exact ⟨b1, b1e, by rw [b1n]; omega⟩
  · rw [take_rowS rb (fun p _ h => by unfold iv; simp; omega) (by omega), List.drop_zero]
  · rw [take_rowS rc (fun p _ h => by unfold iv; simp; omega) (by omega)]
    exact dr k hk
  · rw [rc, num_num, show f + (k : Int) + ((s.length - k : Nat) : Int) = f + (s.length : Int) by omega]
  · rw [left_len, ra, rowS_len]
  · rw [left_len, rc, rowS_len]
    try omega
end Go.Proofs.Ytmmnicnebammhaa
