/-
  Texts laid together: InBack, InAs, Hd, InTwo.
-/
import Derived.Test.YtoegfgbalcholaaGreatZT04
import Derived.Test.YtoegfgbalcholaaGreatZT01
import Derived.Test.YtoegfgbalcholaaGreatZT02

/-
  A quote rewritten, and back: plain lists (stage 16, written ahead): nothing of the program.
-/
namespace Go.Proofs.YtoegfgbalcholaaGreat
set_option maxRecDepth 10000
set_option linter.unusedSimpArgs false
set_option linter.unusedVariables false

theorem getD_parts (b : List Int) (hb : Bytes b) (k : Nat) : b.getD (2 * k) 0 = wordL b k / 256 ∧ b.getD (2 * k + 1) 0 = wordL b k % 256 := by
  have h1 := getD_byteQ hb (2 * k)
  have h2 := getD_byteQ hb (2 * k + 1)
  unfold wordL
  exact ⟨by omega, by omega⟩
theorem getD_eq_word {a b : List Int} (ha : Bytes a) (hb : Bytes b) {k : Nat} (h : wordL a k = wordL b k) {i : Nat} (hi : i / 2 = k) : a.getD i 0 = b.getD i 0 := by
  obtain ⟨a1, a2⟩ := getD_parts a ha k
  obtain ⟨b1, b2⟩ := getD_parts b hb k
  rcases (show i = 2 * k ∨ i = 2 * k + 1 by omega) with rfl | rfl
  · rw [a1, b1, h]
  · rw [a2, b2, h]
theorem word_of_getD {a b : List Int} {k : Nat} (h : ∀ i, i / 2 = k → a.getD i 0 = b.getD i 0) : wordL a k = wordL b k := by
  unfold wordL; rw [h _ (by omega), h _ (by omega)]
/-- Are bytes the same, but that words 0 and ffff at places stand for each other? -/
def likeStep (a b x : List Int) (k : Nat) : List Int := if 2 * k + 2 ≤ a.length ∧ likeB (wordL a k) (wordL b k) = true then layL x k (wordL a k) else x
def likeQ (a b : List Int) (ks : List Nat) : Bool := decide (a.length = b.length) && decide (a = ks.foldl (likeStep a b) b)
/-- A quote's own tuple: what numbers it has. -/
theorem qTu_num {b : List Int} (hb : Bytes b) : TuNum (qTu b) := by
  have g := getD_byteQ hb 9
  have h := fun k => wordL_bd hb k
  have h6 := h 6; have h7 := h 7; have h8 := h 8; have h9 := h 9; have ha := h (qH b + 2); have hb' := h (qH b); have hc := h (qH b + 1)
  unfold U16 at h6 h7 h8 h9 ha hb' hc
  refine ⟨g, by unfold qTu; simp only; omega, by unfold qTu; simp only; omega, ?_, ?_⟩
  · unfold qTu; simp only; split <;> omega
  · unfold qTu; simp only; split <;> omega
/-- The tuple that a quote of such a Proto may become. -/
def TuFits (b : List Int) (t : Tu) : Prop := t.pr = b.getD 9 0 ∧ (b.getD 9 0 = 1 → t.dp = 0)
theorem RwIs.head {b r : List Int} {t : Tu} {s : Int} (h : RwIs b r t s) : wordL r 6 = t.sr / 65536 ∧ wordL r 7 = t.sr % 65536 ∧ wordL r 8 = t.ds / 65536 ∧ wordL r 9 = t.ds % 65536 :=
  ⟨h.word (6, t.sr / 65536) (by unfold headQ; simp), h.word (7, t.sr % 65536) (by unfold headQ; simp), h.word (8, t.ds / 65536) (by unfold headQ; simp), h.word (9, t.ds % 65536) (by unfold headQ; simp)⟩
/-- What a rewriting leaves: all but the addresses, the ports (the number), the fields. -/
theorem RwIs.low {b r : List Int} {t : Tu} {s : Int} (h : RwIs b r t s) (h10 : 10 ≤ qH b) {i : Nat} (hi : i < 2 * qH b) (h5 : i / 2 ≠ 5) (h6 : i / 2 < 6 ∨ 9 < i / 2) : r.getD i 0 = b.getD i 0 := by
  refine h.far i h5 (fun hm => ?_) (fun p hp e => ?_)
  · rcases part_cases b with h | ⟨h, _⟩
    · rw [h] at hm; cases hm
    · rw [h] at hm
      have := List.mem_singleton.1 hm
      have hF : qH b + 1 ≤ qF (b.getD 9 0) (qH b) := by unfold qF; split; omega; split <;> omega
      omega
  · rcases List.mem_append.1 hp with hp | hp
    · have hin : p.1 = 6 ∨ p.1 = 7 ∨ p.1 = 8 ∨ p.1 = 9 := by unfold headQ at hp; simp only [List.mem_cons, List.not_mem_nil, or_false] at hp; rcases hp with rfl | rfl | rfl | rfl <;> simp
      omega
    · have hge : qH b ≤ p.1 := by
        unfold portsQ at hp
        split at hp
        · rcases List.mem_singleton.1 hp; simp only; omega
        · rcases List.mem_append.1 hp with hp | hp
          · simp only [List.mem_cons, List.not_mem_nil, or_false] at hp; rcases hp with rfl | rfl <;> simp only <;> omega
          · split at hp
            · simp only [List.mem_cons, List.not_mem_nil, or_false] at hp; rcases hp with rfl | rfl <;> simp only <;> omega
            · cases hp
      omega
theorem RwIs.nine {b r : List Int} {t : Tu} {s : Int} (h : RwIs b r t s) (h10 : 10 ≤ qH b) : r.getD 9 0 = b.getD 9 0 ∧ qH r = qH b := by
  have e9 := h.low h10 (i := 9) (by omega) (by omega) (by omega)
  have e0 := h.low h10 (i := 0) (by omega) (by omega) (by omega)
  exact ⟨e9, by unfold qH; rw [e0]⟩
theorem RwIs.part {b r : List Int} {t : Tu} {s : Int} (h : RwIs b r t s) (h10 : 10 ≤ qH b) : partQ r = partQ b := by
  obtain ⟨e9, eH⟩ := h.nine h10
  have hl := h.len
  unfold partQ
  rw [e9, eH, hl]
  by_cases hc : 2 * qF (b.getD 9 0) (qH b) + 2 ≤ b.length
  · by_cases h17 : b.getD 9 0 = 17
    · by_cases hz : wordL b (qF (b.getD 9 0) (qH b)) = 0
      · have hp : partQ b = [] := by unfold partQ; rw [if_neg (fun h => h.2 ⟨h17, hz⟩)]
        have hF : qF (b.getD 9 0) (qH b) = qH b + 3 := by unfold qF; rw [h17]; simp
        have hw : wordL r (qF (b.getD 9 0) (qH b)) = wordL b (qF (b.getD 9 0) (qH b)) := word_of_getD (fun i hi => h.far i (by omega) (by rw [hp]; simp) (fun p hp2 e => by
          rcases List.mem_append.1 hp2 with hp2 | hp2
          · have hin : p.1 = 6 ∨ p.1 = 7 ∨ p.1 = 8 ∨ p.1 = 9 := by unfold headQ at hp2; simp only [List.mem_cons, List.not_mem_nil, or_false] at hp2; rcases hp2 with rfl | rfl | rfl | rfl <;> simp
            omega
          · unfold portsQ at hp2
            rw [h17] at hp2
            simp at hp2
            rcases hp2 with rfl | rfl <;> (simp only at e; omega)))
        rw [hw]
      · have hp : partQ b = [qF (b.getD 9 0) (qH b)] := by unfold partQ; rw [if_pos ⟨hc, fun h => hz h.2⟩]
        have hz2 := h.z (by omega) (qF (b.getD 9 0) (qH b)) (by rw [hp]; simp)
        rw [if_pos ⟨hc, fun h => hz2 h.2⟩, if_pos ⟨hc, fun h => hz h.2⟩]
    · rw [if_pos ⟨hc, fun h => h17 h.1⟩, if_pos ⟨hc, fun h => h17 h.1⟩]
  · rw [if_neg (fun h => hc h.1), if_neg (fun h => hc h.1)]
theorem RwIs.ports {b r : List Int} {t : Tu} {s : Int} (h : RwIs b r t s) :
    (b.getD 9 0 = 1 → wordL r (qH b + 2) = t.sp) ∧ (b.getD 9 0 ≠ 1 → wordL r (qH b) = t.sp ∧ wordL r (qH b + 1) = t.dp) ∧ (b.getD 9 0 = 6 → wordL r (qH b + 2) = s / 65536 ∧ wordL r (qH b + 3) = s % 65536) := by
  refine ⟨fun h1 => ?_, fun h1 => ⟨?_, ?_⟩, fun h6 => ⟨?_, ?_⟩⟩
  · exact h.word (qH b + 2, t.sp) (by unfold portsQ; rw [if_pos h1]; simp)
  · exact h.word (qH b, t.sp) (by unfold portsQ; rw [if_neg h1]; simp)
  · exact h.word (qH b + 1, t.dp) (by unfold portsQ; rw [if_neg h1]; simp)
  · exact h.word (qH b + 2, s / 65536) (by unfold portsQ; rw [if_neg (by omega), if_pos h6]; simp)
  · exact h.word (qH b + 3, s % 65536) (by unfold portsQ; rw [if_neg (by omega), if_pos h6]; simp)
/-- Read of what was rewritten. -/
theorem RwIs.read {b r : List Int} {t : Tu} {s : Int} (h : RwIs b r t s) (hb : Bytes b) (he : errQ b = 0) (ht : TuNum t) (hf : TuFits b t) (hs : 0 ≤ s ∧ s < 4294967296) : errQ r = 0 ∧ qTu r = t ∧ qSeq r = if b.getD 9 0 = 6 then s else 0 := by
  obtain ⟨⟨g1, h10, hl, g4⟩, hp⟩ := errQ_ok he
  obtain ⟨e9, eH⟩ := h.nine h10
  obtain ⟨w6, w7, w8, w9⟩ := h.head
  obtain ⟨p1, p2, p3⟩ := h.ports
  have e0 := h.low h10 (i := 0) (by omega) (by omega) (by omega)
  have e3 : wordL r 3 = wordL b 3 := word_of_getD (fun i hi => h.low h10 (by omega) (by omega) (by omega))
  refine ⟨?_, ?_, ?_⟩
  · unfold errQ
    rw [if_neg (by rw [h.len]; omega), if_neg (by rw [e0, eH]; omega), if_neg (by rw [h.len, eH]; omega), if_neg (by rw [e3]; omega)]
    rcases hp with hp | hp | ⟨hp, hpe⟩
    · rw [if_pos (by left; rw [e9]; exact hp)]
    · rw [if_pos (by right; rw [e9]; exact hp)]
    · rw [if_neg (by rw [e9]; omega), if_pos]
      refine ⟨by rw [e9]; exact hp, ?_⟩
      have hw : wordL r (qH b) = wordL b (qH b) := word_of_getD (fun i hi => h.far i (by omega) (fun hm => by
        rcases part_cases b with q | ⟨q, _⟩
        · rw [q] at hm; cases hm
        · rw [q] at hm
          have := List.mem_singleton.1 hm
          have hF : qH b + 1 ≤ qF (b.getD 9 0) (qH b) := by unfold qF; split; omega; split <;> omega
          omega) (fun p hp2 e => by
        rcases List.mem_append.1 hp2 with hp2 | hp2
        · have hin : p.1 = 6 ∨ p.1 = 7 ∨ p.1 = 8 ∨ p.1 = 9 := by unfold headQ at hp2; simp only [List.mem_cons, List.not_mem_nil, or_false] at hp2; rcases hp2 with rfl | rfl | rfl | rfl <;> simp
          omega
        · unfold portsQ at hp2
          rw [if_pos hp] at hp2
          rcases List.mem_singleton.1 hp2
          simp only at e
          omega))
      rw [eH, getD_eq_word h.byte hb hw (i := 2 * qH b) (by omega), getD_eq_word h.byte hb hw (i := 2 * qH b + 1) (by omega)]
      exact hpe
  · obtain ⟨f1, f2⟩ := hf
    have h1 := ht.sr; have h2 := ht.ds
    unfold qTu
    rw [e9, eH, w6, w7, w8, w9]
    obtain ⟨tp, ts, td, tsp, tdp⟩ := t
    simp only at f1 f2 p1 p2 h1 h2 ⊢
    by_cases hq : b.getD 9 0 = 1
    · rw [if_pos hq, if_pos hq, p1 hq, f2 hq, f1]
      congr 1 <;> omega
    · rw [if_neg hq, if_neg hq, (p2 hq).1, (p2 hq).2, f1]
      congr 1 <;> omega
  · unfold qSeq
    rw [e9, eH]
    by_cases hq : b.getD 9 0 = 6
    · rw [if_pos hq, if_pos hq, (p3 hq).1, (p3 hq).2]; omega
    · rw [if_neg hq, if_neg hq]
/-- Steps that may be taken. -/
theorem may_head {b c : List Int} (he : errQ b = 0) (hc : Bytes c) (hl : c.length = b.length) {k : Nat} (hk : 6 ≤ k ∧ k ≤ 9) {x : Int} (hx : U16 x) : MayQ (bothQ b) c k x := by
  obtain ⟨⟨_, h10, hlb, _⟩, hp⟩ := errQ_ok he
  have hF : qH b + 1 ≤ qF (b.getD 9 0) (qH b) := by unfold qF; split; omega; split <;> omega
  have hpc := part_cases b
  have hin : ∀ f ∈ bothQ b, f = 5 ∨ (f = qF (b.getD 9 0) (qH b) ∧ 2 * qF (b.getD 9 0) (qH b) + 2 ≤ b.length) := by
    intro f hf
    unfold bothQ at hf
    rcases List.mem_cons.1 hf with h | h
    · exact .inl h
    · by_cases h9 : b.getD 9 0 = 1
      · rw [if_pos h9] at h; cases h
      · rw [if_neg h9] at h
        rcases hpc with q | ⟨q, ql⟩
        · rw [q] at h; cases h
        · rw [q] at h; exact .inr ⟨List.mem_singleton.1 h, ql⟩
  refine ⟨hc, by omega, hx, fun f hf => ?_, ?_⟩
  · rcases hin f hf with h | h <;> omega
  · unfold bothQ
    by_cases h9 : b.getD 9 0 = 1
    · rw [if_pos h9]; simp
    · rw [if_neg h9]
      rcases hpc with q | ⟨q, _⟩
      · rw [q]; simp
      · rw [q]; exact List.nodup_cons.2 ⟨fun h => by have := List.mem_singleton.1 h; omega, by simp⟩
theorem may_port {b c : List Int} (he : errQ b = 0) (hc : Bytes c) (hl : c.length = b.length) {k : Nat} (hk : qH b ≤ k ∧ k ≤ qH b + 3 ∧ k ≠ qF (b.getD 9 0) (qH b)) {x : Int} (hx : U16 x) : MayQ (partQ b) c k x := by
  obtain ⟨⟨_, h10, hlb, _⟩, hp⟩ := errQ_ok he
  have hpc := part_cases b
  refine ⟨hc, by omega, hx, fun f hf => ?_, ?_⟩
  · rcases hpc with q | ⟨q, ql⟩
    · rw [q] at hf; cases hf
    · rw [q] at hf
      have := List.mem_singleton.1 hf
      omega
  · rcases hpc with q | ⟨q, _⟩ <;> rw [q] <;> simp
end Go.Proofs.YtoegfgbalcholaaGreat

/-
  A rewritten quote is the quote of the packet that would have been so: plain lists (stage 16, written ahead): nothing of the program.
-/
namespace Go.Proofs.YtoegfgbalcholaaGreat
set_option maxRecDepth 10000
set_option linter.unusedSimpArgs false
set_option linter.unusedVariables false

theorem bytes_ext {a b : List Int} (hl : a.length = b.length) (h : ∀ i, a.getD i 0 = b.getD i 0) : a = b := by
  refine List.ext_getElem hl (fun i h1 h2 => ?_)
  have key : ∀ (l : List Int) (hh : i < l.length), l[i] = l.getD i 0 := fun l hh => by simp [List.getD, hh]
  rw [key _ h1, key _ h2, h]
/-- Bytes that differ in some words alone: their sums. -/
theorem ws_diff {b : List Int} (hb : Bytes b) : ∀ (ks : List Nat) (a : List Int), Bytes a → a.length = b.length → ks.Nodup → (∀ k ∈ ks, 2 * k + 1 < a.length) → (∀ i, i / 2 ∉ ks → a.getD i 0 = b.getD i 0) →
    ws false b = ws false a + (ks.map (fun k => wordL b k - wordL a k)).sum
  | [], a, _, hl, _, _, h => by
    rw [bytes_ext hl (fun i => h i (by simp))]; simp
  | k :: ks, a, ha, hl, hn, hk, h => by
    obtain ⟨hn1, hn2⟩ := List.nodup_cons.1 hn
    have hkl := hk k (List.mem_cons_self ..)
    have hbb := wordL_bd hb k
    have := ws_diff hb ks (layL a k (wordL b k)) (layL_byte ha k hbb) (by rw [layL_len]; exact hl) hn2 (fun j hj => by rw [layL_len]; exact hk j (List.mem_cons_of_mem _ hj)) (fun i hi => by
      by_cases e : i / 2 = k
      · have hw : wordL (layL a k (wordL b k)) k = wordL b k := wordL_lay_same _ _ _ hkl
        exact getD_eq_word (layL_byte ha k hbb) hb hw e
      · rw [getD_lay _ _ _ _ e]
        exact h i (fun hm => by rcases List.mem_cons.1 hm with h | h; exact e h; exact hi h))
    rw [ws_lay _ _ _ hkl] at this
    have hmap : ks.map (fun j => wordL b j - wordL (layL a k (wordL b k)) j) = ks.map (fun j => wordL b j - wordL a j) := List.map_congr_left (fun j hj => by rw [wordL_lay_other _ _ _ _ (fun e => hn1 (by rw [e]; exact hj))])
    rw [hmap] at this
    rw [List.map_cons, List.sum_cons]
    omega
theorem sum_zeros : ∀ l : List Nat, (l.map (fun _ => (0 : Int))).sum = 0
  | [] => rfl
  | k :: l => by rw [List.map_cons, List.sum_cons, sum_zeros l]; rfl
/-- The words of a payload that a rewriting changes. -/
def keysQ (pr : Int) (H : Nat) : List Nat := if pr = 1 then [H + 2] else [H, H + 1] ++ (if pr = 6 then [H + 2, H + 3] else [])
theorem keys_ports (b : List Int) (t : Tu) (s : Int) : (portsQ b t s).map (·.1) = keysQ (b.getD 9 0) (qH b) := by
  unfold portsQ keysQ
  by_cases h1 : b.getD 9 0 = 1
  · rw [if_pos h1, if_pos h1]; rfl
  · rw [if_neg h1, if_neg h1]
    by_cases h6 : b.getD 9 0 = 6
    · rw [if_pos h6, if_pos h6]; rfl
    · rw [if_neg h6, if_neg h6]; rfl
theorem ps_keys (pr : Int) (H : Nat) (a b : List Int) : ((keysQ pr H).map (fun k => wordL b k - wordL a k)).sum = psQ pr H b - psQ pr H a := by
  unfold keysQ psQ
  by_cases h1 : pr = 1
  · rw [if_pos h1, if_pos h1, if_pos h1]; simp only [List.map_cons, List.map_nil, List.sum_cons, List.sum_nil]; omega
  · rw [if_neg h1, if_neg h1, if_neg h1]
    by_cases h6 : pr = 6
    · rw [if_pos h6, if_pos h6, if_pos h6]; simp only [List.map_cons, List.map_nil, List.sum_cons, List.sum_nil, List.cons_append, List.nil_append]; omega
    · rw [if_neg h6, if_neg h6, if_neg h6]; simp only [List.map_cons, List.map_nil, List.sum_cons, List.sum_nil, List.cons_append, List.nil_append]; omega
/-- Two packets that differ in addresses, ports (number), fields alone, both right. -/
structure TwoQ (pr : Int) (H : Nat) (a b : List Int) : Prop where
  ba : Bytes a
  bb : Bytes b
  len : a.length = b.length
  is_ : pr = 6 ∨ pr = 17 ∨ pr = 1
  h10 : 10 ≤ H
  l8 : 2 * H + 8 ≤ a.length
  lF : 2 * qF pr H + 2 ≤ a.length
  a9 : a.getD 9 0 = pr
  aH : qH a = H
  far : ∀ i, (i / 2 < 5 ∨ 9 < i / 2) → i / 2 ≠ qF pr H → i / 2 ∉ keysQ pr H → a.getD i 0 = b.getD i 0
  hs : (ws false (b.take (2 * H)) - ws false (a.take (2 * H))) % 65535 = 0
  ps : (((if pr = 1 then 0 else hsQ b - hsQ a)) + (ws false (b.drop (2 * H)) - ws false (a.drop (2 * H)))) % 65535 = 0
theorem keys_in {pr : Int} {H k : Nat} (hp : pr = 6 ∨ pr = 17 ∨ pr = 1) (h : k ∈ keysQ pr H) : H ≤ k ∧ k ≤ H + 3 ∧ k ≠ qF pr H := by
  unfold keysQ at h
  unfold qF
  by_cases h1 : pr = 1
  · rw [if_pos h1] at h
    rcases List.mem_singleton.1 h
    rw [if_neg (by omega), if_neg (by omega)]; omega
  · rw [if_neg h1] at h
    by_cases h6 : pr = 6
    · rw [if_pos h6] at h
      rw [if_pos h6]
      simp only [List.cons_append, List.nil_append, List.mem_cons, List.not_mem_nil, or_false] at h
      omega
    · rw [if_neg h6] at h
      rw [if_neg h6, if_pos (by omega)]
      simp only [List.cons_append, List.nil_append, List.mem_cons, List.not_mem_nil, or_false] at h
      omega
theorem keys_nodup (pr : Int) (H : Nat) : (keysQ pr H).Nodup := by
  unfold keysQ
  by_cases h1 : pr = 1
  · rw [if_pos h1]; simp
  · rw [if_neg h1]
    by_cases h6 : pr = 6
    · rw [if_pos h6]; simp
    · rw [if_neg h6]; simp
theorem getD_takeQ (l : List Int) (m i : Nat) (h : i < m) : (l.take m).getD i 0 = l.getD i 0 := by
  simp only [List.getD]
  rw [List.getElem?_take_of_lt h]
theorem getD_dropQ (l : List Int) (m i : Nat) : (l.drop m).getD i 0 = l.getD (m + i) 0 := by
  simp only [List.getD, List.getElem?_drop]
theorem Bytes.takeQ {l : List Int} (h : Bytes l) (m : Nat) : Bytes (l.take m) := fun x hx => h x (List.mem_of_mem_take hx)
theorem Bytes.dropQ {l : List Int} (h : Bytes l) (m : Nat) : Bytes (l.drop m) := fun x hx => h x (List.mem_of_mem_drop hx)
theorem wordL_takeQ (l : List Int) (m k : Nat) (h : 2 * k + 1 < m) : wordL (l.take m) k = wordL l k := by
  unfold wordL; rw [getD_takeQ _ _ _ (by omega), getD_takeQ _ _ _ h]
theorem wordL_dropQ (l : List Int) (H k : Nat) : wordL (l.drop (2 * H)) k = wordL l (H + k) := by
  unfold wordL; rw [getD_dropQ, getD_dropQ, show 2 * H + 2 * k = 2 * (H + k) by omega, show 2 * H + (2 * k + 1) = 2 * (H + k) + 1 by omega]
theorem keys_shift (pr : Int) (H : Nat) : keysQ pr H = (keysQ pr 0).map (H + ·) := by
  unfold keysQ
  by_cases h1 : pr = 1
  · rw [if_pos h1, if_pos h1]; rfl
  · rw [if_neg h1, if_neg h1]
    by_cases h6 : pr = 6
    · rw [if_pos h6, if_pos h6]; rfl
    · rw [if_neg h6, if_neg h6]; rfl
theorem qF_shift (pr : Int) (H : Nat) : qF pr H = H + qF pr 0 := by
  unfold qF; split
  · omega
  · split <;> omega
/-- The header's field, and the payload's, of the two. -/
theorem TwoQ.fields {pr : Int} {H : Nat} {a b : List Int} (h : TwoQ pr H a b) :
    (wordL b 5 + hsQ b - (wordL a 5 + hsQ a)) % 65535 = 0 ∧ (wordL b (qF pr H) + (if pr = 1 then 0 else hsQ b) + psQ pr H b - (wordL a (qF pr H) + (if pr = 1 then 0 else hsQ a) + psQ pr H a)) % 65535 = 0 := by
  have h10 := h.h10
  have hl := h.l8
  have hlen := h.len
  constructor
  · have := ws_diff (h.bb.takeQ (2 * H)) [5, 6, 7, 8, 9] (a.take (2 * H)) (h.ba.takeQ _) (by rw [List.length_take, List.length_take, hlen]) (by decide) (fun k hk => by
      rw [List.length_take]
      simp only [List.mem_cons, List.not_mem_nil, or_false] at hk
      omega) (fun i hi => by
      by_cases h2 : i < 2 * H
      · rw [getD_takeQ _ _ _ h2, getD_takeQ _ _ _ h2]
        simp only [List.mem_cons, List.not_mem_nil, or_false] at hi
        have hF : H + 1 ≤ qF pr H := by unfold qF; split; omega; split <;> omega
        exact h.far i (by omega) (by omega) (fun hm => by have := (keys_in h.is_ hm).1; omega)
      · simp only [List.getD]
        rw [List.getElem?_eq_none (by rw [List.length_take]; omega), List.getElem?_eq_none (by rw [List.length_take]; omega)])
    have hs := h.hs
    simp only [List.map_cons, List.map_nil, List.sum_cons, List.sum_nil] at this
    rw [wordL_takeQ _ _ 5 (by omega), wordL_takeQ _ _ 6 (by omega), wordL_takeQ _ _ 7 (by omega), wordL_takeQ _ _ 8 (by omega), wordL_takeQ _ _ 9 (by omega), wordL_takeQ _ _ 5 (by omega), wordL_takeQ _ _ 6 (by omega), wordL_takeQ _ _ 7 (by omega), wordL_takeQ _ _ 8 (by omega), wordL_takeQ _ _ 9 (by omega)] at this
    unfold hsQ
    omega
  · have hkn : ((qF pr 0) :: keysQ pr 0).Nodup := List.nodup_cons.2 ⟨fun hm => (keys_in h.is_ hm).2.2 rfl, keys_nodup _ _⟩
    have hFl := h.lF
    have hFs := qF_shift pr H
    have := ws_diff (h.bb.dropQ (2 * H)) ((qF pr 0) :: keysQ pr 0) (a.drop (2 * H)) (h.ba.dropQ _) (by rw [List.length_drop, List.length_drop, hlen]) hkn (fun k hk => by
      rw [List.length_drop]
      rcases List.mem_cons.1 hk with e | e
      · omega
      · have := (keys_in h.is_ e).2.1; omega) (fun i hi => by
      rw [getD_dropQ, getD_dropQ]
      refine h.far (2 * H + i) (by omega) (fun e => hi ?_) (fun hm => hi ?_)
      · rw [show i / 2 = qF pr 0 by omega]; exact List.mem_cons_self ..
      · rw [keys_shift] at hm
        obtain ⟨j, hj, e⟩ := List.mem_map.1 hm
        rw [show i / 2 = j by omega]
        exact List.mem_cons_of_mem _ hj)
    rw [List.map_cons, List.sum_cons, wordL_dropQ, wordL_dropQ, ← hFs, List.map_congr_left (g := fun k => wordL b (H + k) - wordL a (H + k)) (fun k _ => by rw [wordL_dropQ, wordL_dropQ])] at this
    have hk := ps_keys pr H a b
    rw [keys_shift, List.map_map] at hk
    have e2 : (keysQ pr 0).map ((fun k => wordL b k - wordL a k) ∘ (H + ·)) = (keysQ pr 0).map (fun k => wordL b (H + k) - wordL a (H + k)) := rfl
    rw [e2] at hk
    rw [hk] at this
    have hps := h.ps
    by_cases h1 : pr = 1
    · rw [if_pos h1] at hps ⊢
      rw [if_pos h1]
      omega
    · rw [if_neg h1] at hps ⊢
      rw [if_neg h1]
      omega
/-- The quote of the first, rewritten, is that of the second. -/
theorem as_like {pr : Int} {H m : Nat} {a b r : List Int} {t : Tu} {s : Int} (h : TwoQ pr H a b) (hz : pr = 17 → wordL a (qF pr H) ≠ 0) (hm : 2 * H + 8 ≤ m) (hml : m ≤ a.length) (hr : RwIs (a.take m) r t s)
    (w6 : wordL b 6 = t.sr / 65536 ∧ wordL b 7 = t.sr % 65536 ∧ wordL b 8 = t.ds / 65536 ∧ wordL b 9 = t.ds % 65536) (wp : ∀ p ∈ portsQ (a.take m) t s, wordL b p.1 = p.2) :
    ∀ i, i < m → i ≠ 2 * qF pr H ∨ m ≠ 2 * qF pr H + 1 → r.getD i 0 = (b.take m).getD i 0 ∨ (i / 2 ∈ [5, qF pr H] ∧ 2 * (i / 2) + 2 ≤ m ∧ likeB (wordL r (i / 2)) (wordL (b.take m) (i / 2)) = true) := by
  have h10 := h.h10
  have hlen := h.len
  have ha9 : (a.take m).getD 9 0 = pr := by rw [getD_takeQ _ _ _ (by omega)]; exact h.a9
  have haH : qH (a.take m) = H := by have := h.aH; unfold qH at this ⊢; rw [getD_takeQ _ _ _ (by omega)]; exact this
  have hla : (a.take m).length = m := by rw [List.length_take]; omega
  obtain ⟨f5, fF⟩ := h.fields
  have hFb : H + 1 ≤ qF pr H := by unfold qF; split; omega; split <;> omega
  obtain ⟨v6, v7, v8, v9⟩ := hr.head
  have hhs : hsQ r = hsQ b := by unfold hsQ; rw [v6, v7, v8, v9, w6.1, w6.2.1, w6.2.2.1, w6.2.2.2]
  have hkm : ∀ k ∈ keysQ pr H, wordL r k = wordL b k := fun k hk => by
    have e := keys_ports (a.take m) t s
    rw [ha9, haH] at e
    rw [← e] at hk
    obtain ⟨p, hp, e2⟩ := List.mem_map.1 hk
    subst e2
    rw [wp p hp]
    exact hr.word p (List.mem_append_right _ hp)
  have hps : psQ pr H r = psQ pr H b := by
    have := ps_keys pr H r b
    rw [List.map_congr_left (g := fun _ => (0 : Int)) (fun k hk => by rw [hkm k hk]; omega)] at this
    have e0 := sum_zeros (keysQ pr H)
    omega
  have hpsa : psQ pr H (a.take m) = psQ pr H a := by
    have key : ∀ k, k ≤ H + 3 → wordL (a.take m) k = wordL a k := fun k hk => wordL_takeQ _ _ _ (by omega)
    unfold psQ
    rw [key H (by omega), key (H + 1) (by omega), key (H + 2) (by omega), key (H + 3) (by omega)]
  have hhsa : hsQ (a.take m) = hsQ a := by unfold hsQ; rw [wordL_takeQ _ _ 6 (by omega), wordL_takeQ _ _ 7 (by omega), wordL_takeQ _ _ 8 (by omega), wordL_takeQ _ _ 9 (by omega)]
  have k5 : likeB (wordL r 5) (wordL (b.take m) 5) = true := by
    refine like_of _ _ (wordL_bd hr.byte 5) (wordL_bd (h.bb.takeQ m) 5) ?_
    have h1 := hr.h
    rw [hhs, hhsa, wordL_takeQ _ _ 5 (by omega)] at h1
    rw [wordL_takeQ _ _ 5 (by omega)]
    omega
  intro i hi hcut
  by_cases e5 : i / 2 = 5
  · exact .inr ⟨by rw [e5]; simp, by rw [e5]; omega, by rw [e5]; exact k5⟩
  by_cases eF : i / 2 = qF pr H
  · by_cases hc : 2 * qF pr H + 2 ≤ m
    · have hpart : partQ (a.take m) = [qF pr H] := by
        unfold partQ
        rw [ha9, haH, hla, if_pos]
        exact ⟨hc, fun hh => hz hh.1 (by rw [← hh.2]; exact (wordL_takeQ _ _ _ (by omega)).symm)⟩
      refine .inr ⟨by rw [eF]; simp, by rw [eF]; exact hc, ?_⟩
      rw [eF]
      refine like_of _ _ (wordL_bd hr.byte _) (wordL_bd (h.bb.takeQ m) _) ?_
      have h1 := hr.p (qF pr H) (by rw [hpart]; simp)
      rw [ha9, haH, hhs, hhsa, hps, hpsa, wordL_takeQ _ _ _ (by omega)] at h1
      rw [wordL_takeQ _ _ _ (by omega)]
      by_cases h9 : pr = 1
      · rw [if_pos h9] at h1 fF
        rw [if_pos h9] at fF
        omega
      · rw [if_neg h9] at h1 fF
        rw [if_neg h9] at fF
        omega
    · exact absurd (show i ≠ 2 * qF pr H ∨ m ≠ 2 * qF pr H + 1 from hcut) (by omega)
  left
  rw [getD_takeQ _ _ _ hi]
  by_cases hk : i / 2 ∈ keysQ pr H
  · exact getD_eq_word hr.byte h.bb (hkm _ hk) rfl
  by_cases hh : 6 ≤ i / 2 ∧ i / 2 ≤ 9
  · refine getD_eq_word hr.byte h.bb ?_ rfl
    rcases (show i / 2 = 6 ∨ i / 2 = 7 ∨ i / 2 = 8 ∨ i / 2 = 9 by omega) with e | e | e | e <;> rw [e]
    · rw [v6, w6.1]
    · rw [v7, w6.2.1]
    · rw [v8, w6.2.2.1]
    · rw [v9, w6.2.2.2]
  rw [hr.far i e5 (fun hm => by
      rcases part_cases (a.take m) with q | ⟨q, _⟩
      · rw [q] at hm; cases hm
      · rw [q, ha9, haH] at hm; exact eF (List.mem_singleton.1 hm)) (fun p hp e => by
      rcases List.mem_append.1 hp with hp | hp
      · have hin : p.1 = 6 ∨ p.1 = 7 ∨ p.1 = 8 ∨ p.1 = 9 := by unfold headQ at hp; simp only [List.mem_cons, List.not_mem_nil, or_false] at hp; rcases hp with rfl | rfl | rfl | rfl <;> simp
        omega
      · have e2 := keys_ports (a.take m) t s
        rw [ha9, haH] at e2
        exact hk (by rw [← e2, ← e]; exact List.mem_map.2 ⟨p, hp, rfl⟩)), getD_takeQ _ _ _ hi]
  exact h.far i (by omega) eF hk
end Go.Proofs.YtoegfgbalcholaaGreat

/-
  Heads of packets (api.Head) as numbers. No function of the program.
-/
namespace Go.Proofs.YtoegfgbalcholaaGreat
set_option maxRecDepth 10000
open Go.RowKit

structure Hd where
  «to» : Int
  id : Int
  df : Bool
  tt : Int
  pr : Int
  sr : Int
  ds : Int
  o : List Int
structure HdNum (h : Hd) : Prop where
  «to» : 0 ≤ h.to ∧ h.to < 256
  id : 0 ≤ h.id ∧ h.id < 65536
  tt : 0 ≤ h.tt ∧ h.tt < 256
  pr : 0 ≤ h.pr ∧ h.pr < 256
  sr : 0 ≤ h.sr ∧ h.sr < 4294967296
  ds : 0 ≤ h.ds ∧ h.ds < 4294967296
def hdSame (h h' : Hd) : Bool := decide (h.to = h'.to) && (decide (h.id = h'.id) && (decide (h.df = h'.df) && (decide (h.tt = h'.tt) && (decide (h.pr = h'.pr) && (decide (h.sr = h'.sr) && (decide (h.ds = h'.ds) && decide (h.o = h'.o)))))))
theorem hdSame_self (h : Hd) : hdSame h h = true := by simp [hdSame]
theorem hdSame_iff (h h' : Hd) : hdSame h h' = true ↔ h = h' := by
  obtain ⟨a, b, c, d, e, f, g, l⟩ := h
  obtain ⟨a', b', c', d', e', f', g', l'⟩ := h'
  simp [hdSame]
/-- A packet of this head. -/
def hdB (h : Hd) (payload : List Int) : List Int := packetL h.to h.id h.df h.tt h.pr h.sr h.ds h.o payload
end Go.Proofs.YtoegfgbalcholaaGreat

/-
  Two packets with one header but for its addresses, laid: where they agree (stage 16, written ahead): plain lists.
-/
namespace Go.Proofs.YtoegfgbalcholaaGreat
set_option maxRecDepth 10000
set_option linter.unusedSimpArgs false
set_option linter.unusedVariables false

theorem sumL_full16 {l : List Int} : sumL l = 65535 ↔ 0 < ws false l ∧ ws false l % 65535 = 0 := by
  unfold sumL fold16
  constructor
  · intro h
    split at h
    · omega
    · exact ⟨by omega, by omega⟩
  · rintro ⟨h1, h2⟩
    rw [if_neg (by omega)]
    omega
/-- A header's bytes: the first twenty. -/
theorem hd_bytes (h : Hd) (P : List Int) : ∃ z u v : Int, z = 20 + h.o.length + P.length ∧ hdB h P = [64 + (20 + (h.o.length : Int)) / 4, h.to, z / 256, z % 256, h.id / 256, h.id % 256, flagsOf h.df / 256, flagsOf h.df % 256, h.tt, h.pr, u, v, h.sr / 16777216, h.sr / 65536 % 256, h.sr / 256 % 256, h.sr % 256, h.ds / 16777216, h.ds / 65536 % 256, h.ds / 256 % 256, h.ds % 256] ++ (h.o ++ P) := by
  obtain ⟨z, u, v, hz, e⟩ := packetL_cons h.to h.id h.df h.tt h.pr h.sr h.ds h.o P
  exact ⟨z, u, v, hz, e⟩
structure HdFits (h : Hd) (n : Nat) : Prop where
  num : HdNum h
  ob : ∀ x ∈ h.o, 0 ≤ x ∧ x < 256
  o40 : h.o.length ≤ 40
  o4 : h.o.length % 4 = 0
  long : 20 + h.o.length + n ≤ 1500
theorem hd_len (h : Hd) (P : List Int) : (hdB h P).length = 20 + h.o.length + P.length := by
  obtain ⟨z, u, v, hz, e⟩ := hd_bytes h P
  rw [e]; simp; omega
theorem hd_head (h : Hd) (P : List Int) (hf : HdFits h P.length) : (hdB h P).getD 0 0 / 16 = 4 ∧ qH (hdB h P) = (20 + h.o.length) / 2 ∧ (hdB h P).getD 9 0 = h.pr ∧ wordL (hdB h P) 3 % 8192 = 0 ∧
    wordL (hdB h P) 6 = h.sr / 65536 ∧ wordL (hdB h P) 7 = h.sr % 65536 ∧ wordL (hdB h P) 8 = h.ds / 65536 ∧ wordL (hdB h P) 9 = h.ds % 65536 := by
  obtain ⟨z, u, v, hz, e⟩ := hd_bytes h P
  have h1 := hf.num.sr; have h2 := hf.num.ds; have h3 := hf.o40; have h4 := hf.o4
  have hfl : flagsOf h.df = 16384 ∨ flagsOf h.df = 0 := by unfold flagsOf; cases h.df <;> simp
  unfold qH wordL
  rw [e]
  simp only [List.cons_append, List.nil_append, List.getD_cons_zero, List.getD_cons_succ, Nat.reduceMul, Nat.reduceAdd]
  refine ⟨by omega, by omega, trivial, ?_, by omega, by omega, by omega, by omega⟩
  rcases hfl with e | e <;> rw [e] <;> decide
theorem hd_rest (h : Hd) (P : List Int) (i : Nat) : (hdB h P).getD (20 + h.o.length + i) 0 = P.getD i 0 := by
  obtain ⟨z, u, v, hz, e⟩ := hd_bytes h P
  rw [e]
  simp only [List.getD]
  rw [List.getElem?_append_right (by simp; omega), List.getElem?_append_right (by simp; omega)]
  congr 2
  simp; omega
theorem hd_opts (h : Hd) (P : List Int) (i : Nat) (hi : i < h.o.length) : (hdB h P).getD (20 + i) 0 = h.o.getD i 0 := by
  obtain ⟨z, u, v, hz, e⟩ := hd_bytes h P
  rw [e]
  simp only [List.getD]
  rw [List.getElem?_append_right (by simp), List.getElem?_append_left (by simp; omega)]
  congr 2
  simp
theorem hd_drop (h : Hd) (P : List Int) : (hdB h P).drop (20 + h.o.length) = P := by
  refine bytes_ext (by rw [List.length_drop, hd_len]; omega) (fun i => ?_)
  rw [getD_dropQ, hd_rest]
/-- The two, side by side. -/
theorem two_hd {h : Hd} {sr ds : Int} {P P' : List Int} {H : Nat} (hf : HdFits h P.length) (hf' : HdFits { h with sr := sr, ds := ds } P'.length) (hl : P.length = P'.length) (hpr : h.pr = 6 ∨ h.pr = 17 ∨ h.pr = 1) (hH : 20 + h.o.length = 2 * H)
    (hb : Bytes (hdB h P)) (hb' : Bytes (hdB { h with sr := sr, ds := ds } P')) (h8 : 8 ≤ P.length) (hF : 2 * qF h.pr 0 + 2 ≤ P.length)
    (hs : sumL ((hdB h P).take (2 * H)) = 65535) (hs' : sumL ((hdB { h with sr := sr, ds := ds } P').take (2 * H)) = 65535)
    (hP : ∀ j, j / 2 ≠ qF h.pr 0 → j / 2 ∉ keysQ h.pr 0 → P.getD j 0 = P'.getD j 0)
    (hps : ((if h.pr = 1 then 0 else (sr / 65536 + sr % 65536 + ds / 65536 + ds % 65536) - (h.sr / 65536 + h.sr % 65536 + h.ds / 65536 + h.ds % 65536)) + (ws false P' - ws false P)) % 65535 = 0) :
    TwoQ h.pr H (hdB h P) (hdB { h with sr := sr, ds := ds } P') := by
  obtain ⟨a1, a2, a3, a4, a5, a6, a7, a8⟩ := hd_head h P hf
  obtain ⟨b1, b2, b3, b4, b5, b6, b7, b8⟩ := hd_head { h with sr := sr, ds := ds } P' hf'
  simp only at b5 b6 b7 b8
  have hla := hd_len h P
  have hlb := hd_len { h with sr := sr, ds := ds } P'
  simp only at hlb
  have hFs := qF_shift h.pr H
  have hda := hd_drop h P
  have hdb := hd_drop { h with sr := sr, ds := ds } P'
  simp only at hdb
  refine ⟨hb, hb', by rw [hla, hlb, hl], hpr, by omega, by rw [hla]; omega, by rw [hla]; omega, a3, by rw [a2]; omega, fun i hi hiF hik => ?_, ?_, ?_⟩
  · by_cases h20 : i < 20
    · obtain ⟨z, u, v, hz, e⟩ := hd_bytes h P
      obtain ⟨z', u', v', hz', e'⟩ := hd_bytes { h with sr := sr, ds := ds } P'
      have hzz : z = z' := by rw [hz, hz']; simp only; rw [hl]
      subst hzz
      rw [e, e']
      rcases (show i = 0 ∨ i = 1 ∨ i = 2 ∨ i = 3 ∨ i = 4 ∨ i = 5 ∨ i = 6 ∨ i = 7 ∨ i = 8 ∨ i = 9 by omega) with rfl | rfl | rfl | rfl | rfl | rfl | rfl | rfl | rfl | rfl <;> rfl
    · by_cases ho : i < 20 + h.o.length
      · obtain ⟨j, rfl⟩ : ∃ j, i = 20 + j := ⟨i - 20, by omega⟩
        have e1 := hd_opts h P j (by omega)
        have e2 := hd_opts { h with sr := sr, ds := ds } P' j (by simp only; omega)
        simp only at e2
        rw [e1, e2]
      · obtain ⟨j, rfl⟩ : ∃ j, i = 20 + h.o.length + j := ⟨i - (20 + h.o.length), by omega⟩
        have e1 := hd_rest h P j
        have e2 := hd_rest { h with sr := sr, ds := ds } P' j
        simp only at e2
        rw [e1, e2]
        refine hP j (fun e => hiF (by rw [hFs, ← e]; omega)) (fun hm => hik ?_)
        rw [keys_shift]
        exact List.mem_map.2 ⟨j / 2, hm, by omega⟩
  · have h1 := (sumL_full16).1 hs
    have h2 := (sumL_full16).1 hs'
    omega
  · rw [← hH, hda, hdb]
    unfold hsQ
    rw [a5, a6, a7, a8, b5, b6, b7, b8]
    by_cases h1 : h.pr = 1
    · rw [if_pos h1] at hps ⊢; omega
    · rw [if_neg h1] at hps ⊢; omega
end Go.Proofs.YtoegfgbalcholaaGreat
