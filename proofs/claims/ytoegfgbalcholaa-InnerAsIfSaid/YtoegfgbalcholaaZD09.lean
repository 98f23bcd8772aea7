/-
  Texts laid together: InAs, Part, InSame, Hd.
-/
import Derived.Test.YtoegfgbalcholaaZD07
import Derived.Test.YtoegfgbalcholaaZD06
import Derived.Test.YtoegfgbalcholaaZD08
import Derived.Deep.QuietTactic
import Derived.BigQuiet
import Derived.Test.YtoegfgbalcholaaZD03
import Derived.Test.YtoegfgbalcholaaZD01

/-
  A rewritten quote is the quote of the packet that would have been so: plain lists (stage 16, written ahead): nothing of the program.
-/
namespace Go.Proofs.Ytoegfgbalcholaa
set_option maxRecDepth 10000
set_option linter.unusedSimpArgs false
set_option linter.unusedVariables false

theorem bytes_ext {a b : List Int} (hl : a.length = b.length) (h : ∀ i, a.getD i 0 = b.getD i 0) : a = b := by
  refine List.ext_getElem hl (fun i h1 h2 => ?_)
  have key : ∀ (l : List Int) (hh : i < l.length), l[i] = l.getD i 0 := fun l hh => by simp [List.getD, hh]
  rw [key _ h1, key _ h2, h]
/-- Bytes that differ in some words alone: their sums. -/
theorem ws_diff {b : List Int} (hb : Bytes b) : ∀ (ks : List Nat) (a : List Int), Bytes a → a.length = b.length → ks.Nodup → (∀ k ∈ ks, 2 * k + 1 < a.length) → (∀ i, i / 2 ∉ ks → a.getD i 0 = b.getD i 0) →
    ws false b = ws false a + (ks.map (fun k => wordL b k - wordL a k)).sum
  | [], a, _, hl, _, _, h => by
    rw [bytes_ext hl (fun i => h i (by simp))]; simp
  | k :: ks, a, ha, hl, hn, hk, h => by
    obtain ⟨hn1, hn2⟩ := List.nodup_cons.1 hn
    have hkl := hk k (List.mem_cons_self ..)
    have hbb := wordL_bd hb k
    have := ws_diff hb ks (layL a k (wordL b k)) (layL_byte ha k hbb) (by rw [layL_len]; exact hl) hn2 (fun j hj => by rw [layL_len]; exact hk j (List.mem_cons_of_mem _ hj)) (fun i hi => by
      by_cases e : i / 2 = k
      · have hw : wordL (layL a k (wordL b k)) k = wordL b k := wordL_lay_same _ _ _ hkl
        exact getD_eq_word (layL_byte ha k hbb) hb hw e
      · rw [getD_lay _ _ _ _ e]
        exact h i (fun hm => by rcases List.mem_cons.1 hm with h | h; exact e h; exact hi h))
    rw [ws_lay _ _ _ hkl] at this
    have hmap : ks.map (fun j => wordL b j - wordL (layL a k (wordL b k)) j) = ks.map (fun j => wordL b j - wordL a j) := List.map_congr_left (fun j hj => by rw [wordL_lay_other _ _ _ _ (fun e => hn1 (by rw [e]; exact hj))])
    rw [hmap] at this
    rw [List.map_cons, List.sum_cons]
    omega
theorem sum_zeros : ∀ l : List Nat, (l.map (fun _ => (0 : Int))).sum = 0
  | [] => rfl
  | k :: l => by rw [List.map_cons, List.sum_cons, sum_zeros l]; rfl
/-- The words of a payload that a rewriting changes. -/
def keysQ (pr : Int) (H : Nat) : List Nat := if pr = 1 then [H + 2] else [H, H + 1] ++ (if pr = 6 then [H + 2, H + 3] else [])
theorem keys_ports (b : List Int) (t : Tu) (s : Int) : (portsQ b t s).map (·.1) = keysQ (b.getD 9 0) (qH b) := by
  unfold portsQ keysQ
  by_cases h1 : b.getD 9 0 = 1
  · rw [if_pos h1, if_pos h1]; rfl
  · rw [if_neg h1, if_neg h1]
    by_cases h6 : b.getD 9 0 = 6
    · rw [if_pos h6, if_pos h6]; rfl
    · rw [if_neg h6, if_neg h6]; rfl
theorem ps_keys (pr : Int) (H : Nat) (a b : List Int) : ((keysQ pr H).map (fun k => wordL b k - wordL a k)).sum = psQ pr H b - psQ pr H a := by
  unfold keysQ psQ
  by_cases h1 : pr = 1
  · rw [if_pos h1, if_pos h1, if_pos h1]; simp only [List.map_cons, List.map_nil, List.sum_cons, List.sum_nil]; omega
  · rw [if_neg h1, if_neg h1, if_neg h1]
    by_cases h6 : pr = 6
    · rw [if_pos h6, if_pos h6, if_pos h6]; simp only [List.map_cons, List.map_nil, List.sum_cons, List.sum_nil, List.cons_append, List.nil_append]; omega
    · rw [if_neg h6, if_neg h6, if_neg h6]; simp only [List.map_cons, List.map_nil, List.sum_cons, List.sum_nil, List.cons_append, List.nil_append]; omega
/-- Two packets that differ in addresses, ports (number), fields alone, both right. -/
structure TwoQ (pr : Int) (H : Nat) (a b : List Int) : Prop where
  ba : Bytes a
  bb : Bytes b
  len : a.length = b.length
  is_ : pr = 6 ∨ pr = 17 ∨ pr = 1
  h10 : 10 ≤ H
  l8 : 2 * H + 8 ≤ a.length
  lF : 2 * qF pr H + 2 ≤ a.length
  a9 : a.getD 9 0 = pr
  aH : qH a = H
  far : ∀ i, (i / 2 < 5 ∨ 9 < i / 2) → i / 2 ≠ qF pr H → i / 2 ∉ keysQ pr H → a.getD i 0 = b.getD i 0
  hs : (ws false (b.take (2 * H)) - ws false (a.take (2 * H))) % 65535 = 0
  ps : (((if pr = 1 then 0 else hsQ b - hsQ a)) + (ws false (b.drop (2 * H)) - ws false (a.drop (2 * H)))) % 65535 = 0
theorem keys_in {pr : Int} {H k : Nat} (hp : pr = 6 ∨ pr = 17 ∨ pr = 1) (h : k ∈ keysQ pr H) : H ≤ k ∧ k ≤ H + 3 ∧ k ≠ qF pr H := by
  unfold keysQ at h
  unfold qF
  by_cases h1 : pr = 1
  · rw [if_pos h1] at h
    rcases List.mem_singleton.1 h
    rw [if_neg (by omega), if_neg (by omega)]; omega
  · rw [if_neg h1] at h
    by_cases h6 : pr = 6
    · rw [if_pos h6] at h
      rw [if_pos h6]
      simp only [List.cons_append, List.nil_append, List.mem_cons, List.not_mem_nil, or_false] at h
      omega
    · rw [if_neg h6] at h
      rw [if_neg h6, if_pos (by omega)]
      simp only [List.cons_append, List.nil_append, List.mem_cons, List.not_mem_nil, or_false] at h
      omega
theorem keys_nodup (pr : Int) (H : Nat) : (keysQ pr H).Nodup := by
  unfold keysQ
  by_cases h1 : pr = 1
  · rw [if_pos h1]; simp
  · rw [if_neg h1]
    by_cases h6 : pr = 6
    · rw [if_pos h6]; simp
    · rw [if_neg h6]; simp
theorem getD_takeQ (l : List Int) (m i : Nat) (h : i < m) : (l.take m).getD i 0 = l.getD i 0 := by
  simp only [List.getD]
  rw [List.getElem?_take_of_lt h]
theorem getD_dropQ (l : List Int) (m i : Nat) : (l.drop m).getD i 0 = l.getD (m + i) 0 := by
  simp only [List.getD, List.getElem?_drop]
theorem Bytes.takeQ {l : List Int} (h : Bytes l) (m : Nat) : Bytes (l.take m) := fun x hx => h x (List.mem_of_mem_take hx)
theorem Bytes.dropQ {l : List Int} (h : Bytes l) (m : Nat) : Bytes (l.drop m) := fun x hx => h x (List.mem_of_mem_drop hx)
theorem wordL_takeQ (l : List Int) (m k : Nat) (h : 2 * k + 1 < m) : wordL (l.take m) k = wordL l k := by
  unfold wordL; rw [getD_takeQ _ _ _ (by omega), getD_takeQ _ _ _ h]
theorem wordL_dropQ (l : List Int) (H k : Nat) : wordL (l.drop (2 * H)) k = wordL l (H + k) := by
  unfold wordL; rw [getD_dropQ, getD_dropQ, show 2 * H + 2 * k = 2 * (H + k) by omega, show 2 * H + (2 * k + 1) = 2 * (H + k) + 1 by omega]
theorem keys_shift (pr : Int) (H : Nat) : keysQ pr H = (keysQ pr 0).map (H + ·) := by
  unfold keysQ
  by_cases h1 : pr = 1
  · rw [if_pos h1, if_pos h1]; rfl
  · rw [if_neg h1, if_neg h1]
    by_cases h6 : pr = 6
    · rw [if_pos h6, if_pos h6]; rfl
    · rw [if_neg h6, if_neg h6]; rfl
theorem qF_shift (pr : Int) (H : Nat) : qF pr H = H + qF pr 0 := by
  unfold qF; split
  · omega
  · split <;> omega
/-- The header's field, and the payload's, of the two. -/
theorem TwoQ.fields {pr : Int} {H : Nat} {a b : List Int} (h : TwoQ pr H a b) :
    (wordL b 5 + hsQ b - (wordL a 5 + hsQ a)) % 65535 = 0 ∧ (wordL b (qF pr H) + (if pr = 1 then 0 else hsQ b) + psQ pr H b - (wordL a (qF pr H) + (if pr = 1 then 0 else hsQ a) + psQ pr H a)) % 65535 = 0 := by
  have h10 := h.h10
  have hl := h.l8
  have hlen := h.len
  constructor
  · have := ws_diff (h.bb.takeQ (2 * H)) [5, 6, 7, 8, 9] (a.take (2 * H)) (h.ba.takeQ _) (by rw [List.length_take, List.length_take, hlen]) (by decide) (fun k hk => by
      rw [List.length_take]
      simp only [List.mem_cons, List.not_mem_nil, or_false] at hk
      omega) (fun i hi => by
      by_cases h2 : i < 2 * H
      · rw [getD_takeQ _ _ _ h2, getD_takeQ _ _ _ h2]
        simp only [List.mem_cons, List.not_mem_nil, or_false] at hi
        have hF : H + 1 ≤ qF pr H := by unfold qF; split; omega; split <;> omega
        exact h.far i (by omega) (by omega) (fun hm => by have := (keys_in h.is_ hm).1; omega)
      · simp only [List.getD]
        rw [List.getElem?_eq_none (by rw [List.length_take]; omega), List.getElem?_eq_none (by rw [List.length_take]; omega)])
    have hs := h.hs
    simp only [List.map_cons, List.map_nil, List.sum_cons, List.sum_nil] at this
    rw [wordL_takeQ _ _ 5 (by omega), wordL_takeQ _ _ 6 (by omega), wordL_takeQ _ _ 7 (by omega), wordL_takeQ _ _ 8 (by omega), wordL_takeQ _ _ 9 (by omega), wordL_takeQ _ _ 5 (by omega), wordL_takeQ _ _ 6 (by omega), wordL_takeQ _ _ 7 (by omega), wordL_takeQ _ _ 8 (by omega), wordL_takeQ _ _ 9 (by omega)] at this
    unfold hsQ
    omega
  · have hkn : ((qF pr 0) :: keysQ pr 0).Nodup := List.nodup_cons.2 ⟨fun hm => (keys_in h.is_ hm).2.2 rfl, keys_nodup _ _⟩
    have hFl := h.lF
    have hFs := qF_shift pr H
    have := ws_diff (h.bb.dropQ (2 * H)) ((qF pr 0) :: keysQ pr 0) (a.drop (2 * H)) (h.ba.dropQ _) (by rw [List.length_drop, List.length_drop, hlen]) hkn (fun k hk => by
      rw [List.length_drop]
      rcases List.mem_cons.1 hk with e | e
      · omega
      · have := (keys_in h.is_ e).2.1; omega) (fun i hi => by
      rw [getD_dropQ, getD_dropQ]
      refine h.far (2 * H + i) (by omega) (fun e => hi ?_) (fun hm => hi ?_)
      · rw [show i / 2 = qF pr 0 by omega]; exact List.mem_cons_self ..
      · rw [keys_shift] at hm
        obtain ⟨j, hj, e⟩ := List.mem_map.1 hm
        rw [show i / 2 = j by omega]
        exact List.mem_cons_of_mem _ hj)
    rw [List.map_cons, List.sum_cons, wordL_dropQ, wordL_dropQ, ← hFs, List.map_congr_left (g := fun k => wordL b (H + k) - wordL a (H + k)) (fun k _ => by rw [wordL_dropQ, wordL_dropQ])] at this
    have hk := ps_keys pr H a b
    rw [keys_shift, List.map_map] at hk
    have e2 : (keysQ pr 0).map ((fun k => wordL b k - wordL a k) ∘ (H + ·)) = (keysQ pr 0).map (fun k => wordL b (H + k) - wordL a (H + k)) := rfl
    rw [e2] at hk
    rw [hk] at this
    have hps := h.ps
    by_cases h1 : pr = 1
    · rw [if_pos h1] at hps ⊢
      rw [if_pos h1]
      omega
    · rw [if_neg h1] at hps ⊢
      rw [if_neg h1]
      omega
/-- The quote of the first, rewritten, is that of the second. -/
theorem as_like {pr : Int} {H m : Nat} {a b r : List Int} {t : Tu} {s : Int} (h : TwoQ pr H a b) (hz : pr = 17 → wordL a (qF pr H) ≠ 0) (hm : 2 * H + 8 ≤ m) (hml : m ≤ a.length) (hr : RwIs (a.take m) r t s)
    (w6 : wordL b 6 = t.sr / 65536 ∧ wordL b 7 = t.sr % 65536 ∧ wordL b 8 = t.ds / 65536 ∧ wordL b 9 = t.ds % 65536) (wp : ∀ p ∈ portsQ (a.take m) t s, wordL b p.1 = p.2) :
    ∀ i, i < m → i ≠ 2 * qF pr H ∨ m ≠ 2 * qF pr H + 1 → r.getD i 0 = (b.take m).getD i 0 ∨ (i / 2 ∈ [5, qF pr H] ∧ 2 * (i / 2) + 2 ≤ m ∧ likeB (wordL r (i / 2)) (wordL (b.take m) (i / 2)) = true) := by
  have h10 := h.h10
  have hlen := h.len
  have ha9 : (a.take m).getD 9 0 = pr := by rw [getD_takeQ _ _ _ (by omega)]; exact h.a9
  have haH : qH (a.take m) = H := by have := h.aH; unfold qH at this ⊢; rw [getD_takeQ _ _ _ (by omega)]; exact this
  have hla : (a.take m).length = m := by rw [List.length_take]; omega
  obtain ⟨f5, fF⟩ := h.fields
  have hFb : H + 1 ≤ qF pr H := by unfold qF; split; omega; split <;> omega
  obtain ⟨v6, v7, v8, v9⟩ := hr.head
  have hhs : hsQ r = hsQ b := by unfold hsQ; rw [v6, v7, v8, v9, w6.1, w6.2.1, w6.2.2.1, w6.2.2.2]
  have hkm : ∀ k ∈ keysQ pr H, wordL r k = wordL b k := fun k hk => by
    have e := keys_ports (a.take m) t s
    rw [ha9, haH] at e
    rw [← e] at hk
    obtain ⟨p, hp, e2⟩ := List.mem_map.1 hk
    subst e2
    rw [wp p hp]
    exact hr.word p (List.mem_append_right _ hp)
  have hps : psQ pr H r = psQ pr H b := by
    have := ps_keys pr H r b
    rw [List.map_congr_left (g := fun _ => (0 : Int)) (fun k hk => by rw [hkm k hk]; omega)] at this
    have e0 := sum_zeros (keysQ pr H)
    omega
  have hpsa : psQ pr H (a.take m) = psQ pr H a := by
    have key : ∀ k, k ≤ H + 3 → wordL (a.take m) k = wordL a k := fun k hk => wordL_takeQ _ _ _ (by omega)
    unfold psQ
    rw [key H (by omega), key (H + 1) (by omega), key (H + 2) (by omega), key (H + 3) (by omega)]
  have hhsa : hsQ (a.take m) = hsQ a := by unfold hsQ; rw [wordL_takeQ _ _ 6 (by omega), wordL_takeQ _ _ 7 (by omega), wordL_takeQ _ _ 8 (by omega), wordL_takeQ _ _ 9 (by omega)]
  have k5 : likeB (wordL r 5) (wordL (b.take m) 5) = true := by
    refine like_of _ _ (wordL_bd hr.byte 5) (wordL_bd (h.bb.takeQ m) 5) ?_
    have h1 := hr.h
    rw [hhs, hhsa, wordL_takeQ _ _ 5 (by omega)] at h1
    rw [wordL_takeQ _ _ 5 (by omega)]
    omega
  intro i hi hcut
  by_cases e5 : i / 2 = 5
  · exact .inr ⟨by rw [e5]; simp, by rw [e5]; omega, by rw [e5]; exact k5⟩
  by_cases eF : i / 2 = qF pr H
  · by_cases hc : 2 * qF pr H + 2 ≤ m
    · have hpart : partQ (a.take m) = [qF pr H] := by
        unfold partQ
        rw [ha9, haH, hla, if_pos]
        exact ⟨hc, fun hh => hz hh.1 (by rw [← hh.2]; exact (wordL_takeQ _ _ _ (by omega)).symm)⟩
      refine .inr ⟨by rw [eF]; simp, by rw [eF]; exact hc, ?_⟩
      rw [eF]
      refine like_of _ _ (wordL_bd hr.byte _) (wordL_bd (h.bb.takeQ m) _) ?_
      have h1 := hr.p (qF pr H) (by rw [hpart]; simp)
      rw [ha9, haH, hhs, hhsa, hps, hpsa, wordL_takeQ _ _ _ (by omega)] at h1
      rw [wordL_takeQ _ _ _ (by omega)]
      by_cases h9 : pr = 1
      · rw [if_pos h9] at h1 fF
        rw [if_pos h9] at fF
        omega
      · rw [if_neg h9] at h1 fF
        rw [if_neg h9] at fF
        omega
    · exact absurd (show i ≠ 2 * qF pr H ∨ m ≠ 2 * qF pr H + 1 from hcut) (by omega)
  left
  rw [getD_takeQ _ _ _ hi]
  by_cases hk : i / 2 ∈ keysQ pr H
  · exact getD_eq_word hr.byte h.bb (hkm _ hk) rfl
  by_cases hh : 6 ≤ i / 2 ∧ i / 2 ≤ 9
  · refine getD_eq_word hr.byte h.bb ?_ rfl
    rcases (show i / 2 = 6 ∨ i / 2 = 7 ∨ i / 2 = 8 ∨ i / 2 = 9 by omega) with e | e | e | e <;> rw [e]
    · rw [v6, w6.1]
    · rw [v7, w6.2.1]
    · rw [v8, w6.2.2.1]
    · rw [v9, w6.2.2.2]
  rw [hr.far i e5 (fun hm => by
      rcases part_cases (a.take m) with q | ⟨q, _⟩
      · rw [q] at hm; cases hm
      · rw [q, ha9, haH] at hm; exact eF (List.mem_singleton.1 hm)) (fun p hp e => by
      rcases List.mem_append.1 hp with hp | hp
      · have hin : p.1 = 6 ∨ p.1 = 7 ∨ p.1 = 8 ∨ p.1 = 9 := by unfold headQ at hp; simp only [List.mem_cons, List.not_mem_nil, or_false] at hp; rcases hp with rfl | rfl | rfl | rfl <;> simp
        omega
      · have e2 := keys_ports (a.take m) t s
        rw [ha9, haH] at e2
        exact hk (by rw [← e2, ← e]; exact List.mem_map.2 ⟨p, hp, rfl⟩)), getD_takeQ _ _ _ hi]
  exact h.far i (by omega) eF hk
end Go.Proofs.Ytoegfgbalcholaa

/-
  A part of a slice of bytes, s[lo:hi], as one run equation: wherever it begins. No function of the program.
-/
namespace Go.Proofs.Ytoegfgbalcholaa
set_option maxRecDepth 10000
open Go.RowKit
theorem Rd.part {w : World} {A : Option Addr} {n c : Nat} {l : List Int} (h : Rd w A n l) (lo hi : Nat) (loi hii : Int) (h0 : 0 < n) (hlo : lo ≤ hi) (hhi : hi ≤ n) (hc : n ≤ c) (hcm : c ≤ maxLen) (el : loi = (lo : Int)) (eh : hii = (hi : Int)) :
    ∃ A', (∀ W : World, (Instr.sliceAt 22 (.slice A n c) (some (.int .i64 loi)) (some (.int .i64 hii)) none).run Try.prog W = .ok (.slice A' (hi - lo) (c - lo)) W) ∧ Rd w A' (hi - lo) ((l.take hi).drop lo) := by
  subst el eh
  obtain ⟨b, o, rfl, _, _⟩ := h.at_ h0
  unfold maxLen at hcm
  have i0 : (0 : Int) ≤ (lo : Int) := by omega
  have i1 : (lo : Int) ≤ (hi : Int) := by omega
  have i2 : (hi : Int) ≤ (c : Int) := by omega
  have i3 : lo ≤ c := by omega
  by_cases hl : lo = c
  · subst hl
    obtain rfl : hi = lo := by omega
    refine ⟨some ⟨b, o, none⟩, fun W => by go_simp, ?_⟩
    rw [Nat.sub_self, List.drop_take]
    simp
    exact Rd.nil _ _
  · have i4 : ¬ c = lo := fun e => hl e.symm
    refine ⟨some ⟨b, o + lo, none⟩, fun W => by go_simp, ?_⟩
    exact (h.take hhi).drop_ rfl (by omega)
end Go.Proofs.Ytoegfgbalcholaa

/-
  culvertlaw16's places and InnerBack's closure (stage 16, written ahead).
-/
namespace Go.Proofs.Ytoegfgbalcholaa
set_option maxRecDepth 10000
open Go.RowKit
set_option linter.unusedSimpArgs false
set_option linter.unusedVariables false

/-- Behind the ports a rewriting changes its field alone. -/
theorem RwIs.behind {b r : List Int} {t : Tu} {s : Int} (h : RwIs b r t s) (he : errQ b = 0) {i : Nat} (hi : 2 * qH b + 8 ≤ i) (hp : i / 2 ∉ partQ b) : r.getD i 0 = b.getD i 0 := by
  obtain ⟨⟨_, h10, _, _⟩, hpr⟩ := errQ_ok he
  refine h.far i (by omega) hp (fun p hp2 e => ?_)
  rcases List.mem_append.1 hp2 with hp2 | hp2
  · have hin : p.1 = 6 ∨ p.1 = 7 ∨ p.1 = 8 ∨ p.1 = 9 := by unfold headQ at hp2; simp only [List.mem_cons, List.not_mem_nil, or_false] at hp2; rcases hp2 with rfl | rfl | rfl | rfl <;> simp
    omega
  · have hm : p.1 ∈ keysQ (b.getD 9 0) (qH b) := by rw [← keys_ports b t s]; exact List.mem_map.2 ⟨p, hp2, rfl⟩
    have := keys_in (by rcases hpr with h | h | h; exact .inl h; exact .inr (.inl h); exact .inr (.inr h.1)) hm
    omega
def PlacesIs (f : Nat) (w : World) (e : Ending) (w' : World) : Prop := ∃ A, e = .returned (.slice A 2 2) ∧ RdI w' A 2 ([5, f].map (fun g : Nat => 2 * (g : Int))) ∧ Below w.heap.size w w'
theorem places16_any (pr : Int) (N : Nat) (f : Nat) (w : World) (hN : N ≤ 1000) (hp : pr = 6 ∨ pr = 17 ∨ pr = 1) (hf : 2 * f = N + (if pr = 6 then 16 else if pr = 17 then 6 else 2)) :
    Calls Try.prog 19 #[.int .u8 pr, .int .i64 (N : Int)] w (PlacesIs f w) := by
  have hb : ∀ y : Int, Below w.heap.size w (w.alloc (.cells #[.int .i64 10, .int .i64 y] 3)) := fun y => (Below.refl _ _).alloc (Nat.le_refl _) _
  have hni : (N : Int) ≤ 1000 := by omega
  have t1 : IntKind.i64.wrap ((N : Int) + 16) = (N : Int) + 16 := IntWalk.i64_in _ (by omega)
  have t2 : IntKind.i64.wrap ((N : Int) + 6) = (N : Int) + 6 := IntWalk.i64_in _ (by omega)
  have t3 : IntKind.i64.wrap ((N : Int) + 2) = (N : Int) + 2 := IntWalk.i64_in _ (by omega)
  have hrd : ∀ y : Int, RdI (w.alloc (.cells #[.int .i64 10, .int .i64 y] 3)) (some ⟨w.heap.size, 0, none⟩) 2 [10, y] := fun y => RdI.const w w.heap.size rfl [10, y] _ _
  have Hb := Lib.hid hb
  have Hr := Lib.hid hrd
  have Hf := Lib.hid hf
  clear hb hrd hf
  rcases hp with rfl | rfl | rfl
  · go_enter Try.func19, Try.ntmps19
    go_wp2_with fail
    go_ret
    refine ⟨_, rfl, ?_, Hb.out _⟩
    have e : ([5, f].map (fun g : Nat => 2 * (g : Int))) = [10, (N : Int) + 16] := by simp only [List.map_cons, List.map_nil]; have := Hf.out; simp at this; congr 2; omega
    rw [e]; exact Hr.out _
  · go_enter Try.func19, Try.ntmps19
    go_wp2_with fail
    go_ret
    refine ⟨_, rfl, ?_, Hb.out _⟩
    have e : ([5, f].map (fun g : Nat => 2 * (g : Int))) = [10, (N : Int) + 6] := by simp only [List.map_cons, List.map_nil]; have := Hf.out; simp at this; congr 2; omega
    rw [e]; exact Hr.out _
  · go_enter Try.func19, Try.ntmps19
    go_wp2_with fail
    go_ret
    refine ⟨_, rfl, ?_, Hb.out _⟩
    have e : ([5, f].map (fun g : Nat => 2 * (g : Int))) = [10, (N : Int) + 2] := by simp only [List.map_cons, List.map_nil]; have := Hf.out; simp at this; congr 2; omega
    rw [e]; exact Hr.out _
end Go.Proofs.Ytoegfgbalcholaa

/-
  Heads of packets (api.Head) as numbers. No function of the program.
-/
namespace Go.Proofs.Ytoegfgbalcholaa
set_option maxRecDepth 10000
open Go.RowKit

structure Hd where
  «to» : Int
  id : Int
  df : Bool
  tt : Int
  pr : Int
  sr : Int
  ds : Int
  o : List Int
structure HdNum (h : Hd) : Prop where
  «to» : 0 ≤ h.to ∧ h.to < 256
  id : 0 ≤ h.id ∧ h.id < 65536
  tt : 0 ≤ h.tt ∧ h.tt < 256
  pr : 0 ≤ h.pr ∧ h.pr < 256
  sr : 0 ≤ h.sr ∧ h.sr < 4294967296
  ds : 0 ≤ h.ds ∧ h.ds < 4294967296
/-- A packet of this head. -/
def hdB (h : Hd) (payload : List Int) : List Int := packetL h.to h.id h.df h.tt h.pr h.sr h.ds h.o payload
end Go.Proofs.Ytoegfgbalcholaa
