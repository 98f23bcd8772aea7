/-
  What PoolOnce keeps beside the pool: which ports are taken, until when each rests; what its own maps hold, counted.
-/
import Derived.Test.YtlifldionfoddaaMapNum
import Derived.Test.YtlifldionfoddaaPoolStates
namespace Go.Proofs.Ytlifldionfoddaa
set_option maxRecDepth 10000
open Go.RowKit
set_option linter.unusedSimpArgs false
set_option linter.unusedVariables false

/-- A pool's ports that are taken, as keys. -/
def KT (s : AP) (e : Int) : Prop := ∃ i : Nat, i < s.n ∧ s.tk i = true ∧ e = s.lo + (i : Int)
/-- What a pool is, beside a clock and the keys of the second map. -/
structure Beside (s : AP) (now : Int) (K : Int → Prop) : Prop where
  le : s.now ≤ now
  un : ∀ i, i < s.n → 0 ≤ s.un i
  no : ∀ i : Nat, i < s.n → ¬ K (s.lo + (i : Int)) → s.un i = 0
  key : ∀ e, K e → ∃ i : Nat, i < s.n ∧ e = s.lo + (i : Int)
def untilV (s : AP) (e : Int) : Value := .int .u64 (s.un (e - s.lo).toNat)
theorem kt_taken (s : AP) (p : Int) : KT s p ↔ takenA s p = true := by
  unfold KT takenA
  simp only [Bool.and_eq_true, decide_eq_true_eq]
  constructor
  · rintro ⟨i, hi, ht, rfl⟩
    refine ⟨by omega, by omega, ?_⟩
    rw [show (s.lo + (i : Int) - s.lo).toNat = i by omega]
    exact ht
  · rintro ⟨h1, h2, h3⟩
    exact ⟨(p - s.lo).toNat, by omega, h3, by omega⟩
theorem atA_le {s : AP} {t : Int} (h : s.now ≤ t) : (atA s t).now = t := by
  unfold atA
  simp only
  split <;> omega
theorem Beside.later {s : AP} {now t : Int} {K : Int → Prop} (h : Beside s now K) (ht : now ≤ t) : Beside s t K := ⟨by have := h.le; omega, h.un, h.no, h.key⟩
theorem Beside.at_ {s : AP} {now : Int} {K : Int → Prop} (h : Beside s now K) : Beside (atA s now) now K := ⟨by rw [atA_le h.le]; exact Int.le_refl _, h.un, h.no, h.key⟩
/-- One is given back. -/
theorem Beside.give {s : AP} {now : Int} {K : Int → Prop} (h : Beside s now K) (h0 : 0 ≤ now) (hr : 0 ≤ s.rest) {i : Nat} (hi : i < s.n) :
    Beside (giveI (atA s now) i) now (fun a => a = s.lo + (i : Int) ∨ K a) := by
  refine ⟨by show (atA s now).now ≤ now; rw [atA_le h.le]; exact Int.le_refl _, fun j hj => ?_, fun j hj hK => ?_, fun e he => ?_⟩
  · show 0 ≤ (if j = i then (atA s now).now + s.rest else s.un j)
    rw [atA_le h.le]
    split
    · omega
    · exact h.un j hj
  · show (if j = i then (atA s now).now + s.rest else s.un j) = 0
    have hK' : ¬ (s.lo + (j : Int) = s.lo + (i : Int) ∨ K (s.lo + (j : Int))) := hK
    rw [if_neg (fun e => hK' (.inl (by rw [e])))]
    exact h.no j hj (fun hk => hK' (.inr hk))
  · rcases he with rfl | he
    · exact ⟨i, hi, rfl⟩
    · exact h.key e he
theorem give_kt (s : AP) (now : Int) (i : Nat) (a : Int) : (a ≠ s.lo + (i : Int) ∧ KT s a) ↔ KT (giveI (atA s now) i) a := by
  unfold KT
  constructor
  · rintro ⟨h1, j, hj, ht, rfl⟩
    refine ⟨j, hj, ?_, rfl⟩
    show (!decide (j = i) && s.tk j) = true
    have : ¬ j = i := fun e => h1 (by rw [e])
    simp [this, ht]
  · rintro ⟨j, hj, ht, rfl⟩
    have ht' : (!decide (j = i) && s.tk j) = true := ht
    simp only [Bool.and_eq_true, Bool.not_eq_true', decide_eq_false_iff_not] at ht'
    refine ⟨fun e => ht'.1 ?_, j, hj, ht'.2, rfl⟩
    have e' : s.lo + (j : Int) = s.lo + (i : Int) := e
    omega
theorem give_until (s : AP) {now : Int} (h : s.now ≤ now) (i : Nat) (a : Int) (ha : a = s.lo + (i : Int) ∨ ∃ j : Nat, a = s.lo + (j : Int)) :
    (if a = s.lo + (i : Int) then Value.int .u64 (now + s.rest) else untilV s a) = untilV (giveI (atA s now) i) a := by
  have hh : ∀ j : Nat, untilV (giveI (atA s now) i) (s.lo + (j : Int)) = .int .u64 (if j = i then now + s.rest else s.un j) := by
    intro j
    show Value.int .u64 (if (s.lo + (j : Int) - s.lo).toNat = i then (atA s now).now + s.rest else s.un (s.lo + (j : Int) - s.lo).toNat) = _
    rw [show (s.lo + (j : Int) - s.lo).toNat = j by omega, atA_le h]
  have h2 : ∀ j : Nat, untilV s (s.lo + (j : Int)) = .int .u64 (s.un j) := by
    intro j
    unfold untilV
    rw [show (s.lo + (j : Int) - s.lo).toNat = j by omega]
  have key : ∀ j : Nat, (if s.lo + (j : Int) = s.lo + (i : Int) then Value.int .u64 (now + s.rest) else untilV s (s.lo + (j : Int))) = untilV (giveI (atA s now) i) (s.lo + (j : Int)) := by
    intro j
    rw [hh j, h2 j]
    by_cases e : j = i
    · subst e; simp
    · rw [if_neg (by omega), if_neg e]
  rcases ha with rfl | ⟨j, rfl⟩
  · exact key i
  · exact key j
/-- One is taken. -/
theorem Beside.take {s : AP} {now : Int} {K : Int → Prop} (h : Beside s now K) (i : Nat) : Beside (takeI s i) now K := ⟨h.le, h.un, h.no, h.key⟩
theorem take_kt (s : AP) (i : Nat) (hi : i < s.n) (a : Int) : (a = s.lo + (i : Int) ∨ KT s a) ↔ KT (takeI s i) a := by
  unfold KT
  constructor
  · rintro (rfl | ⟨j, hj, ht, rfl⟩)
    · exact ⟨i, hi, by show (decide (i = i) || s.tk i) = true; simp, rfl⟩
    · exact ⟨j, hj, by show (decide (j = i) || s.tk j) = true; simp [ht], rfl⟩
  · rintro ⟨j, hj, ht, rfl⟩
    have ht' : (decide (j = i) || s.tk j) = true := ht
    by_cases e : j = i
    · subst e; exact .inl rfl
    · simp only [e, decide_false, Bool.false_or] at ht'
      exact .inr ⟨j, hj, ht', rfl⟩
/-- How many rest beyond now. -/
def restQ2 (s : AP) (now : Int) (i : Nat) : Bool := !s.tk i && decide (now < s.un i)
theorem three (s : AP) (now : Int) (h : s.now = now) : cnt s.n (freeAt s) + cnt s.n (restQ2 s now) + cnt s.n s.tk = s.n := by
  refine cnt_three (fun i hi => ?_)
  unfold freeAt restQ2
  rw [h]
  cases s.tk i with
  | true => simp
  | false =>
    by_cases hu : s.un i ≤ now
    · have h2 : ¬ now < s.un i := by omega
      simp [hu, h2]
    · have h2 : now < s.un i := by omega
      simp [hu, h2]
/-- An entry of the second map that rests beyond now. -/
def restE (s : AP) (now : Int) (x : MapEntry) : Bool := match x.key, x.val with
  | .int _ e, .int _ t => !takenA s e && decide (now < t)
  | _, _ => false
theorem restE_at (s : AP) (now : Int) {x : MapEntry} {i : Nat} (hi : i < s.n) (hk : x.key = .int .u16 (s.lo + (i : Int))) (hv : x.val = untilV s (s.lo + (i : Int))) : restE s now x = restQ2 s now i := by
  unfold restE restQ2
  rw [hk, hv]
  unfold untilV
  show (!takenA s (s.lo + (i : Int)) && decide (now < s.un (s.lo + (i : Int) - s.lo).toNat)) = _
  rw [show (s.lo + (i : Int) - s.lo).toNat = i by omega, takenA_at]
  simp [hi]
def seenC (s : AP) (now : Int) (es : Array MapEntry) (seen : Array Nat) : Nat := es.toList.countP (fun x => seen.contains x.born && restE s now x)
theorem seenC_none (s : AP) (now : Int) (es : Array MapEntry) : seenC s now es #[] = 0 := by
  unfold seenC
  rw [List.countP_eq_zero]
  intro x _
  simp
theorem seenC_push (s : AP) (now : Int) (es : Array MapEntry) (seen : Array Nat) {x : MapEntry} (hn : (es.toList.map (·.born)).Nodup) (hx : x ∈ es.toList) (hs : seen.contains x.born = false) :
    seenC s now es (seen.push x.born) = seenC s now es seen + (if restE s now x = true then 1 else 0) := by
  unfold seenC
  generalize es.toList = l at hn hx
  induction l with
  | nil => cases hx
  | cons a l ih =>
    simp only [List.map_cons, List.nodup_cons] at hn
    rw [List.countP_cons, List.countP_cons]
    by_cases hax : a = x
    · subst hax
      have hl : l.countP (fun y => (seen.push a.born).contains y.born && restE s now y) = l.countP (fun y => seen.contains y.born && restE s now y) := by
        refine List.countP_congr (fun y hy => ?_)
        have hne : ¬ y.born = a.born := fun e => hn.1 (e ▸ List.mem_map.2 ⟨y, hy, rfl⟩)
        rw [contains_push]
        simp [hne]
      rw [hl, contains_push, hs]
      simp
    · have hxl : x ∈ l := by
        rcases List.mem_cons.1 hx with h | h
        · exact absurd h.symm hax
        · exact h
      have hne : ¬ a.born = x.born := fun e => hn.1 (e ▸ List.mem_map.2 ⟨x, hxl, rfl⟩)
      rw [ih hn.2 hxl, contains_push]
      have : (seen.contains a.born || a.born == x.born) = seen.contains a.born := by simp [hne]
      rw [this]
      omega
theorem seenC_all {s : AP} {now : Int} {w : World} {b : Nat} {K : Int → Prop} {es : Array MapEntry} {clock : Nat} {seen : Array Nat} (h0 : 0 ≤ now) (hb : Beside s now K) (hm : MapN w b K (untilV s) es clock) (hall : (leftOf es seen).size = 0) :
    seenC s now es seen = cnt s.n (restQ2 s now) := by
  have e1 : seenC s now es seen = (es.toList.filter (restE s now)).length := by
    unfold seenC
    rw [← List.countP_eq_length_filter]
    refine List.countP_congr (fun x hx => ?_)
    rw [all_seen es seen hall x hx]
    simp
  rw [e1]
  refine entries_cnt (lo := s.lo) _ ?_ (fun x hx => ?_) (fun i hi hq => ?_)
  · exact (List.filter_sublist.map _).nodup hm.st.2.2
  · obtain ⟨hx1, hx2⟩ := List.mem_filter.1 hx
    obtain ⟨e, hK, hk, hv⟩ := hm.ent x hx1
    obtain ⟨i, hi, rfl⟩ := hb.key e hK
    exact ⟨i, hk, hi, by rw [← restE_at s now hi hk hv]; exact hx2⟩
  · have hu : now < s.un i := by
      unfold restQ2 at hq
      simp only [Bool.and_eq_true, decide_eq_true_eq] at hq
      exact hq.2
    have hK : K (s.lo + (i : Int)) := by
      apply Classical.byContradiction
      intro hn
      have := hb.no i hi hn
      omega
    obtain ⟨x, hx, hk⟩ := hm.key _ hK
    obtain ⟨e, _, hk', hv⟩ := hm.ent x hx
    rw [hk] at hk'
    injection hk' with _ hk'
    subst hk'
    exact ⟨x, List.mem_filter.2 ⟨hx, by rw [restE_at s now hi hk hv]; exact hq⟩, hk⟩
theorem taken_size {s : AP} {w : World} {b : Nat} {R : Int → Value} {es : Array MapEntry} {clock : Nat} (hm : MapN w b (KT s) R es clock) : es.size = countA s := by
  have := entries_cnt (lo := s.lo) (n := s.n) (p := s.tk) es.toList hm.st.2.2 (fun x hx => by
    obtain ⟨e, ⟨i, hi, ht, rfl⟩, hk, _⟩ := hm.ent x hx
    exact ⟨i, hk, hi, ht⟩) (fun i hi ht => hm.key _ ⟨i, hi, ht, rfl⟩)
  simpa [countA] using this
/-- What Free and Take tell. -/
theorem free_take {s : AP} {now : Int} (h : s.now = now) (hb : now ≤ bigT) : freeN s now = cnt s.n (freeAt s) ∧ freeA s now = s ∧
    ((cnt s.n (freeAt s) = 0 ∧ takeE s now = 7 ∧ takeP s now = 0 ∧ takeA s now = s) ∨ ∃ i, i < s.n ∧ s.tk i = false ∧ s.un i ≤ now ∧ 0 < cnt s.n (freeAt s) ∧ takeE s now = 0 ∧ takeP s now = s.lo + (i : Int) ∧ takeA s now = takeI s i) := by
  have hat : atA s now = s := by
    unfold atA
    refine ap_ext rfl rfl rfl ?_ rfl rfl
    simp only
    split <;> omega
  have hn : ¬ bigT < now := by omega
  refine ⟨by unfold freeN; rw [if_neg hn, hat], by unfold freeA; rw [if_neg hn, hat], ?_⟩
  unfold takeE takeP takeA
  simp only [if_neg hn, hat]
  cases hf : firstA s with
  | none =>
    refine .inl ⟨cnt_false (fst_none.1 hf), rfl, rfl, rfl⟩
  | some i =>
    obtain ⟨hi, hp, _⟩ := fst_mem hf
    refine .inr ⟨i, hi, ?_, ?_, cnt_pos.2 ⟨i, hi, hp⟩, rfl, rfl, rfl⟩
    · unfold freeAt at hp
      simp only [Bool.and_eq_true, Bool.not_eq_true', decide_eq_true_eq] at hp
      exact hp.1
    · unfold freeAt at hp
      simp only [Bool.and_eq_true, Bool.not_eq_true', decide_eq_true_eq] at hp
      rw [← h]; exact hp.2
end Go.Proofs.Ytlifldionfoddaa
