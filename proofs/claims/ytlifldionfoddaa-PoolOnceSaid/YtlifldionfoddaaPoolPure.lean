/-
  What package pool keeps, against a pool plainly: time that goes on, a port that is taken, one that is given back. Nothing of memory.
-/
import Derived.Test.YtlifldionfoddaaPoolTurn
namespace Go.Proofs.Ytlifldionfoddaa
set_option maxRecDepth 10000
open Go.RowKit
set_option linter.unusedSimpArgs false
set_option linter.unusedVariables false

/-- Ports that are free again. -/
def zeros (st : List Int) (ps : List Nat) : List Int := ps.foldl (fun s i => s.set i 0) st
theorem zeros_nil (st : List Int) : zeros st [] = st := rfl
theorem zeros_snoc (st : List Int) (ps : List Nat) (i : Nat) : zeros st (ps ++ [i]) = (zeros st ps).set i 0 := by simp [zeros, List.foldl_append]
theorem zeros_length (st : List Int) (ps : List Nat) : (zeros st ps).length = st.length := by
  induction ps generalizing st with
  | nil => rfl
  | cons i ps ih => simp only [zeros, List.foldl_cons] at *; rw [ih]; simp
theorem getD_set (l : List Int) (i j : Nat) (x : Int) : (l.set i x).getD j 0 = if i = j ∧ j < l.length then x else l.getD j 0 := by
  by_cases h : i = j
  · subst h
    by_cases hl : i < l.length
    · simp [List.getD, hl]
    · simp [List.getD, hl]
  · simp [List.getD, List.getElem?_set_ne h, h]
theorem zeros_out {st : List Int} {ps : List Nat} {j : Nat} (h : j ∉ ps) : (zeros st ps).getD j 0 = st.getD j 0 := by
  induction ps generalizing st with
  | nil => rfl
  | cons i ps ih =>
    simp only [List.mem_cons, not_or] at h
    show (zeros (st.set i 0) ps).getD j 0 = _
    rw [ih h.2, getD_set, if_neg (fun q => h.1 q.1.symm)]
theorem zeros_in {st : List Int} {ps : List Nat} {j : Nat} (h : j ∈ ps) (hj : j < st.length) : (zeros st ps).getD j 0 = 0 := by
  induction ps generalizing st with
  | nil => cases h
  | cons i ps ih =>
    show (zeros (st.set i 0) ps).getD j 0 = _
    by_cases hm : j ∈ ps
    · exact ih hm (by simpa using hj)
    · rw [zeros_out hm, getD_set]
      simp only [List.mem_cons] at h
      rcases h with rfl | h
      · rw [if_pos ⟨rfl, hj⟩]
      · exact absurd h hm
structure PS.ok (q : PS) : Prop where
  lo : 1 ≤ q.lo
  n : 1 ≤ q.st.length
  hi : q.lo + q.st.length ≤ 65536
  rest : 0 ≤ q.rest ∧ q.rest ≤ bigT
  now : 0 ≤ q.now ∧ q.now ≤ bigT
  states : ∀ i, i < q.st.length → q.st.getD i 0 = 0 ∨ q.st.getD i 0 = 1 ∨ q.st.getD i 0 = 2
  ends : ∀ e ps, (e, ps) ∈ q.L → 0 ≤ e ∧ e ≤ q.now + q.rest
  mem : ∀ e ps i, (e, ps) ∈ q.L → i ∈ ps → i < q.st.length ∧ q.st.getD i 0 = 2
  all : ∀ i, i < q.st.length → q.st.getD i 0 = 2 → ∃ e ps, (e, ps) ∈ q.L ∧ i ∈ ps
  sorted : q.L.Pairwise (fun a b => a.1 < b.1)
  nodup : (q.L.flatMap Prod.snd).Nodup
  ne : ∀ e ps, (e, ps) ∈ q.L → ps ≠ []
/-- Time that goes on: rests that end by now. -/
def goL (now : Int) : List Int → List (Int × List Nat) → List Int × List (Int × List Nat)
  | st, [] => (st, [])
  | st, (e, ps) :: L => if e ≤ now then goL now (zeros st ps) L else (st, (e, ps) :: L)
theorem goL_nil (now : Int) (st : List Int) : goL now st [] = (st, []) := rfl
theorem goL_due {now e : Int} (st : List Int) (ps : List Nat) (L : List (Int × List Nat)) (h : e ≤ now) : goL now st ((e, ps) :: L) = goL now (zeros st ps) L := by simp [goL, h]
theorem goL_not {now e : Int} (st : List Int) (ps : List Nat) (L : List (Int × List Nat)) (h : ¬ e ≤ now) : goL now st ((e, ps) :: L) = (st, (e, ps) :: L) := by simp [goL, h]
def goQ (q : PS) (now : Int) : PS := { q with now := now, st := (goL now q.st q.L).1, L := (goL now q.st q.L).2 }
/-- The first rest is over. -/
def dropQ (q : PS) (ps : List Nat) (L : List (Int × List Nat)) : PS := { q with st := zeros q.st ps, L := L }
theorem PS.ok.drop {q : PS} (h : q.ok) {e : Int} {ps : List Nat} {L : List (Int × List Nat)} (hL : q.L = (e, ps) :: L) : (dropQ q ps L).ok := by
  have hsub : ∀ x, x ∈ L → x ∈ q.L := fun x hx => by rw [hL]; exact .tail _ hx
  have hnd := h.nodup
  rw [hL, List.flatMap_cons, List.nodup_append] at hnd
  have hapart : ∀ e' ps' i, (e', ps') ∈ L → i ∈ ps' → i ∉ ps := fun e' ps' i hm hi hi2 => hnd.2.2 i hi2 i (List.mem_flatMap.2 ⟨(e', ps'), hm, hi⟩) rfl
  refine ⟨h.lo, ?_, ?_, h.rest, h.now, fun i hi => ?_, fun e' ps' hm => h.ends e' ps' (hsub _ hm), fun e' ps' i hm hi => ?_, fun i hi h2 => ?_, ?_, hnd.2.1, fun e' ps' hm => h.ne e' ps' (hsub _ hm)⟩
  · have := h.n; simpa [dropQ, zeros_length] using this
  · have := h.hi; simpa [dropQ, zeros_length] using this
  · simp only [dropQ, zeros_length] at hi ⊢
    by_cases hm : i ∈ ps
    · exact .inl (zeros_in hm hi)
    · rw [zeros_out hm]; exact h.states i hi
  · have := h.mem e' ps' i (hsub _ hm) hi
    simp only [dropQ, zeros_length]
    rw [zeros_out (hapart e' ps' i hm hi)]
    exact this
  · simp only [dropQ, zeros_length] at hi h2 ⊢
    by_cases hm : i ∈ ps
    · rw [zeros_in hm hi] at h2; omega
    · rw [zeros_out hm] at h2
      obtain ⟨e', ps', hm', hi'⟩ := h.all i hi h2
      rw [hL] at hm'
      rcases List.mem_cons.1 hm' with h3 | h3
      · injection h3 with h3 h4
        subst h4
        exact absurd hi' hm
      · exact ⟨e', ps', h3, hi'⟩
  · have := h.sorted
    rw [hL, List.pairwise_cons] at this
    exact this.2
theorem goL_length (now : Int) : ∀ (st : List Int) (L : List (Int × List Nat)), (goL now st L).1.length = st.length
  | _, [] => rfl
  | st, (e, ps) :: L => by
    by_cases h : e ≤ now
    · rw [goL_due _ _ _ h, goL_length now _ L, zeros_length]
    · rw [goL_not _ _ _ h]
/-- The state behind time's going on. -/
theorem goL_ok (now : Int) : ∀ (L : List (Int × List Nat)) (q : PS), q.L = L → q.ok → ({ q with st := (goL now q.st L).1, L := (goL now q.st L).2 } : PS).ok ∧ (∀ e ps, (e, ps) ∈ (goL now q.st L).2 → now < e ∧ (e, ps) ∈ L) ∧
    (∀ i, i < q.st.length → (((goL now q.st L).1.getD i 0 = 1 ↔ q.st.getD i 0 = 1) ∧ ((goL now q.st L).1.getD i 0 = 0 → q.st.getD i 0 = 0 ∨ ∃ e ps, (e, ps) ∈ L ∧ i ∈ ps ∧ e ≤ now)))
  | [], q, hL, h => by
    rw [goL_nil]
    refine ⟨by rw [← hL]; exact h, by simp, fun i hi => ⟨Iff.rfl, .inl⟩⟩
  | (e, ps) :: L, q, hL, h => by
    by_cases he : e ≤ now
    · rw [goL_due _ _ _ he]
      obtain ⟨h1, h2, h3⟩ := goL_ok now L (dropQ q ps L) rfl (h.drop hL)
      refine ⟨h1, fun e' ps' hm => ⟨(h2 e' ps' hm).1, .tail _ (h2 e' ps' hm).2⟩, fun i hi => ?_⟩
      obtain ⟨a1, a2⟩ := h3 i (by simpa [dropQ, zeros_length] using hi)
      simp only [dropQ] at a1 a2
      by_cases hm : i ∈ ps
      · have hb := (h.mem e ps i (by rw [hL]; exact .head _) hm).2
        rw [zeros_in hm hi] at a1
        refine ⟨a1.trans (by rw [hb]; constructor <;> intro h <;> omega), fun _ => .inr ⟨e, ps, .head _, hm, he⟩⟩
      · rw [zeros_out hm] at a1 a2
        refine ⟨a1, fun h0 => (a2 h0).imp id (fun ⟨e', ps', x, y, z⟩ => ⟨e', ps', .tail _ x, y, z⟩)⟩
    · rw [goL_not _ _ _ he]
      refine ⟨by rw [← hL]; exact h, fun e' ps' hm => ⟨?_, hm⟩, fun i hi => ⟨Iff.rfl, .inl⟩⟩
      rcases List.mem_cons.1 hm with h3 | h3
      · injection h3 with h3 h4; subst h3; omega
      · have := h.sorted
        rw [hL, List.pairwise_cons] at this
        have := this.1 _ h3
        simp only at this
        omega
/-- A pool plainly, as the program keeps it. -/
structure Abs (s : AP) (q : PS) : Prop where
  lo : s.lo = q.lo
  n : s.n = q.st.length
  rest : s.rest = q.rest
  now : s.now = q.now
  tk : ∀ i, i < q.st.length → s.tk i = decide (q.st.getD i 0 = 1)
  un0 : ∀ i, i < q.st.length → q.st.getD i 0 = 0 → s.un i ≤ s.now
  un2 : ∀ e ps i, (e, ps) ∈ q.L → i ∈ ps → s.un i = e
/-- What rests, rests beyond now. -/
def Settled (q : PS) : Prop := ∀ e ps, (e, ps) ∈ q.L → q.now < e
theorem PS.ok.at {q : PS} (h : q.ok) {t : Int} (h0 : q.now ≤ t ∧ t ≤ bigT) : ({ q with now := t } : PS).ok := ⟨h.lo, h.n, h.hi, h.rest, by have := h.now; simp only; omega, h.states, fun e ps hm => by have := h.ends e ps hm; simp only; omega, h.mem, h.all, h.sorted, h.nodup, h.ne⟩
theorem goQ_ok {q : PS} (h : q.ok) {t : Int} (h0 : q.now ≤ t ∧ t ≤ bigT) : (goQ q t).ok := (goL_ok t q.L { q with now := t } rfl (h.at h0)).1
theorem goQ_settled {q : PS} (h : q.ok) (t : Int) : Settled (goQ q t) := fun e ps hm => ((goL_ok t q.L q rfl h).2.1 e ps hm).1
theorem goQ_abs {s : AP} {q : PS} (h : q.ok) (ha : Abs s q) (t : Int) : Abs (atA s t) (goQ q (if q.now < t then t else q.now)) := by
  obtain ⟨m, em⟩ : ∃ m, (if q.now < t then t else q.now) = m := ⟨_, rfl⟩
  have hm : q.now ≤ m := by rw [← em]; split <;> omega
  have hn : (atA s t).now = m := by unfold atA; simp only [ha.now]; exact em
  rw [em]
  obtain ⟨_, h2, h3⟩ := goL_ok m q.L q rfl h
  refine ⟨ha.lo, by simp only [atA, goQ, goL_length]; exact ha.n, ha.rest, hn, fun i hi => ?_, fun i hi h0 => ?_, fun e ps i hmem hi => ?_⟩
  · simp only [goQ, goL_length] at hi ⊢
    show s.tk i = _
    rw [ha.tk i hi]
    congr 1
    exact propext (h3 i hi).1.symm
  · simp only [goQ, goL_length] at hi h0
    rw [hn]
    show s.un i ≤ m
    rcases (h3 i hi).2 h0 with h4 | ⟨e, ps, hmem, hi', he⟩
    · have := ha.un0 i hi h4
      rw [ha.now] at this
      omega
    · rw [ha.un2 e ps i hmem hi']; exact he
  · exact ha.un2 e ps i (h2 e ps hmem).2 hi
/-- In a pool in which all is settled, a port is free just if its state is 0. -/
theorem Abs.free {s : AP} {q : PS} (h : q.ok) (ha : Abs s q) (hs : Settled q) {i : Nat} (hi : i < q.st.length) : freeAt s i = decide (q.st.getD i 0 = 0) := by
  unfold freeAt
  rw [ha.tk i hi]
  rcases h.states i hi with h0 | h0 | h0
  · rw [h0]; simp [ha.un0 i hi h0]
  · rw [h0]; simp
  · obtain ⟨e, ps, hm, hi'⟩ := h.all i hi h0
    have h1 := ha.un2 e ps i hm hi'
    have h2 := hs e ps hm
    have h3 := ha.now
    rw [h0, h1]
    simp
    omega
theorem fst_congr {n : Nat} {p q : Nat → Bool} (h : ∀ i, i < n → p i = q i) : fst_ n p = fst_ n q := by
  cases hq : fst_ n q with
  | none => exact fst_none.2 (fun i hi => by rw [h i hi]; exact fst_none.1 hq i hi)
  | some j =>
    obtain ⟨hj, hp, hl⟩ := fst_mem hq
    exact fst_some hj (by rw [h j hj]; exact hp) (fun i hi => by rw [h i (by omega)]; exact hl i hi)
theorem Abs.first {s : AP} {q : PS} (h : q.ok) (ha : Abs s q) (hs : Settled q) : firstA s = firstZ q.st := by
  unfold firstA firstZ
  rw [ha.n]
  exact fst_congr (fun i hi => ha.free h hs hi)
theorem cnt_count (k : Int) (l : List Int) : cnt l.length (fun i => decide (l.getD i 0 = k)) = l.count k := by
  have h : (List.range l.length).map (fun i => l.getD i 0) = l := List.ext_getElem (by simp) (fun i h1 h2 => by simp [List.getD, h2])
  unfold cnt
  rw [List.count_eq_countP]
  conv => rhs; rw [← h]
  rw [List.countP_map]
  rfl
theorem Abs.count {s : AP} {q : PS} (ha : Abs s q) : ((countA s : Nat) : Int) = cntS q.st 1 := by
  unfold countA cntS
  rw [ha.n, cnt_congr ha.tk, cnt_count]
theorem Abs.frees {s : AP} {q : PS} (h : q.ok) (ha : Abs s q) (hs : Settled q) : ((cnt s.n (freeAt s) : Nat) : Int) = cntS q.st 0 := by
  unfold cntS
  rw [ha.n, cnt_congr (fun i hi => ha.free h hs hi), cnt_count]
theorem cntS_bd (st : List Int) (k : Int) (hn : st.length ≤ 65536) : 0 ≤ cntS st k ∧ cntS st k ≤ 65536 := by
  unfold cntS
  have := List.count_le_length (a := k) (l := st)
  omega
theorem cntS_set {st : List Int} {i : Nat} {a : Int} (hi : i < st.length) (ha : st.getD i 0 = a) (x k : Int) : cntS (st.set i x) k = cntS st k - (if a = k then 1 else 0) + (if x = k then 1 else 0) := by
  have e : st[i] = a := by rw [← ha]; simp [List.getD, hi]
  unfold cntS
  rw [List.count_set hi, e]
  have hp : a = k → 0 < st.count k := fun h => List.count_pos_iff.2 (by rw [← h, ← e]; exact List.getElem_mem _)
  by_cases h1 : a = k
  · have := hp h1
    by_cases h2 : x = k
    · simp only [h1, h2, beq_self_eq_true, if_true]; omega
    · simp only [h1, h2, beq_self_eq_true, if_true, beq_eq_false_iff_ne.2 h2, Bool.false_eq_true, if_false]; omega
  · by_cases h2 : x = k
    · simp only [h1, h2, beq_self_eq_true, if_true, beq_eq_false_iff_ne.2 h1, Bool.false_eq_true, if_false]; omega
    · simp only [h1, h2, beq_eq_false_iff_ne.2 h1, beq_eq_false_iff_ne.2 h2, Bool.false_eq_true, if_false]; omega
/-- A port is taken. -/
def takeQ (q : PS) (i : Nat) : PS := { q with st := q.st.set i 1 }
theorem takeQ_ok {q : PS} (h : q.ok) {i : Nat} (hi : i < q.st.length) (h0 : q.st.getD i 0 = 0) : (takeQ q i).ok := by
  have hne : ∀ e ps j, (e, ps) ∈ q.L → j ∈ ps → ¬ i = j := fun e ps j hm hj he => by
    have := (h.mem e ps j hm hj).2
    subst he
    omega
  refine ⟨h.lo, by simpa [takeQ] using h.n, by simpa [takeQ] using h.hi, h.rest, h.now, fun j hj => ?_, h.ends, fun e ps j hm hj => ?_, fun j hj h2 => ?_, h.sorted, h.nodup, h.ne⟩
  · simp only [takeQ, List.length_set] at hj ⊢
    rw [getD_set]
    split
    · exact .inr (.inl rfl)
    · exact h.states j hj
  · simp only [takeQ, List.length_set]
    rw [getD_set, if_neg (fun q => hne e ps j hm hj q.1)]
    exact h.mem e ps j hm hj
  · simp only [takeQ, List.length_set] at hj h2
    rw [getD_set] at h2
    by_cases hij : i = j
    · rw [if_pos ⟨hij, hj⟩] at h2; omega
    · rw [if_neg (fun q => hij q.1)] at h2
      exact h.all j hj h2
theorem takeQ_abs {s : AP} {q : PS} (ha : Abs s q) (i : Nat) : Abs (takeI s i) (takeQ q i) := by
  refine ⟨ha.lo, by simpa [takeQ, takeI] using ha.n, ha.rest, ha.now, fun j hj => ?_, fun j hj h2 => ?_, ha.un2⟩
  · simp only [takeQ, List.length_set] at hj
    show (decide (j = i) || s.tk j) = decide ((q.st.set i 1).getD j 0 = 1)
    by_cases hij : i = j
    · subst hij
      rw [getD_set, if_pos ⟨rfl, hj⟩]
      simp
    · have hji : ¬ j = i := fun e => hij e.symm
      rw [getD_set, if_neg (fun q => hij q.1), ha.tk j hj]
      simp [hji]
  · simp only [takeQ, List.length_set] at hj h2
    rw [getD_set] at h2
    by_cases hij : i = j
    · rw [if_pos ⟨hij, hj⟩] at h2; omega
    · rw [if_neg (fun q => hij q.1)] at h2
      exact ha.un0 j hj h2
/-- A port is laid to rest: L' is L with it at its end. -/
def restQ (q : PS) (i : Nat) (L' : List (Int × List Nat)) : PS := { q with st := q.st.set i 2, L := L' }
/-- L' is L with port i at end e, behind all. -/
structure Added (e : Int) (i : Nat) (L L' : List (Int × List Nat)) : Prop where
  flat : L'.flatMap Prod.snd = L.flatMap Prod.snd ++ [i]
  sorted : L'.Pairwise (fun a b => a.1 < b.1)
  ne : ∀ e' ps, (e', ps) ∈ L' → ps ≠ []
  key : ∀ e' ps, (e', ps) ∈ L' → e' = e ∨ ∃ ps', (e', ps') ∈ L
  at_ : ∀ e' ps j, (e', ps) ∈ L' → j ∈ ps → (e' = e ∧ j = i) ∨ ∃ ps', (e', ps') ∈ L ∧ j ∈ ps'
  old : ∀ e' ps j, (e', ps) ∈ L → j ∈ ps → ∃ ps', (e', ps') ∈ L' ∧ j ∈ ps'
  new : ∃ ps, (e, ps) ∈ L' ∧ i ∈ ps
theorem added_new {e : Int} {i : Nat} {L : List (Int × List Nat)} (hs : L.Pairwise (fun a b => a.1 < b.1)) (hn : ∀ e' ps, (e', ps) ∈ L → ps ≠ []) (hm : ∀ e' ps, (e', ps) ∈ L → e' ≤ e) (hno : ¬ ∃ ps, (e, ps) ∈ L) : Added e i L (L ++ [(e, [i])]) := by
  refine ⟨by simp, ?_, fun e' ps h => ?_, fun e' ps h => ?_, fun e' ps j h hj => ?_, fun e' ps j h hj => ⟨ps, List.mem_append_left _ h, hj⟩, ⟨[i], by simp, by simp⟩⟩
  · rw [List.pairwise_append]
    refine ⟨hs, by simp, fun a ha b hb => ?_⟩
    simp only [List.mem_singleton] at hb
    subst hb
    have h1 := hm a.1 a.2 ha
    have h2 : a.1 ≠ e := fun q => hno ⟨a.2, by rw [← q]; exact ha⟩
    simp only
    omega
  · rcases List.mem_append.1 h with h | h
    · exact hn e' ps h
    · simp only [List.mem_singleton] at h
      injection h with h1 h2
      subst h2; simp
  · rcases List.mem_append.1 h with h | h
    · exact .inr ⟨ps, h⟩
    · simp only [List.mem_singleton] at h
      injection h with h1 h2
      exact .inl h1
  · rcases List.mem_append.1 h with h | h
    · exact .inr ⟨ps, h, hj⟩
    · simp only [List.mem_singleton] at h
      injection h with h1 h2
      subst h2
      exact .inl ⟨h1, by simpa using hj⟩
theorem last_of {e : Int} {ps : List Nat} : ∀ {L : List (Int × List Nat)}, L.Pairwise (fun a b => a.1 < b.1) → (∀ e' ps', (e', ps') ∈ L → e' ≤ e) → (e, ps) ∈ L → ∃ L0, L = L0 ++ [(e, ps)]
  | [], _, _, h => by cases h
  | [a], _, _, h => by simp only [List.mem_singleton] at h; exact ⟨[], by rw [h]; rfl⟩
  | a :: b :: L, hs, hm, h => by
    rw [List.pairwise_cons] at hs
    rcases List.mem_cons.1 h with h1 | h1
    · exfalso
      have h2 := hs.1 b (.head _)
      have h3 := hm b.1 b.2 (.tail _ (.head _))
      rw [← h1] at h2
      simp only at h2
      omega
    · obtain ⟨L0, hL⟩ := last_of hs.2 (fun e' ps' q => hm e' ps' (.tail _ q)) h1
      exact ⟨a :: L0, by rw [hL]; rfl⟩
theorem added_old {e : Int} {i : Nat} {ps : List Nat} {L0 : List (Int × List Nat)} (hs : (L0 ++ [(e, ps)]).Pairwise (fun a b => a.1 < b.1)) (hn : ∀ e' ps', (e', ps') ∈ L0 ++ [(e, ps)] → ps' ≠ []) : Added e i (L0 ++ [(e, ps)]) (L0 ++ [(e, ps ++ [i])]) := by
  refine ⟨by simp [List.append_assoc], ?_, fun e' ps' h => ?_, fun e' ps' h => ?_, fun e' ps' j h hj => ?_, fun e' ps' j h hj => ?_, ⟨ps ++ [i], by simp, by simp⟩⟩
  · rw [List.pairwise_append] at hs ⊢
    refine ⟨hs.1, by simp, fun a ha b hb => ?_⟩
    simp only [List.mem_singleton] at hb
    subst hb
    exact hs.2.2 a ha (e, ps) (by simp)
  · rcases List.mem_append.1 h with h | h
    · exact hn e' ps' (List.mem_append_left _ h)
    · simp only [List.mem_singleton] at h
      injection h with h1 h2
      subst h2; simp
  · rcases List.mem_append.1 h with h | h
    · exact .inr ⟨ps', List.mem_append_left _ h⟩
    · simp only [List.mem_singleton] at h
      injection h with h1 h2
      exact .inl h1
  · rcases List.mem_append.1 h with h | h
    · exact .inr ⟨ps', List.mem_append_left _ h, hj⟩
    · simp only [List.mem_singleton] at h
      injection h with h1 h2
      subst h2
      rcases List.mem_append.1 hj with hj | hj
      · exact .inr ⟨ps, by rw [h1]; simp, hj⟩
      · exact .inl ⟨h1, by simpa using hj⟩
  · rcases List.mem_append.1 h with h | h
    · exact ⟨ps', List.mem_append_left _ h, hj⟩
    · simp only [List.mem_singleton] at h
      injection h with h1 h2
      subst h1; subst h2
      exact ⟨ps' ++ [i], by simp, List.mem_append_left _ hj⟩
theorem restQ_ok {q : PS} (h : q.ok) {i : Nat} (hi : i < q.st.length) (h1 : q.st.getD i 0 = 1) {L' : List (Int × List Nat)} (hA : Added (q.now + q.rest) i q.L L') : (restQ q i L').ok := by
  have hmem : ∀ e ps j, (e, ps) ∈ q.L → j ∈ ps → i ≠ j := fun e ps j hm hj he => by
    have := (h.mem e ps j hm hj).2
    subst he
    omega
  refine ⟨h.lo, by simpa [restQ] using h.n, by simpa [restQ] using h.hi, h.rest, h.now, fun j hj => ?_, fun e ps hm => ?_, fun e ps j hm hj => ?_, fun j hj h2 => ?_, hA.sorted, ?_, hA.ne⟩
  · simp only [restQ, List.length_set] at hj ⊢
    rw [getD_set]
    split
    · exact .inr (.inr rfl)
    · exact h.states j hj
  · rcases hA.key e ps hm with rfl | ⟨ps', hm'⟩
    · have := h.rest; have := h.now
      simp only [restQ]; omega
    · exact h.ends e ps' hm'
  · simp only [restQ, List.length_set]
    rw [getD_set]
    rcases hA.at_ e ps j hm hj with ⟨_, rfl⟩ | ⟨ps', hm', hj'⟩
    · rw [if_pos ⟨rfl, hi⟩]; exact ⟨hi, rfl⟩
    · rw [if_neg (fun q => hmem e ps' j hm' hj' q.1)]
      exact h.mem e ps' j hm' hj'
  · simp only [restQ, List.length_set] at hj h2 ⊢
    rw [getD_set] at h2
    by_cases hij : i = j
    · subst hij
      obtain ⟨ps, hm, hip⟩ := hA.new
      exact ⟨_, ps, hm, hip⟩
    · rw [if_neg (fun q => hij q.1)] at h2
      obtain ⟨e, ps, hm, hjp⟩ := h.all j hj h2
      obtain ⟨ps', hm', hj'⟩ := hA.old e ps j hm hjp
      exact ⟨e, ps', hm', hj'⟩
  · simp only [restQ]
    rw [hA.flat, List.nodup_append]
    refine ⟨h.nodup, by simp, fun a ha b hb => ?_⟩
    simp only [List.mem_singleton] at hb
    subst hb
    obtain ⟨⟨e, ps⟩, hm, hap⟩ := List.mem_flatMap.1 ha
    exact fun q => hmem e ps a hm hap q.symm
theorem restQ_abs {s : AP} {q : PS} (ha : Abs s q) (h : q.ok) {i : Nat} (hi : i < q.st.length) (h1 : q.st.getD i 0 = 1) {L' : List (Int × List Nat)} (hA : Added (q.now + q.rest) i q.L L') : Abs (giveI s i) (restQ q i L') := by
  have hmem : ∀ e ps j, (e, ps) ∈ q.L → j ∈ ps → j ≠ i := fun e ps j hm hj he => by
    have := (h.mem e ps j hm hj).2
    subst he
    omega
  refine ⟨ha.lo, by simpa [restQ, giveI] using ha.n, ha.rest, ha.now, fun j hj => ?_, fun j hj h0 => ?_, fun e ps j hm hj => ?_⟩
  · simp only [restQ, List.length_set] at hj
    show (!decide (j = i) && s.tk j) = decide ((q.st.set i 2).getD j 0 = 1)
    by_cases hij : i = j
    · subst hij
      rw [getD_set, if_pos ⟨rfl, hj⟩]
      simp
    · have hji : ¬ j = i := fun e => hij e.symm
      rw [getD_set, if_neg (fun q => hij q.1), ha.tk j hj]
      simp [hji]
  · simp only [restQ, List.length_set] at hj h0
    rw [getD_set] at h0
    by_cases hij : i = j
    · rw [if_pos ⟨hij, hj⟩] at h0; omega
    · rw [if_neg (fun q => hij q.1)] at h0
      have hji : ¬ j = i := fun e => hij e.symm
      have := ha.un0 j hj h0
      unfold giveI
      simp only [hji, if_false]
      exact this
  · unfold giveI
    simp only
    rcases hA.at_ e ps j hm hj with ⟨rfl, rfl⟩ | ⟨ps', hm', hj'⟩
    · rw [if_pos rfl, ha.now, ha.rest]
    · rw [if_neg (hmem e ps' j hm' hj')]
      exact ha.un2 e ps' j hm' hj'
theorem nodup_short : ∀ (n : Nat) (l : List Nat), l.Nodup → (∀ j ∈ l, j < n) → l.length ≤ n
  | 0, [], _, _ => Nat.le_refl _
  | 0, a :: l, _, h => by have := h a (.head _); omega
  | n + 1, l, hn, h => by
    have h1 := nodup_short n (l.erase n) (hn.erase n) (fun j hj => by
      have h2 := (hn.mem_erase_iff).1 hj
      have h3 := h j h2.2
      have h4 := h2.1
      omega)
    rw [List.length_erase] at h1
    split at h1 <;> omega
/-- Few rests, few ports at each. -/
theorem PS.ok.sizes {q : PS} (h : q.ok) : q.L.length ≤ q.st.length ∧ ∀ e ps, (e, ps) ∈ q.L → ps.length ≤ q.st.length := by
  have hlen : (q.L.flatMap Prod.snd).length ≤ q.st.length := by
    refine nodup_short _ _ h.nodup (fun j hj => ?_)
    obtain ⟨⟨e, ps⟩, hm, hjp⟩ := List.mem_flatMap.1 hj
    exact (h.mem e ps j hm hjp).1
  constructor
  · refine Nat.le_trans ?_ hlen
    have hne := h.ne
    generalize q.L = L at hne
    clear hlen
    induction L with
    | nil => simp
    | cons a L ih =>
      have h1 := ih (fun e ps hm => hne e ps (.tail _ hm))
      have h2 := List.length_pos_iff.2 (hne a.1 a.2 (.head _))
      simp only [List.flatMap_cons, List.length_append, List.length_cons]
      omega
  · intro e ps hm
    refine Nat.le_trans ?_ hlen
    obtain ⟨A, B, hAB⟩ := List.append_of_mem hm
    rw [hAB]
    simp
    omega
end Go.Proofs.Ytlifldionfoddaa
