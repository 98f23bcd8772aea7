/-
  Alarms by instants, then ids, no id twice ('okW'): what Set, Stop, Tick leave of that; two such rows of the same alarms are one. Nothing of the program.
-/
import Derived.Test.YtlpgabbnldalhaaWh
namespace Go.Proofs.Ytlpgabbnldalhaa
set_option maxRecDepth 10000
set_option linter.unusedSimpArgs false
set_option linter.unusedVariables false

/-- a is told before b. -/
def befW (a b : Int × Int) : Prop := a.2 < b.2 ∨ (a.2 = b.2 ∧ a.1 < b.1)
def sortW (L : AL) : Prop := L.Pairwise befW
def idsW (L : AL) : Prop := (L.map Prod.fst).Nodup
structure okW (L : AL) : Prop where
  sort : sortW L
  ids : idsW L
theorem befW.trans {a b c : Int × Int} (h : befW a b) (k : befW b c) : befW a c := by unfold befW at *; omega
theorem befW.irrefl {a : Int × Int} : ¬ befW a a := by unfold befW; omega
theorem befW.asymm {a b : Int × Int} (h : befW a b) : ¬ befW b a := by unfold befW at *; omega
theorem ltW_iff {id at_ : Int} {a : Int × Int} : ltW id at_ a = true ↔ befW a (id, at_) := by
  unfold ltW befW
  simp
theorem okW.nil : okW [] := ⟨.nil, .nil⟩
theorem okW.sub {L M : AL} (h : okW L) (hs : M.Sublist L) : okW M := ⟨List.Pairwise.sublist hs h.sort, List.Nodup.sublist (hs.map _) h.ids⟩
theorem okW.stop {L : AL} (h : okW L) (id : Int) : okW (stopW id L) := h.sub List.filter_sublist
theorem okW.left {L : AL} (h : okW L) (t : Int) : okW (leftW t L) := h.sub (List.dropWhile_sublist _)
theorem okW.due {L : AL} (h : okW L) (t : Int) : okW (dueW t L) := h.sub (List.takeWhile_sublist _)
theorem mem_stop {id : Int} {L : AL} {a : Int × Int} : a ∈ stopW id L ↔ a ∈ L ∧ a.1 ≠ id := by
  unfold stopW
  simp
theorem mem_ins {id at_ : Int} {L : AL} {a : Int × Int} : a ∈ insW id at_ L ↔ a = (id, at_) ∨ a ∈ L := by
  unfold insW
  have h := List.takeWhile_append_dropWhile (p := ltW id at_) (l := L)
  constructor
  · intro h1
    rcases List.mem_append.1 h1 with h1 | h1
    · exact .inr (by rw [← h]; exact List.mem_append_left _ h1)
    · rcases List.mem_cons.1 h1 with h1 | h1
      · exact .inl h1
      · exact .inr (by rw [← h]; exact List.mem_append_right _ h1)
  · rintro (rfl | h1)
    · simp
    · rw [← h] at h1
      rcases List.mem_append.1 h1 with h1 | h1
      · exact List.mem_append_left _ h1
      · exact List.mem_append_right _ (List.mem_cons_of_mem _ h1)
theorem mem_set {id at_ : Int} {L : AL} {a : Int × Int} : a ∈ setW id at_ L ↔ a = (id, at_) ∨ (a ∈ L ∧ a.1 ≠ id) := by
  unfold setW
  rw [mem_ins, mem_stop]
theorem take_all {α : Type} {p : α → Bool} {l : List α} {a : α} (h : a ∈ l.takeWhile p) : p a = true := by
  induction l with
  | nil => simp at h
  | cons b l ih =>
    by_cases hb : p b = true
    · simp [List.takeWhile_cons, hb] at h
      rcases h with rfl | h
      · exact hb
      · exact ih h
    · simp [List.takeWhile_cons, hb] at h
/-- In a sorted row all behind the first that is not before x are not before x. -/
theorem drop_none {L : AL} (h : sortW L) {x : Int × Int} {p : Int × Int → Bool} (hp : ∀ a, p a = true ↔ befW a x) {a : Int × Int} (ha : a ∈ L.dropWhile p) : ¬ befW a x := by
  induction L with
  | nil => simp at ha
  | cons b L ih =>
    have h' := List.pairwise_cons.1 h
    by_cases hb : p b = true
    · simp [List.dropWhile_cons, hb] at ha
      exact ih h'.2 ha
    · have hb' : ¬ befW b x := fun e => hb ((hp b).2 e)
      simp [List.dropWhile_cons, hb] at ha
      rcases ha with rfl | ha
      · exact hb'
      · exact fun e => hb' ((h'.1 a ha).trans e)
theorem befW.total {a b : Int × Int} (h : a.1 ≠ b.1) (hn : ¬ befW a b) : befW b a := by unfold befW at *; omega
theorem ins_perm (id at_ : Int) (L : AL) : List.Perm (insW id at_ L) ((id, at_) :: L) := by
  unfold insW
  have h := List.takeWhile_append_dropWhile (p := ltW id at_) (l := L)
  have h2 := List.perm_middle (a := (id, at_)) (l₁ := L.takeWhile (ltW id at_)) (l₂ := L.dropWhile (ltW id at_))
  rw [h] at h2
  exact h2
theorem stop_fst {id : Int} {L : AL} : id ∉ (stopW id L).map Prod.fst := by
  intro h
  obtain ⟨a, ha, e⟩ := List.mem_map.1 h
  exact (mem_stop.1 ha).2 e
theorem okW.set {L : AL} (h : okW L) (id at_ : Int) : okW (setW id at_ L) := by
  have hs := h.stop id
  refine ⟨?_, ?_⟩
  · unfold setW insW sortW
    have hd : ∀ a, a ∈ (stopW id L).dropWhile (ltW id at_) → befW (id, at_) a := fun a ha => by
      have h1 := drop_none hs.sort (x := (id, at_)) (fun a => ltW_iff) ha
      have h2 : a ∈ stopW id L := (List.dropWhile_sublist _).subset ha
      exact befW.total (mem_stop.1 h2).2 h1
    rw [List.pairwise_append]
    refine ⟨List.Pairwise.sublist (List.takeWhile_sublist _) hs.sort, List.pairwise_cons.2 ⟨hd, List.Pairwise.sublist (List.dropWhile_sublist _) hs.sort⟩, fun a ha b hb => ?_⟩
    have h1 := ltW_iff.1 (take_all ha)
    rcases List.mem_cons.1 hb with rfl | hb
    · exact h1
    · exact h1.trans (hd b hb)
  · unfold idsW setW
    have hp := (ins_perm id at_ (stopW id L)).map Prod.fst
    rw [hp.nodup_iff]
    exact List.nodup_cons.2 ⟨stop_fst, hs.ids⟩
/-- Two rows in order with the same alarms are one. -/
theorem sortW.ext : ∀ {L M : AL}, sortW L → sortW M → (∀ a, a ∈ L ↔ a ∈ M) → L = M
  | [], [], _, _, _ => rfl
  | [], b :: M, _, _, h => by have := (h b).2 (.head _); cases this
  | a :: L, [], _, _, h => by have := (h a).1 (.head _); cases this
  | a :: L, b :: M, hL, hM, h => by
    have hL' := List.pairwise_cons.1 hL
    have hM' := List.pairwise_cons.1 hM
    have hab : a = b := by
      rcases List.mem_cons.1 ((h a).1 (.head _)) with e | h1
      · exact e
      · rcases List.mem_cons.1 ((h b).2 (.head _)) with e | h2
        · exact e.symm
        · exact absurd (hL'.1 b h2) (befW.asymm (hM'.1 a h1))
    subst hab
    congr 1
    refine sortW.ext hL'.2 hM'.2 (fun c => ⟨fun hc => ?_, fun hc => ?_⟩)
    · rcases List.mem_cons.1 ((h c).1 (.tail _ hc)) with e | h1
      · subst e; exact absurd (hL'.1 c hc) befW.irrefl
      · exact h1
    · rcases List.mem_cons.1 ((h c).2 (.tail _ hc)) with e | h1
      · subst e; exact absurd (hM'.1 c hc) befW.irrefl
      · exact h1
theorem okW.ext {L M : AL} (hL : okW L) (hM : okW M) (h : ∀ a, a ∈ L ↔ a ∈ M) : L = M := sortW.ext hL.sort hM.sort h
theorem okW.mem_at {L : AL} (h : okW L) {a : Int × Int} : a ∈ L ↔ atW a.1 L = some a := by
  unfold atW
  constructor
  · intro ha
    cases hf : L.find? (fun b => decide (b.1 = a.1)) with
    | none =>
      rw [List.find?_eq_none] at hf
      exact absurd (by simp) (hf a ha)
    | some b =>
      have hb := List.mem_of_find?_eq_some hf
      have hb1 : b.1 = a.1 := by simpa using List.find?_some hf
      congr 1
      have hnd := h.ids
      unfold idsW at hnd
      clear hf
      clear h
      induction L with
      | nil => cases ha
      | cons c L ih =>
        simp only [List.map_cons, List.nodup_cons, List.mem_map, not_exists, not_and] at hnd
        rcases List.mem_cons.1 ha with ea | ha2
        · rcases List.mem_cons.1 hb with eb | hb2
          · rw [ea, eb]
          · exact absurd (by rw [hb1, ea]) (hnd.1 b hb2)
        · rcases List.mem_cons.1 hb with eb | hb2
          · exact absurd (by rw [← hb1, eb]) (hnd.1 a ha2)
          · exact ih ha2 hb2 hnd.2
  · intro h1
    exact List.mem_of_find?_eq_some h1
theorem at_none {L : AL} {id : Int} : atW id L = none ↔ ∀ a, a ∈ L → a.1 ≠ id := by
  unfold atW
  rw [List.find?_eq_none]
  simp
theorem at_some {L : AL} {id : Int} {a : Int × Int} (h : atW id L = some a) : a.1 = id ∧ a ∈ L := by
  unfold atW at h
  exact ⟨by simpa using List.find?_some h, List.mem_of_find?_eq_some h⟩
theorem okW.ext_at {L M : AL} (hL : okW L) (hM : okW M) (h : ∀ id, atW id L = atW id M) : L = M :=
  hL.ext hM (fun a => by rw [hL.mem_at, hM.mem_at, h])
/-- Ticks in parts. -/
theorem due_left (t : Int) (L : AL) : dueW t L ++ leftW t L = L := List.takeWhile_append_dropWhile
theorem left_left {t u : Int} (h : t ≤ u) (L : AL) : leftW u (leftW t L) = leftW u L := by
  induction L with
  | nil => rfl
  | cons a L ih =>
    unfold leftW at *
    by_cases ha : a.2 ≤ t
    · have hb : a.2 ≤ u := by omega
      simp [List.dropWhile_cons, ha, hb]
      exact ih
    · simp [List.dropWhile_cons, ha]
theorem due_due {t u : Int} (h : t ≤ u) (L : AL) : dueW t L ++ dueW u (leftW t L) = dueW u L := by
  induction L with
  | nil => rfl
  | cons a L ih =>
    unfold dueW leftW at *
    by_cases ha : a.2 ≤ t
    · have hb : a.2 ≤ u := by omega
      simp [List.dropWhile_cons, List.takeWhile_cons, ha, hb]
      simpa using ih
    · simp [List.dropWhile_cons, List.takeWhile_cons, ha]
theorem sort_due {L : AL} (h : sortW L) (t : Int) : dueW t L = L.filter (fun a => decide (a.2 ≤ t)) ∧ leftW t L = L.filter (fun a => !decide (a.2 ≤ t)) := by
  unfold dueW leftW
  induction L with
  | nil => exact ⟨rfl, rfl⟩
  | cons a L ih =>
    have h' := List.pairwise_cons.1 h
    by_cases ha : a.2 ≤ t
    · have := ih h'.2
      simp [List.takeWhile_cons, List.dropWhile_cons, ha, this.1, this.2]
    · have hno : ∀ b, b ∈ L → ¬ b.2 ≤ t := fun b hb hh => by
        have := h'.1 b hb
        unfold befW at this
        omega
      have h1 : L.filter (fun b => decide (b.2 ≤ t)) = [] := List.filter_eq_nil_iff.2 (fun b hb => by simpa using hno b hb)
      have h2 : L.filter (fun b => !decide (b.2 ≤ t)) = L := List.filter_eq_self.2 (fun b hb => by simpa using hno b hb)
      simp [List.takeWhile_cons, List.dropWhile_cons, ha, h1, h2]
theorem mem_due {L : AL} (h : sortW L) {t : Int} {a : Int × Int} : a ∈ dueW t L ↔ a ∈ L ∧ a.2 ≤ t := by rw [(sort_due h t).1]; simp
theorem mem_left {L : AL} (h : sortW L) {t : Int} {a : Int × Int} : a ∈ leftW t L ↔ a ∈ L ∧ t < a.2 := by rw [(sort_due h t).2]; simp
theorem at_set {id at_ i : Int} {L : AL} (h : okW L) : atW i (setW id at_ L) = if i = id then some (id, at_) else atW i L := by
  by_cases hi : i = id
  · subst hi
    rw [if_pos rfl]
    exact ((h.set i at_).mem_at (a := (i, at_))).1 (mem_set.2 (.inl rfl))
  · rw [if_neg hi]
    cases h1 : atW i L with
    | none =>
      rw [at_none] at h1 ⊢
      intro a ha
      rcases mem_set.1 ha with rfl | ⟨h2, _⟩
      · exact fun e => hi e.symm
      · exact h1 a h2
    | some a =>
      obtain ⟨e, hm⟩ := at_some h1
      rw [← e]
      exact ((h.set id at_).mem_at).1 (mem_set.2 (.inr ⟨hm, by rw [e]; exact hi⟩))
theorem at_stop {id i : Int} {L : AL} (h : okW L) : atW i (stopW id L) = if i = id then none else atW i L := by
  by_cases hi : i = id
  · subst hi
    rw [if_pos rfl, at_none]
    exact fun a ha => (mem_stop.1 ha).2
  · rw [if_neg hi]
    cases h1 : atW i L with
    | none =>
      rw [at_none] at h1 ⊢
      exact fun a ha => h1 a (mem_stop.1 ha).1
    | some a =>
      obtain ⟨e, hm⟩ := at_some h1
      rw [← e]
      exact ((h.stop id).mem_at).1 (mem_stop.2 ⟨hm, by rw [e]; exact hi⟩)
/-- Set twice over: the order does not matter for two ids. -/
theorem set_comm {L : AL} (h : okW L) {i j s t : Int} (hij : i ≠ j) : setW i s (setW j t L) = setW j t (setW i s L) := by
  refine ((h.set j t).set i s).ext_at ((h.set i s).set j t) (fun k => ?_)
  rw [at_set (h.set j t), at_set h, at_set (h.set i s), at_set h]
  by_cases h1 : k = i
  · subst h1
    simp [hij]
  · simp [h1]
theorem stop_len {L : AL} {id : Int} (h : okW L) : ((stopW id L).length = L.length ↔ atW id L = none) := by
  rw [at_none]
  constructor
  · intro h1 a ha e
    have h2 : stopW id L = L := by
      unfold stopW at h1 ⊢
      rw [List.filter_eq_self]
      exact List.length_filter_eq_length_iff.1 h1
    rw [← h2] at ha
    exact (mem_stop.1 ha).2 e
  · intro h1
    unfold stopW
    rw [List.filter_eq_self.2 (fun a ha => by simpa using h1 a ha)]
theorem set_length {L : AL} (id at_ : Int) : (setW id at_ L).length = (stopW id L).length + 1 := by
  unfold setW
  rw [(ins_perm id at_ (stopW id L)).length_eq]
  rfl
end Go.Proofs.Ytlpgabbnldalhaa
