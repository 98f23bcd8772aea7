/-
  Alarms by their instants' lower bits: what Set, Stop, Tick, Next leave and tell of the lists. Nothing of the program.
-/
import Derived.Test.YtlpgabbnldalhaaWhlRead
namespace Go.Proofs.Ytlpgabbnldalhaa
set_option maxRecDepth 10000
set_option linter.unusedSimpArgs false
set_option linter.unusedVariables false

def slotL (j : Nat) (L : AL) : AL := L.filter (fun a => decide (a.2 % 64 = (j : Int)))
theorem mem_slot {j : Nat} {L : AL} {a : Int × Int} : a ∈ slotL j L ↔ a ∈ L ∧ a.2 % 64 = (j : Int) := by simp [slotL]
theorem okW.slot {L : AL} (h : okW L) (j : Nat) : okW (slotL j L) := h.sub List.filter_sublist
theorem slotL_le (j : Nat) (L : AL) : (slotL j L).length ≤ L.length := List.length_filter_le _ _
theorem slotA_iff {a : Int × Int} {j : Nat} : slotA a = j ↔ a.2 % 64 = (j : Int) := by unfold slotA; omega
theorem id_one {L : AL} (h : okW L) {a b : Int × Int} (ha : a ∈ L) (hb : b ∈ L) (e : a.1 = b.1) : a = b := by
  have h1 := h.mem_at.1 ha
  have h2 := h.mem_at.1 hb
  rw [e] at h1
  rw [h1] at h2
  injection h2
theorem erase_slot {L : AL} (h : okW L) {a : Int × Int} (ha : a ∈ L) {j : Nat} (hj : slotA a = j) :
    upd (fun i => slotL i L) j ((slotL j L).eraseIdx (kBef a (slotL j L))) = fun i => slotL i (stopW a.1 L) := by
  funext i
  have hja := slotA_iff.1 hj
  by_cases e : i = j
  · subst e
    rw [upd_same]
    have hm : a ∈ slotL i L := mem_slot.2 ⟨ha, hja⟩
    have hok := h.slot i
    obtain ⟨hk, hkg⟩ := kBef_mem hok.sort hm
    obtain ⟨k, ek⟩ : ∃ k, kBef a (slotL i L) = k := ⟨_, rfl⟩
    rw [ek] at hk hkg ⊢
    have hka : (slotL i L)[k] = a := by simpa [List.getD, hk] using hkg
    refine (hok.sub (List.eraseIdx_sublist _ _)).ext ((h.stop a.1).slot i) (fun b => ?_)
    rw [List.mem_eraseIdx_iff_getElem, mem_slot, mem_stop]
    constructor
    · rintro ⟨t, ht, htk, rfl⟩
      have hb : (slotL i L)[t] ∈ slotL i L := List.getElem_mem ht
      refine ⟨⟨(mem_slot.1 hb).1, fun e2 => ?_⟩, (mem_slot.1 hb).2⟩
      have h3 : (slotL i L)[t] = a := id_one h (mem_slot.1 hb).1 ha e2
      rcases Nat.lt_or_gt_of_ne htk with h4 | h4
      · have := List.pairwise_iff_getElem.1 hok.sort t k ht hk h4
        rw [h3, hka] at this
        exact befW.irrefl this
      · have := List.pairwise_iff_getElem.1 hok.sort k t hk ht h4
        rw [h3, hka] at this
        exact befW.irrefl this
    · rintro ⟨⟨hb, hne⟩, hs⟩
      obtain ⟨t, ht, e2⟩ := List.getElem_of_mem (mem_slot.2 ⟨hb, hs⟩)
      refine ⟨t, ht, fun e3 => hne ?_, e2⟩
      subst e3
      rw [← e2, hka]
  · rw [upd_ne _ _ e]
    refine (h.slot i).ext ((h.stop a.1).slot i) (fun b => ?_)
    rw [mem_slot, mem_slot, mem_stop]
    constructor
    · rintro ⟨hb, hs⟩
      refine ⟨⟨hb, fun e2 => e ?_⟩, hs⟩
      have := id_one h hb ha e2
      subst this
      omega
    · rintro ⟨⟨hb, _⟩, hs⟩
      exact ⟨hb, hs⟩
theorem pre_cut {α : Type} {p q M : List α} (h : p ++ q = M) : M.take p.length = p ∧ M.drop p.length = q := by subst h; simp
theorem insL_kBef (a : Int × Int) (M : AL) : insL (kBef a M) a M = insW a.1 a.2 M := by
  unfold insL kBef insW
  obtain ⟨h1, h2⟩ := pre_cut (List.takeWhile_append_dropWhile (p := ltW a.1 a.2) (l := M))
  rw [h1, h2]
theorem stop_self {L : AL} {id : Int} (h : ∀ a, a ∈ L → a.1 ≠ id) : stopW id L = L := by
  unfold stopW
  rw [List.filter_eq_self]
  exact fun a ha => by simpa using h a ha
theorem ins_slot {L : AL} (h : okW L) {a : Int × Int} (hno : ∀ b, b ∈ L → b.1 ≠ a.1) {j : Nat} (hj : slotA a = j) :
    upd (fun i => slotL i L) j (insL (kBef a (slotL j L)) a (slotL j L)) = fun i => slotL i (setW a.1 a.2 L) := by
  funext i
  have hja := slotA_iff.1 hj
  by_cases e : i = j
  · subst e
    rw [upd_same, insL_kBef]
    have hs : stopW a.1 (slotL i L) = slotL i L := stop_self (fun b hb => hno b (mem_slot.1 hb).1)
    have hok : okW (insW a.1 a.2 (slotL i L)) := by
      have := (h.slot i).set a.1 a.2
      unfold setW at this
      rwa [hs] at this
    refine hok.ext ((h.set a.1 a.2).slot i) (fun b => ?_)
    rw [mem_ins, mem_slot, mem_slot, mem_set]
    constructor
    · rintro (rfl | ⟨hb, hs⟩)
      · exact ⟨.inl rfl, hja⟩
      · exact ⟨.inr ⟨hb, hno b hb⟩, hs⟩
    · rintro ⟨rfl | ⟨hb, _⟩, hs⟩
      · exact .inl rfl
      · exact .inr ⟨hb, hs⟩
  · rw [upd_ne _ _ e]
    refine (h.slot i).ext ((h.set a.1 a.2).slot i) (fun b => ?_)
    rw [mem_slot, mem_slot, mem_set]
    constructor
    · rintro ⟨hb, hs⟩
      exact ⟨.inr ⟨hb, hno b hb⟩, hs⟩
    · rintro ⟨rfl | ⟨hb, _⟩, hs⟩
      · exact absurd (show i = j by rw [show ((a.1, a.2) : Int × Int).2 = a.2 from rfl] at hs; omega) e
      · exact ⟨hb, hs⟩
theorem set_stop {L : AL} (id at_ : Int) : setW id at_ (stopW id L) = setW id at_ L := by
  unfold setW
  rw [stop_self (fun a ha => (mem_stop.1 ha).2)]
theorem left_slot {L : AL} (h : sortW L) (j : Nat) (t : Int) : leftW t (slotL j L) = slotL j (leftW t L) := by
  rw [(sort_due (show sortW (slotL j L) from List.Pairwise.sublist List.filter_sublist h) t).2, (sort_due h t).2]
  unfold slotL
  rw [List.filter_filter, List.filter_filter]
  congr 1
  funext a
  exact Bool.and_comm _ _
theorem due_slot {L : AL} (h : sortW L) (j : Nat) (t : Int) : dueW t (slotL j L) = slotL j (dueW t L) := by
  rw [(sort_due (show sortW (slotL j L) from List.Pairwise.sublist List.filter_sublist h) t).1, (sort_due h t).1]
  unfold slotL
  rw [List.filter_filter, List.filter_filter]
  congr 1
  funext a
  exact Bool.and_comm _ _
/-- The lists' parts, one behind the other. -/
def catW (f : Nat → AL) : Nat → AL
  | 0 => []
  | n + 1 => catW f n ++ f n
theorem cat_perm (D : AL) (n : Nat) : (catW (fun j => slotL j D) n).Perm (D.filter (fun a => decide (0 ≤ a.2 % 64 ∧ a.2 % 64 < (n : Int)))) := by
  induction n with
  | zero =>
    have : D.filter (fun a => decide (0 ≤ a.2 % 64 ∧ a.2 % 64 < ((0 : Nat) : Int))) = [] := by
      rw [List.filter_eq_nil_iff]
      intro a _
      simp
    rw [this]
    exact List.Perm.refl _
  | succ n ih =>
    have h := List.filter_append_perm (fun a : Int × Int => decide (a.2 % 64 < (n : Int))) (D.filter (fun a => decide (0 ≤ a.2 % 64 ∧ a.2 % 64 < ((n + 1 : Nat) : Int))))
    rw [List.filter_filter, List.filter_filter] at h
    refine ((List.Perm.append ih (List.Perm.refl (slotL n D))).trans ?_).trans h
    have e1 : D.filter (fun a => decide (0 ≤ a.2 % 64 ∧ a.2 % 64 < (n : Int))) = D.filter (fun a => decide (a.2 % 64 < (n : Int)) && decide (0 ≤ a.2 % 64 ∧ a.2 % 64 < ((n + 1 : Nat) : Int))) := by
      congr 1
      funext a
      rw [← Bool.decide_and]
      exact decide_eq_decide.2 (by omega)
    have e2 : slotL n D = D.filter (fun a => (!decide (a.2 % 64 < (n : Int))) && decide (0 ≤ a.2 % 64 ∧ a.2 % 64 < ((n + 1 : Nat) : Int))) := by
      unfold slotL
      congr 1
      funext a
      rw [← decide_not, ← Bool.decide_and]
      exact decide_eq_decide.2 (by omega)
    rw [e1, e2]
theorem cat_all (D : AL) : (catW (fun j => slotL j D) 64).Perm D := by
  refine (cat_perm D 64).trans ?_
  rw [List.filter_eq_self.2 (fun a _ => by simp; omega)]
/-- A row of the same alarms without an inversion is the row in order. -/
theorem sorted_one {M D : AL} (hD : okW D) (hp : M.Perm D) (hs : ∀ i j, i < j → j < M.length → ¬ befW (M.getD j (0, 0)) (M.getD i (0, 0))) : M = D := by
  refine sortW.ext ?_ hD.sort (fun a => hp.mem_iff)
  have hnd : (M.map Prod.fst).Nodup := ((hp.map Prod.fst).nodup_iff).2 hD.ids
  refine List.pairwise_iff_getElem.2 (fun i j hi hj hij => ?_)
  have h1 := hs i j hij hj
  simp only [List.getD, List.getElem?_eq_getElem hi, List.getElem?_eq_getElem hj, Option.getD_some] at h1
  have h2 := List.pairwise_iff_getElem.1 hnd i j (by simpa using hi) (by simpa using hj) hij
  simp only [List.getElem_map] at h2
  exact befW.total (fun e => h2 e.symm) h1
/-- The least of the first instants is the first one's. -/
theorem first_le {M : AL} (h : sortW M) (x : Int) : firstW M x ≤ x ∧ (∀ a, a ∈ M → firstW M x ≤ a.2) ∧ (firstW M x = x ∨ ∃ a, a ∈ M ∧ firstW M x = a.2) := by
  cases M with
  | nil => exact ⟨Int.le_refl _, fun a ha => (by cases ha), .inl rfl⟩
  | cons a M =>
    have h' := List.pairwise_cons.1 h
    have hf : firstW (a :: M) x = if a.2 < x then a.2 else x := rfl
    have hle : firstW (a :: M) x ≤ a.2 ∧ firstW (a :: M) x ≤ x := by rw [hf]; split <;> omega
    refine ⟨hle.2, fun b hb => ?_, ?_⟩
    · rcases List.mem_cons.1 hb with rfl | hb
      · exact hle.1
      · have := h'.1 b hb
        unfold befW at this
        omega
    · rw [hf]
      split
      · exact .inr ⟨a, .head _, rfl⟩
      · exact .inl rfl
theorem least_le {L : AL} (h : okW L) (n : Nat) (x : Int) : leastW (fun j => slotL j L) n x ≤ x ∧ (∀ a, a ∈ L → 0 ≤ a.2 % 64 → a.2 % 64 < (n : Int) → leastW (fun j => slotL j L) n x ≤ a.2) ∧ (leastW (fun j => slotL j L) n x = x ∨ ∃ a, a ∈ L ∧ leastW (fun j => slotL j L) n x = a.2) := by
  induction n with
  | zero => exact ⟨Int.le_refl _, fun a _ h0 h1 => by omega, .inl rfl⟩
  | succ n ih =>
    obtain ⟨i1, i2, i3⟩ := ih
    obtain ⟨f1, f2, f3⟩ := first_le (h.slot n).sort (leastW (fun j => slotL j L) n x)
    have e : leastW (fun j => slotL j L) (n + 1) x = firstW (slotL n L) (leastW (fun j => slotL j L) n x) := rfl
    rw [e]
    refine ⟨Int.le_trans f1 i1, fun a ha h0 h1 => ?_, ?_⟩
    · by_cases hs : a.2 % 64 = (n : Int)
      · exact f2 a (mem_slot.2 ⟨ha, hs⟩)
      · exact Int.le_trans f1 (i2 a ha h0 (by omega))
    · rcases f3 with f3 | ⟨a, ha, f3⟩
      · rw [f3]; exact i3
      · exact .inr ⟨a, (mem_slot.1 ha).1, f3⟩
theorem least_first {a : Int × Int} {L : AL} (h : okW (a :: L)) (hle : ∀ b, b ∈ a :: L → b.2 ≤ 1099511627776) : leastW (fun j => slotL j (a :: L)) 64 1099511627776 = a.2 := by
  obtain ⟨h1, h2, h3⟩ := least_le h 64 1099511627776
  have h4 := h2 a (.head _) (by omega) (by omega)
  have h5 := hle a (.head _)
  rcases h3 with h3 | ⟨b, hb, h3⟩
  · omega
  · rcases List.mem_cons.1 hb with rfl | hb
    · exact h3
    · have := (List.pairwise_cons.1 h.sort).1 b hb
      unfold befW at this
      omega
end Go.Proofs.Ytlpgabbnldalhaa
