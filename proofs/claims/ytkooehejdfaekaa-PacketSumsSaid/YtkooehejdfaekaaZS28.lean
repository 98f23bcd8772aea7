/-
  A drawn region whose LATE operations (stores to cells that it loads) come behind every load: the condition S is asked only as long as none of them is carried out. No function of the program.
-/
import Derived.Test.YtkooehejdfaekaaRows
import Derived.OrdersHeld
import Derived.Deep.RegionHeld
namespace Go.Proofs.Ytkooehejdfaekaa
set_option maxRecDepth 10000
section
variable {P : Program} {ops : Array Oper} {Q : Exit → Act → World → Prop} {md : Region.Mode} {S : World → Prop} {late : List Nat}

/-- None of the late ones is carried out. -/
def early (late : List Nat) (listed : Array Bool) : Bool := late.all fun k => !listed.getD k false
theorem early_iff {listed : Array Bool} : early late listed = true ↔ ∀ k ∈ late, listed.getD k false = false := by
  unfold early
  rw [List.all_eq_true]
  constructor
  · intro h k hk
    have := h k hk
    revert this
    cases listed.getD k false <;> simp
  · intro h k hk
    rw [h k hk]; rfl
theorem early_before {listed : Array Bool} {i : Nat} (h : early late (listed.setIfInBounds i true) = true) : early late listed = true := by
  rw [early_iff] at *
  intro k hk
  cases hc : listed.getD k false with
  | false => rfl
  | true => have := h k hk; rw [getD_set_true hc] at this; cases this
theorem early_set {listed : Array Bool} {i : Nat} (hi : late.contains i = false) (h : early late listed = true) : early late (listed.setIfInBounds i true) = true := by
  rw [early_iff] at *
  intro k hk
  by_cases e : i = k
  · subst e
    simp at hi
    exact absurd hk hi
  · rw [getD_set_ne false e]; exact h k hk

/-- Whatever order is picked from here on: S holds behind every operation that is carried out before the late ones. -/
def anyHT (P : Program) (md : Region.Mode) (ops : Array Oper) (Q : Exit → Act → World → Prop) (S : World → Prop) (late : List Nat) : Nat → Array Bool → Act → World → Prop
  | 0, listed, a, w => Region.ready md ops listed = [] ∧ Q .normal a w
  | fuel + 1, listed, a, w =>
    (Region.ready md ops listed = [] → Q .normal a w) ∧
    ∀ i ∈ Region.ready md ops listed, wpOp P ops Q i (fun a' w' => (early late (listed.setIfInBounds i true) = true → S w') ∧ anyHT P md ops Q S late fuel (listed.setIfInBounds i true) a' w') a w
theorem wpAny_of_HT : ∀ (fuel : Nat) (listed : Array Bool) (a : Act) (w : World), anyHT P md ops Q S late fuel listed a w → wpAny P md ops Q fuel listed a w
  | 0, _, _, _, h => h
  | fuel + 1, _, _, _, h => ⟨h.1, fun i hi => wpOp_mono (fun a' w' h' => wpAny_of_HT fuel _ a' w' h'.2) (h.2 i hi)⟩

/-- What is carried out has what it waits for behind it. -/
def Closed (md : Region.Mode) (ops : Array Oper) (listed : Array Bool) : Prop := ∀ k o, ops[k]? = some o → listed.getD k false = true → ∀ e ∈ o.after, Region.binds md e = true → listed.getD e.on false = true
def closedB (md : Region.Mode) (ops : Array Oper) (listed : Array Bool) : Bool := (List.range ops.size).all fun k => !listed.getD k false || ((ops[k]?).map fun o => o.after.all fun e => !Region.binds md e || listed.getD e.on false).getD true
theorem closed_spec {listed : Array Bool} (h : closedB md ops listed = true) : Closed md ops listed := by
  intro k o ho hk e he hb
  unfold closedB at h
  have h1 := List.all_eq_true.1 h k (List.mem_range.2 (Array.getElem?_eq_some_iff.1 ho).1)
  rw [hk, ho] at h1
  simp only [Bool.not_true, Bool.false_or, Option.map_some, Option.getD_some] at h1
  have h2 := (Array.all_eq_true_iff_forall_mem.1 h1) e he
  rw [hb] at h2
  simpa using h2
theorem Closed.set {listed : Array Bool} {j : Nat} (h : Closed md ops listed) (hj : j ∈ Region.ready md ops listed) : Closed md ops (listed.setIfInBounds j true) := by
  intro k o ho hk e he hb
  obtain ⟨_, oj, hoj, hall⟩ := mem_ready.1 hj
  by_cases hjk : j = k
  · subst hjk
    rw [hoj] at ho
    injection ho with ho
    subst ho
    exact getD_set_true (hall e he hb)
  · rw [getD_set_ne false hjk] at hk
    exact getD_set_true (h k o ho hk e he hb)

/-- Which operations wait for number i, be it by way of others. -/
def above (md : Region.Mode) (ops : Array Oper) (i : Nat) : Array Bool :=
  (List.range ops.size).foldl (fun A j => A.push (j == i || ((ops[j]?).map fun o => o.after.any fun e => Region.binds md e && A.getD e.on false).getD false)) #[]
def aboveOK (md : Region.Mode) (ops : Array Oper) (A : Array Bool) (i : Nat) : Bool :=
  (List.range ops.size).all fun j => !A.getD j false || (j == i || ((ops[j]?).map fun o => o.after.any fun e => Region.binds md e && (decide (e.on < j) && A.getD e.on false)).getD false)
theorem above_spec {A : Array Bool} {i j : Nat} {o : Oper} (h : aboveOK md ops A i = true) (ho : ops[j]? = some o) (hA : A.getD j false = true) (hji : j ≠ i) : ∃ e ∈ o.after, Region.binds md e = true ∧ e.on < j ∧ A.getD e.on false = true := by
  have h1 := List.all_eq_true.1 h j (List.mem_range.2 (Array.getElem?_eq_some_iff.1 ho).1)
  rw [hA, ho] at h1
  have h0 : (j == i) = false := by simpa using hji
  simp only [Bool.not_true, Bool.false_or, h0, Option.map_some, Option.getD_some] at h1
  obtain ⟨k, hk, hp⟩ := Array.any_eq_true.1 h1
  simp only [Bool.and_eq_true, decide_eq_true_eq] at hp
  exact ⟨o.after[k], Array.getElem_mem hk, hp.1, hp.2.1, hp.2.2⟩
theorem above_unlisted {A : Array Bool} {i : Nat} {listed : Array Bool} (h : aboveOK md ops A i = true) (hc : Closed md ops listed) (hi : listed.getD i false = false) : ∀ (n j : Nat), j ≤ n → j < ops.size → A.getD j false = true → listed.getD j false = false := by
  intro n
  induction n with
  | zero =>
    intro j hjn hjs hA
    by_cases hji : j = i
    · subst hji; exact hi
    · obtain ⟨e, _, _, hlt, _⟩ := above_spec h (Array.getElem?_eq_getElem hjs) hA hji
      omega
  | succ n ih =>
    intro j hjn hjs hA
    by_cases hji : j = i
    · subst hji; exact hi
    · obtain ⟨e, he, hb, hlt, hAe⟩ := above_spec h (Array.getElem?_eq_getElem hjs) hA hji
      have h1 := ih e.on (by omega) (by omega) hAe
      cases hl : listed.getD j false with
      | false => rfl
      | true => have := hc j _ (Array.getElem?_eq_getElem hjs) hl e he hb; rw [h1] at this; cases this
theorem above_ready {A : Array Bool} {i j : Nat} {listed : Array Bool} (h : aboveOK md ops A i = true) (hc : Closed md ops listed) (hi : listed.getD i false = false) (hj : j ∈ Region.ready md ops listed) (hji : j ≠ i) : A.getD j false = false := by
  obtain ⟨_, oj, hoj, hall⟩ := mem_ready.1 hj
  cases hA : A.getD j false with
  | false => rfl
  | true =>
    obtain ⟨e, he, hb, hlt, hAe⟩ := above_spec h hoj hA hji
    have hjs := (Array.getElem?_eq_some_iff.1 hoj).1
    have h1 := above_unlisted h hc hi e.on e.on (Nat.le_refl _) (by omega) hAe
    have h2 := hall e he hb
    rw [h1] at h2
    cases h2

/-- Behind every late one. -/
def lateAbove (late : List Nat) (A : Array Bool) (i n : Nat) : Bool := late.all fun k => (k != i) && (decide (k < n) && A.getD k false)
theorem ready_unlisted {i : Nat} {listed : Array Bool} (h : i ∈ Region.ready md ops listed) : listed.getD i false = false := by
  have := (mem_ready.1 h).1
  rcases Nat.lt_or_ge i listed.size with h' | h'
  · simpa [h'] using this
  · simp [Array.getElem?_eq_none h']

theorem anyHT_first {i : Nat} {oi : Oper} {v : Value} {A : Array Bool} (hi : ops[i]? = some oi) (hA : aboveOK md ops A i = true) (hl : lateAbove late A i ops.size = true)
    (hsel : ∀ (j : Nat) (o : Oper) cs b, ops[j]? = some o → o.op ≠ .select cs b) (hQ : ∀ c a w, Q (.panic c) (a.put oi.dst v) w → Q (.panic c) a w) :
    ∀ (fuel : Nat) (listed : Array Bool) (a : Act) (w : World),
      (∀ j oj, ops[j]? = some oj → j ≠ i → listed.getD j true = false → (∀ e ∈ oj.after, Region.binds md e = true → e.on ≠ i) → oi.apart ops oj = true) →
      i ∈ Region.ready md ops listed → Closed md ops listed → YieldsIf P ops S oi v a → S w →
      anyHT P md ops Q S late fuel (listed.setIfInBounds i true) (a.put oi.dst v) w → anyHT P md ops Q S late (fuel + 1) listed a w := by
  have hl' : ∀ k ∈ late, k ≠ i ∧ k < ops.size ∧ A.getD k false = true := fun k hk => by
    have := List.all_eq_true.1 hl k hk
    simpa using this
  intro fuel
  induction fuel with
  | zero =>
    intro listed a w _ hr _ hy hS H
    refine ⟨fun h => (by rw [h] at hr; cases hr), fun j hj => ?_⟩
    by_cases hji : j = i
    · subst hji; exact hy.wpOp hi hS ⟨fun _ => hS, H⟩
    · have := ready_mono hj hji
      rw [H.1] at this
      cases this
  | succ fuel ih =>
    intro listed a w hfree hr hcl hy hS H
    refine ⟨fun h => (by rw [h] at hr; cases hr), fun j hj => ?_⟩
    by_cases hji : j = i
    · subst hji; exact hy.wpOp hi hS ⟨fun _ => hS, H⟩
    · have h1 := H.2 j (ready_mono hj hji)
      obtain ⟨hjun, oj, hoj, hall⟩ := mem_ready.1 hj
      have hiun := ready_unlisted hr
      have hnot : ∀ e ∈ oj.after, Region.binds md e = true → e.on ≠ i := fun e he hb heq => by
        have h1 := hall e he hb
        rw [heq, hiun] at h1
        cases h1
      have hAj := above_ready hA hcl hiun hj hji
      have hearly : early late ((listed.setIfInBounds i true).setIfInBounds j true) = true := by
        rw [early_iff]
        intro k hk
        obtain ⟨hki, hks, hAk⟩ := hl' k hk
        have hkj : j ≠ k := by intro e; subst e; rw [hAj] at hAk; cases hAk
        rw [getD_set_ne false hkj, getD_set_ne false (Ne.symm hki)]
        exact above_unlisted hA hcl hiun k k (Nat.le_refl _) hks hAk
      have h2 := wpOp_putIf hoj (hfree j oj hoj hji hjun hnot) (fun cs b => hsel i oi cs b hi) (fun cs b => hsel j oj cs b hoj) hQ hy h1
      have hfree' : ∀ k ok, ops[k]? = some ok → k ≠ i → (listed.setIfInBounds j true).getD k true = false →
          (∀ e ∈ ok.after, Region.binds md e = true → e.on ≠ i) → oi.apart ops ok = true := fun k ok hk hki hun hno => by
        refine hfree k ok hk hki ?_ hno
        by_cases hjk : j = k
        · subst hjk; exact hjun
        · rw [getD_set_ne true hjk] at hun; exact hun
      refine wpOp_mono (fun a' w' h3 => ⟨fun _ => h3.2.1 hearly, ih (listed.setIfInBounds j true) a' w' hfree' (ready_mono hr (Ne.symm hji)) (hcl.set hj) h3.1 (h3.2.1 hearly) ?_⟩) h2
      rw [Array.setIfInBounds_comm _ _ hji]
      exact h3.2.2
/-- An operation that yields in whatever world. -/
theorem anyHT_pure {i : Nat} {oi : Oper} {v : Value} (hi : ops[i]? = some oi) (hil : late.contains i = false)
    (hsel : ∀ (j : Nat) (o : Oper) cs b, ops[j]? = some o → o.op ≠ .select cs b) (hQ : ∀ c a w, Q (.panic c) (a.put oi.dst v) w → Q (.panic c) a w) :
    ∀ (fuel : Nat) (listed : Array Bool) (a : Act) (w : World),
      (∀ j oj, ops[j]? = some oj → j ≠ i → listed.getD j true = false → (∀ e ∈ oj.after, Region.binds md e = true → e.on ≠ i) → oi.apart ops oj = true) →
      i ∈ Region.ready md ops listed → YieldsIf P ops (fun _ => True) oi v a → (early late listed = true → S w) →
      anyHT P md ops Q S late fuel (listed.setIfInBounds i true) (a.put oi.dst v) w → anyHT P md ops Q S late (fuel + 1) listed a w := by
  intro fuel
  induction fuel with
  | zero =>
    intro listed a w _ hr hy hS H
    refine ⟨fun h => (by rw [h] at hr; cases hr), fun j hj => ?_⟩
    by_cases hji : j = i
    · subst hji; exact hy.wpOp hi trivial ⟨fun he => hS (early_before he), H⟩
    · have := ready_mono hj hji
      rw [H.1] at this
      cases this
  | succ fuel ih =>
    intro listed a w hfree hr hy hS H
    refine ⟨fun h => (by rw [h] at hr; cases hr), fun j hj => ?_⟩
    by_cases hji : j = i
    · subst hji; exact hy.wpOp hi trivial ⟨fun he => hS (early_before he), H⟩
    · have h1 := H.2 j (ready_mono hj hji)
      obtain ⟨hjun, oj, hoj, hall⟩ := mem_ready.1 hj
      have hiun := ready_unlisted hr
      have hnot : ∀ e ∈ oj.after, Region.binds md e = true → e.on ≠ i := fun e he hb heq => by
        have h1 := hall e he hb
        rw [heq, hiun] at h1
        cases h1
      have h2 := wpOp_putIf hoj (hfree j oj hoj hji hjun hnot) (fun cs b => hsel i oi cs b hi) (fun cs b => hsel j oj cs b hoj) hQ hy h1
      have hfree' : ∀ k ok, ops[k]? = some ok → k ≠ i → (listed.setIfInBounds j true).getD k true = false →
          (∀ e ∈ ok.after, Region.binds md e = true → e.on ≠ i) → oi.apart ops ok = true := fun k ok hk hki hun hno => by
        refine hfree k ok hk hki ?_ hno
        by_cases hjk : j = k
        · subst hjk; exact hjun
        · rw [getD_set_ne true hjk] at hun; exact hun
      have hS' : ∀ w', (early late ((listed.setIfInBounds i true).setIfInBounds j true) = true → S w') → early late (listed.setIfInBounds j true) = true → S w' := fun w' h he => by
        refine h ?_
        rw [← Array.setIfInBounds_comm _ _ hji]
        exact early_set hil he
      refine wpOp_mono (fun a' w' h3 => ⟨hS' w' h3.2.1, ih (listed.setIfInBounds j true) a' w' hfree' (ready_mono hr (Ne.symm hji)) h3.1 (hS' w' h3.2.1) ?_⟩) h2
      rw [Array.setIfInBounds_comm _ _ hji]
      exact h3.2.2

theorem anyHT_take {i : Nat} {oi : Oper} {v : Value} {fuel : Nat} {listed : Array Bool} {a : Act} {w : World} (hi : ops[i]? = some oi) (hA : aboveOK md ops (above md ops i) i = true) (hl : lateAbove late (above md ops i) i ops.size = true) (hc : closedB md ops listed = true)
    (hs : Region.noSelect ops = true) (hf : Region.free md ops listed i = true) (hr : (Region.ready md ops listed).contains i = true)
    (hQ : ∀ c a w, Q (.panic c) (a.put oi.dst v) w → Q (.panic c) a w) (hy : YieldsIf P ops S oi v a) (hS : S w)
    (h : anyHT P md ops Q S late fuel (listed.setIfInBounds i true) (a.put oi.dst v) w) : anyHT P md ops Q S late (fuel + 1) listed a w :=
  anyHT_first hi hA hl (Region.noSelect_spec hs) hQ fuel listed a w (Region.free_spec hi hf) (by simpa using hr) (closed_spec hc) hy hS h
theorem early_no {X : Prop} {listed : Array Bool} (h : early late listed = false) : early late listed = true → X := fun h1 => by rw [h] at h1; cases h1
theorem anyHT_any {i : Nat} {oi : Oper} {v : Value} {fuel : Nat} {listed : Array Bool} {a : Act} {w : World} (hi : ops[i]? = some oi) (hil : late.contains i = false)
    (hs : Region.noSelect ops = true) (hf : Region.free md ops listed i = true) (hr : (Region.ready md ops listed).contains i = true)
    (hQ : ∀ c a w, Q (.panic c) (a.put oi.dst v) w → Q (.panic c) a w) (hy : YieldsIf P ops (fun _ => True) oi v a) (hS : early late listed = true → S w)
    (h : anyHT P md ops Q S late fuel (listed.setIfInBounds i true) (a.put oi.dst v) w) : anyHT P md ops Q S late (fuel + 1) listed a w :=
  anyHT_pure hi hil (Region.noSelect_spec hs) hQ fuel listed a w (Region.free_spec hi hf) (by simpa using hr) hy hS h
/-- The one that alone may come up. -/
theorem anyHT_one {i : Nat} {o : Oper} {fuel : Nat} {listed : Array Bool} {a : Act} {w : World} (hr : Region.ready md ops listed = [i]) (ho : ops[i]? = some o)
    (h : ∀ K' : Act → World → Prop, Shut (∀ a w, S w → (S w → anyHT P md ops Q S late fuel (listed.setIfInBounds i true) a w) → K' a w) → if Region.wanted o (yielded ops a.tmps) = true then Oper.wp P o a w K' Q else K' (a.put o.dst undef) w) :
    anyHT P md ops Q S late (fuel + 1) listed a w :=
  ⟨fun h0 => absurd (hr.symm.trans h0) (by simp), fun j hj => by
    rw [hr] at hj
    obtain rfl : j = i := by simpa using hj
    exact wpOp_step ho (fun K' hK => h K' (fun a w hS hW => hK a w ⟨fun _ => hS, hW hS⟩))⟩
/-- A late one that alone may come up. -/
theorem anyHT_late {i : Nat} {o : Oper} {fuel : Nat} {listed : Array Bool} {a : Act} {w : World} (hr : Region.ready md ops listed = [i]) (ho : ops[i]? = some o) (he : early late (listed.setIfInBounds i true) = false)
    (h : ∀ K' : Act → World → Prop, Shut (∀ a w, anyHT P md ops Q S late fuel (listed.setIfInBounds i true) a w → K' a w) → if Region.wanted o (yielded ops a.tmps) = true then Oper.wp P o a w K' Q else K' (a.put o.dst undef) w) :
    anyHT P md ops Q S late (fuel + 1) listed a w :=
  ⟨fun h0 => absurd (hr.symm.trans h0) (by simp), fun j hj => by
    rw [hr] at hj
    obtain rfl : j = i := by simpa using hj
    exact wpOp_step ho (fun K' hK => h K' (fun a w hW => hK a w ⟨fun h1 => (by rw [he] at h1; cases h1), hW⟩))⟩
theorem anyHT_done {listed : Array Bool} {a : Act} {w : World} (hr : Region.ready md ops listed = []) (h : Q .normal a w) : ∀ fuel, anyHT P md ops Q S late fuel listed a w
  | 0 => ⟨hr, h⟩
  | _ + 1 => ⟨fun _ => h, by rw [hr]; simp⟩
theorem wp_region_heldT {id : Nat} {a : Act} {w : World} (late : List Nat) (hm : P.follows .mixedOrders = true) (hS : S w.drew)
    (h : S w.drew → anyHT P .any ops Q S late ops.size (Array.replicate ops.size false) a w.drew) : (Code.region id ops true).wp P Q a w :=
  wp_region_any hm (wpAny_of_HT _ _ _ _ (h hS))
end
end Go.Proofs.Ytkooehejdfaekaa
