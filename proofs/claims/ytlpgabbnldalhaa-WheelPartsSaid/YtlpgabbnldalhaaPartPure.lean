/-
  Alarms set in any order, told by Ticks 4096 apart: plainly. Nothing of the program.
-/
import Derived.Test.YtlpgabbnldalhaaWhFace
import Derived.Test.YtlpgabbnldalhaaWhlPure
import Derived.Test.YtlpgabbnldalhaaWhOpen
import Derived.Test.YtlpgabbnldalhaaWhPlain
namespace Go.Proofs.Ytlpgabbnldalhaa
set_option maxRecDepth 10000
set_option linter.unusedSimpArgs false
set_option linter.unusedVariables false

/-- Just the ids of which p holds, each at its place's instant. -/
def HasW (l : List Int) (p : Int → Prop) (L : AL) : Prop := okW L ∧ ∀ e, (p e → atW e L = some (e, l.getD e.toNat 0)) ∧ (¬ p e → atW e L = none)
theorem HasW.nil (l : List Int) : HasW l (fun _ => False) [] := ⟨.nil, fun e => ⟨fun h => h.elim, fun _ => rfl⟩⟩
theorem HasW.congr {l : List Int} {p q : Int → Prop} {L : AL} (h : HasW l p L) (hpq : ∀ e, p e ↔ q e) : HasW l q L := ⟨h.1, fun e => ⟨fun x => (h.2 e).1 ((hpq e).2 x), fun x => (h.2 e).2 (fun y => x ((hpq e).1 y))⟩⟩
theorem HasW.set {l : List Int} {p : Int → Prop} {L : AL} (h : HasW l p L) (i : Nat) : HasW l (fun e => e = (i : Int) ∨ p e) (setW (i : Int) (l.getD i 0) L) := by
  refine ⟨h.1.set _ _, fun e => ⟨fun hp => ?_, fun hp => ?_⟩⟩
  · rw [at_set h.1]
    by_cases he : e = (i : Int)
    · rw [if_pos he, he]; simp
    · rw [if_neg he]
      exact (h.2 e).1 (hp.resolve_left he)
  · rw [at_set h.1, if_neg (fun he => hp (.inl he))]
    exact (h.2 e).2 (fun x => hp (.inr x))
theorem HasW.one {l : List Int} {p : Int → Prop} {L M : AL} (h : HasW l p L) (k : HasW l p M) : L = M := by
  refine h.1.ext_at k.1 (fun e => ?_)
  by_cases hp : p e
  · rw [(h.2 e).1 hp, (k.2 e).1 hp]
  · rw [(h.2 e).2 hp, (k.2 e).2 hp]
theorem HasW.mem {l : List Int} {p : Int → Prop} {L : AL} (h : HasW l p L) {a : Int × Int} (ha : a ∈ L) : p a.1 ∧ a.2 = l.getD a.1.toNat 0 := by
  have h1 := h.1.mem_at.1 ha
  by_cases hp : p a.1
  · have h2 := (h.2 a.1).1 hp
    rw [h1] at h2
    injection h2 with h2
    exact ⟨hp, by rw [h2]⟩
  · rw [(h.2 a.1).2 hp] at h1
    cases h1
theorem setW_le (id at_ : Int) (L : AL) : (setW id at_ L).length ≤ L.length + 1 := by
  rw [set_length]
  have := stopW_le id L
  omega
/-- What is left when s Ticks have been, at 0, 4096, .. -/
def restW : Nat → AL → AL
  | 0, L => L
  | s + 1, L => leftW (4096 * (s : Int)) L
def clockW : Nat → Int
  | 0 => 0
  | s + 1 => 4096 * (s : Int)
theorem rest_tick (s : Nat) (L : AL) : leftW (4096 * (s : Int)) (restW s L) = restW (s + 1) L := by
  cases s with
  | zero => rfl
  | succ s => exact left_left (by omega) L
theorem clock_le (s : Nat) : clockW s ≤ 4096 * (s : Int) ∧ 0 ≤ clockW s := by
  cases s with
  | zero => exact ⟨by show (0 : Int) ≤ 4096 * ((0 : Nat) : Int); omega, Int.le_refl _⟩
  | succ s => exact ⟨by show 4096 * (s : Int) ≤ 4096 * ((s + 1 : Nat) : Int); omega, by show 0 ≤ 4096 * (s : Int); omega⟩
theorem restW_le (s : Nat) (L : AL) : (restW s L).length ≤ L.length := by
  cases s with
  | zero => exact Nat.le_refl _
  | succ s => exact leftW_le _ _
theorem okW.rest {L : AL} (h : okW L) (s : Nat) : okW (restW s L) := by
  cases s with
  | zero => exact h
  | succ s => exact h.left _
theorem mem_rest {L : AL} (h : sortW L) (s : Nat) (a : Int × Int) : a ∈ restW s L ↔ a ∈ L ∧ (s = 0 ∨ clockW s < a.2) := by
  cases s with
  | zero => simp [restW]
  | succ s =>
    show a ∈ leftW (4096 * (s : Int)) L ↔ a ∈ L ∧ (s + 1 = 0 ∨ 4096 * (s : Int) < a.2)
    rw [mem_left h]
    constructor
    · rintro ⟨h1, h2⟩; exact ⟨h1, .inr h2⟩
    · rintro ⟨h1, h2 | h2⟩
      · omega
      · exact ⟨h1, h2⟩
theorem bad_no {s : Nat} (hs : s ≤ 16) : badT (clockW s) (4096 * (s : Int)) = false := by
  have := clock_le s
  refine decide_eq_false ?_
  unfold bigW
  omega
/-- The Ticks' facts, at step s. -/
theorem tick_at {s : Nat} (hs : s ≤ 16) (L : AL) : tickC (clockW s) (4096 * (s : Int)) = clockW (s + 1) ∧ tickE (clockW s) (4096 * (s : Int)) = 0 ∧ tickA (clockW s) (4096 * (s : Int)) (restW s L) = restW (s + 1) L ∧ tickL (clockW s) (4096 * (s : Int)) (restW s L) = (dueW (4096 * (s : Int)) (restW s L)).map Prod.fst := by
  have hb := bad_no hs
  unfold tickC tickE tickA tickL
  rw [hb]
  exact ⟨rfl, rfl, rest_tick s L, rfl⟩
theorem rest_all {L : AL} (h : sortW L) (hL : ∀ a, a ∈ L → a.2 < 65536) : restW 17 L = [] := by
  have e : restW 17 L = leftW (4096 * ((16 : Nat) : Int)) L := rfl
  rw [e, List.eq_nil_iff_forall_not_mem]
  intro a ha
  have := (mem_left h).1 ha
  have := hL a this.1
  omega
/-- The alarm set again is told at the Tick at or behind its instant, and nowhere else; else the same is told. -/
theorem again_at {L : AL} (h : okW L) (id again : Int) (s : Nat) : (id ∈ (dueW (4096 * (s : Int)) (restW s (setW id again L))).map Prod.fst ↔ again ≤ 4096 * (s : Int) ∧ (s = 0 ∨ clockW s < again)) ∧
    (id ∉ (dueW (4096 * (s : Int)) (restW s (setW id again L))).map Prod.fst → (dueW (4096 * (s : Int)) (restW s (setW id again L))).length = (dueW (4096 * (s : Int)) (restW s (stopW id L))).length) := by
  have hC := h.set id again
  have hA := h.stop id
  have hm : ∀ a, a ∈ dueW (4096 * (s : Int)) (restW s (setW id again L)) ↔ (a = (id, again) ∨ (a ∈ L ∧ a.1 ≠ id)) ∧ (s = 0 ∨ clockW s < a.2) ∧ a.2 ≤ 4096 * (s : Int) := fun a => by
    rw [mem_due (hC.rest s).sort, mem_rest hC.sort, mem_set, and_assoc]
  have hma : ∀ a, a ∈ dueW (4096 * (s : Int)) (restW s (stopW id L)) ↔ (a ∈ L ∧ a.1 ≠ id) ∧ (s = 0 ∨ clockW s < a.2) ∧ a.2 ≤ 4096 * (s : Int) := fun a => by
    rw [mem_due (hA.rest s).sort, mem_rest hA.sort, mem_stop, and_assoc]
  constructor
  · rw [List.mem_map]
    constructor
    · rintro ⟨a, ha, e⟩
      obtain ⟨h1 | h1, h2, h3⟩ := (hm a).1 ha
      · subst h1; exact ⟨h3, h2⟩
      · exact absurd e h1.2
    · rintro ⟨h3, h2⟩
      exact ⟨(id, again), (hm _).2 ⟨.inl rfl, h2, h3⟩, rfl⟩
  · intro hno
    have : dueW (4096 * (s : Int)) (restW s (setW id again L)) = dueW (4096 * (s : Int)) (restW s (stopW id L)) := by
      refine ((hC.rest s).due _).ext ((hA.rest s).due _) (fun a => ?_)
      rw [hm, hma]
      constructor
      · rintro ⟨h1 | h1, h2, h3⟩
        · subst h1
          exact absurd (List.mem_map.2 ⟨(id, again), (hm _).2 ⟨.inl rfl, h2, h3⟩, rfl⟩) hno
        · exact ⟨h1, h2, h3⟩
      · rintro ⟨h1, h2, h3⟩; exact ⟨.inr h1, h2, h3⟩
    rw [this]
theorem RdN.index_u16u {w : World} {A : Option Addr} {n c : Nat} {l : List Int} (h : RdN w .u16 A l) (hn : l.length = n) {j : Nat} (hj : j < n) :
    ∃ b p : Nat, (∀ W : World, (Instr.indexAt 50 (.slice A n c) (.int .u64 (j : Int))).run Try.prog W = .ok (.pointer (some ⟨b, p, none⟩)) W) ∧ b < w.heap.size ∧ w.cell? ⟨b, p, none⟩ = some (.int .u16 (l.getD j 0)) := by
  obtain ⟨b, o, rfl, hb, hc⟩ := h.at_ (by omega)
  have k0 : (0 : Int) ≤ (j : Int) := by omega
  have k1 : (j : Int) < (n : Int) := by omega
  exact ⟨b, o + j, fun W => by go_simp, hb, hc j (by omega)⟩

theorem HasW.left {l : List Int} {p : Int → Prop} {L : AL} (h : HasW l p L) (t : Int) : HasW l (fun e => p e ∧ t < l.getD e.toNat 0) (leftW t L) := by
  have hok := h.1.left t
  refine ⟨hok, fun e => ⟨fun hp => ?_, fun hp => ?_⟩⟩
  · have h1 := (h.1.mem_at (a := (e, l.getD e.toNat 0))).2 ((h.2 e).1 hp.1)
    exact (hok.mem_at (a := (e, l.getD e.toNat 0))).1 ((mem_left h.1.sort).2 ⟨h1, hp.2⟩)
  · rw [at_none]
    intro a ha he
    obtain ⟨h1, h2⟩ := (mem_left h.1.sort).1 ha
    obtain ⟨h3, h4⟩ := h.mem h1
    rw [he] at h3 h4
    exact hp ⟨h3, by rw [← h4]; exact h2⟩
theorem HasW.set_len {l : List Int} {p : Int → Prop} {L : AL} (h : HasW l p L) {i at_ : Int} (hi : ¬ p i) : (setW i at_ L).length = L.length + 1 := by
  rw [set_length, stop_self (fun a ha e => hi (by have := (h.mem ha).1; rwa [e] at this))]
theorem due_len (t : Int) (L : AL) : (dueW t L).length + (leftW t L).length = L.length := by
  have := congrArg List.length (due_left t L)
  rwa [List.length_append] at this
theorem due_every {L : AL} {t : Int} (h : ∀ a, a ∈ L → a.2 ≤ t) : dueW t L = L := by
  unfold dueW
  induction L with
  | nil => rfl
  | cons a L ih =>
    have h1 := h a (.head _)
    rw [List.takeWhile_cons_of_pos (by simpa using h1), ih (fun b hb => h b (.tail _ hb))]
theorem fst_stop (id : Int) (L : AL) : (L.map Prod.fst).filter (fun x => !decide (x = id)) = (stopW id L).map Prod.fst := by
  unfold stopW
  rw [List.filter_map]
  rfl
theorem next_left {L : AL} (h : sortW L) {t y : Int} (hx : nextW (leftW t L) = (y, true)) : t < y := by
  cases hl : leftW t L with
  | nil => rw [hl] at hx; injection hx with _ h2; cases h2
  | cons a M =>
    rw [hl] at hx
    injection hx with h1 _
    have := ((mem_left h).1 (show a ∈ leftW t L by rw [hl]; exact .head _)).2
    rw [← h1]
    exact this
theorem filter_snoc {p : Int → Bool} (l : List Int) {j : Nat} (hj : j < l.length) : (l.take (j + 1)).filter p = (l.take j).filter p ++ (if p (l.getD j 0) = true then [l.getD j 0] else []) := by
  rw [List.take_succ_eq_append_getElem hj, List.filter_append]
  have e : l[j] = l.getD j 0 := by simp [List.getD, List.getElem?_eq_getElem hj]
  rw [e]
  congr 1
  generalize List.getD l j 0 = x
  cases h : p x <;> simp [h]
end Go.Proofs.Ytlpgabbnldalhaa
