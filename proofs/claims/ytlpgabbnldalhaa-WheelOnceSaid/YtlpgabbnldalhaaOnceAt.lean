/-
  What the walk of WheelOnce knows between two steps: two wheels, the law's own map of instants, what was told; what was seen. Steps of it.
-/
import Derived.Test.YtlpgabbnldalhaaWhAt
import Derived.Test.YtlpgabbnldalhaaWhFace
import Derived.Test.YtlpgabbnldalhaaWhlPure
import Derived.Test.YtlpgabbnldalhaaWhOpen
import Derived.Test.YtlpgabbnldalhaaWhPlain
import Derived.Test.YtlpgabbnldalhaaMapU
namespace Go.Proofs.Ytlpgabbnldalhaa
set_option maxRecDepth 10000
open Go.RowKit
open Go.ChangeMaps (setBlock)
set_option linter.unusedSimpArgs false
set_option linter.unusedVariables false

/-- Just the ids of which p holds, each at its place's instant. -/
def HasW (l : List Int) (p : Int → Prop) (L : AL) : Prop := okW L ∧ ∀ e, (p e → atW e L = some (e, l.getD e.toNat 0)) ∧ (¬ p e → atW e L = none)
theorem HasW.nil (l : List Int) : HasW l (fun _ => False) [] := ⟨.nil, fun e => ⟨fun h => h.elim, fun _ => rfl⟩⟩
theorem HasW.congr {l : List Int} {p q : Int → Prop} {L : AL} (h : HasW l p L) (hpq : ∀ e, p e ↔ q e) : HasW l q L := ⟨h.1, fun e => ⟨fun x => (h.2 e).1 ((hpq e).2 x), fun x => (h.2 e).2 (fun y => x ((hpq e).1 y))⟩⟩
theorem HasW.set {l : List Int} {p : Int → Prop} {L : AL} (h : HasW l p L) (i : Nat) : HasW l (fun e => e = (i : Int) ∨ p e) (setW (i : Int) (l.getD i 0) L) := by
  refine ⟨h.1.set _ _, fun e => ⟨fun hp => ?_, fun hp => ?_⟩⟩
  · rw [at_set h.1]
    by_cases he : e = (i : Int)
    · rw [if_pos he, he]; simp
    · rw [if_neg he]
      exact (h.2 e).1 (hp.resolve_left he)
  · rw [at_set h.1, if_neg (fun he => hp (.inl he))]
    exact (h.2 e).2 (fun x => hp (.inr x))
theorem HasW.one {l : List Int} {p : Int → Prop} {L M : AL} (h : HasW l p L) (k : HasW l p M) : L = M := by
  refine h.1.ext_at k.1 (fun e => ?_)
  by_cases hp : p e
  · rw [(h.2 e).1 hp, (k.2 e).1 hp]
  · rw [(h.2 e).2 hp, (k.2 e).2 hp]
theorem HasW.mem {l : List Int} {p : Int → Prop} {L : AL} (h : HasW l p L) {a : Int × Int} (ha : a ∈ L) : p a.1 ∧ a.2 = l.getD a.1.toNat 0 := by
  have h1 := h.1.mem_at.1 ha
  by_cases hp : p a.1
  · have h2 := (h.2 a.1).1 hp
    rw [h1] at h2
    injection h2 with h2
    exact ⟨hp, by rw [h2]⟩
  · rw [(h.2 a.1).2 hp] at h1
    cases h1
theorem setW_le (id at_ : Int) (L : AL) : (setW id at_ L).length ≤ L.length + 1 := by
  rw [set_length]
  have := stopW_le id L
  omega
/-- What is left when s Ticks have been, at 0, 4096, .. -/
def restW : Nat → AL → AL
  | 0, L => L
  | s + 1, L => leftW (4096 * (s : Int)) L
def clockW : Nat → Int
  | 0 => 0
  | s + 1 => 4096 * (s : Int)
theorem rest_tick (s : Nat) (L : AL) : leftW (4096 * (s : Int)) (restW s L) = restW (s + 1) L := by
  cases s with
  | zero => rfl
  | succ s => exact left_left (by omega) L
theorem clock_le (s : Nat) : clockW s ≤ 4096 * (s : Int) ∧ 0 ≤ clockW s := by
  cases s with
  | zero => exact ⟨by show (0 : Int) ≤ 4096 * ((0 : Nat) : Int); omega, Int.le_refl _⟩
  | succ s => exact ⟨by show 4096 * (s : Int) ≤ 4096 * ((s + 1 : Nat) : Int); omega, by show 0 ≤ 4096 * (s : Int); omega⟩
theorem restW_le (s : Nat) (L : AL) : (restW s L).length ≤ L.length := by
  cases s with
  | zero => exact Nat.le_refl _
  | succ s => exact leftW_le _ _
theorem okW.rest {L : AL} (h : okW L) (s : Nat) : okW (restW s L) := by
  cases s with
  | zero => exact h
  | succ s => exact h.left _
theorem mem_rest {L : AL} (h : sortW L) (s : Nat) (a : Int × Int) : a ∈ restW s L ↔ a ∈ L ∧ (s = 0 ∨ clockW s < a.2) := by
  cases s with
  | zero => simp [restW]
  | succ s =>
    show a ∈ leftW (4096 * (s : Int)) L ↔ a ∈ L ∧ (s + 1 = 0 ∨ 4096 * (s : Int) < a.2)
    rw [mem_left h]
    constructor
    · rintro ⟨h1, h2⟩; exact ⟨h1, .inr h2⟩
    · rintro ⟨h1, h2 | h2⟩
      · omega
      · exact ⟨h1, h2⟩
theorem bad_no {s : Nat} (hs : s ≤ 16) : badT (clockW s) (4096 * (s : Int)) = false := by
  have := clock_le s
  refine decide_eq_false ?_
  unfold bigW
  omega
/-- The Ticks' facts, at step s. -/
theorem tick_at {s : Nat} (hs : s ≤ 16) (L : AL) : tickC (clockW s) (4096 * (s : Int)) = clockW (s + 1) ∧ tickE (clockW s) (4096 * (s : Int)) = 0 ∧ tickA (clockW s) (4096 * (s : Int)) (restW s L) = restW (s + 1) L ∧ tickL (clockW s) (4096 * (s : Int)) (restW s L) = (dueW (4096 * (s : Int)) (restW s L)).map Prod.fst := by
  have hb := bad_no hs
  unfold tickC tickE tickA tickL
  rw [hb]
  exact ⟨rfl, rfl, rest_tick s L, rfl⟩
theorem rest_all {L : AL} (h : sortW L) (hL : ∀ a, a ∈ L → a.2 < 65536) : restW 17 L = [] := by
  have e : restW 17 L = leftW (4096 * ((16 : Nat) : Int)) L := rfl
  rw [e, List.eq_nil_iff_forall_not_mem]
  intro a ha
  have := (mem_left h).1 ha
  have := hL a this.1
  omega
/-- The alarm set again is told at the Tick at or behind its instant, and nowhere else; else the same is told. -/
theorem again_at {L : AL} (h : okW L) (id again : Int) (s : Nat) : (id ∈ (dueW (4096 * (s : Int)) (restW s (setW id again L))).map Prod.fst ↔ again ≤ 4096 * (s : Int) ∧ (s = 0 ∨ clockW s < again)) ∧
    (id ∉ (dueW (4096 * (s : Int)) (restW s (setW id again L))).map Prod.fst → (dueW (4096 * (s : Int)) (restW s (setW id again L))).length = (dueW (4096 * (s : Int)) (restW s (stopW id L))).length) := by
  have hC := h.set id again
  have hA := h.stop id
  have hm : ∀ a, a ∈ dueW (4096 * (s : Int)) (restW s (setW id again L)) ↔ (a = (id, again) ∨ (a ∈ L ∧ a.1 ≠ id)) ∧ (s = 0 ∨ clockW s < a.2) ∧ a.2 ≤ 4096 * (s : Int) := fun a => by
    rw [mem_due (hC.rest s).sort, mem_rest hC.sort, mem_set, and_assoc]
  have hma : ∀ a, a ∈ dueW (4096 * (s : Int)) (restW s (stopW id L)) ↔ (a ∈ L ∧ a.1 ≠ id) ∧ (s = 0 ∨ clockW s < a.2) ∧ a.2 ≤ 4096 * (s : Int) := fun a => by
    rw [mem_due (hA.rest s).sort, mem_rest hA.sort, mem_stop, and_assoc]
  constructor
  · rw [List.mem_map]
    constructor
    · rintro ⟨a, ha, e⟩
      obtain ⟨h1 | h1, h2, h3⟩ := (hm a).1 ha
      · subst h1; exact ⟨h3, h2⟩
      · exact absurd e h1.2
    · rintro ⟨h3, h2⟩
      exact ⟨(id, again), (hm _).2 ⟨.inl rfl, h2, h3⟩, rfl⟩
  · intro hno
    have : dueW (4096 * (s : Int)) (restW s (setW id again L)) = dueW (4096 * (s : Int)) (restW s (stopW id L)) := by
      refine ((hC.rest s).due _).ext ((hA.rest s).due _) (fun a => ?_)
      rw [hm, hma]
      constructor
      · rintro ⟨h1 | h1, h2, h3⟩
        · subst h1
          exact absurd (List.mem_map.2 ⟨(id, again), (hm _).2 ⟨.inl rfl, h2, h3⟩, rfl⟩) hno
        · exact ⟨h1, h2, h3⟩
      · rintro ⟨h1, h2, h3⟩; exact ⟨.inr h1, h2, h3⟩
    rw [this]
theorem RdN.index_u16u {w : World} {A : Option Addr} {n c : Nat} {l : List Int} (h : RdN w .u16 A l) (hn : l.length = n) {j : Nat} (hj : j < n) :
    ∃ b p : Nat, (∀ W : World, (Instr.indexAt 50 (.slice A n c) (.int .u64 (j : Int))).run Try.prog W = .ok (.pointer (some ⟨b, p, none⟩)) W) ∧ b < w.heap.size ∧ w.cell? ⟨b, p, none⟩ = some (.int .u16 (l.getD j 0)) := by
  obtain ⟨b, o, rfl, hb, hc⟩ := h.at_ (by omega)
  have k0 : (0 : Int) ≤ (j : Int) := by omega
  have k1 : (j : Int) < (n : Int) := by omega
  exact ⟨b, o + j, fun W => by go_simp, hb, hc j (by omega)⟩

theorem HasW.left {l : List Int} {p : Int → Prop} {L : AL} (h : HasW l p L) (t : Int) : HasW l (fun e => p e ∧ t < l.getD e.toNat 0) (leftW t L) := by
  have hok := h.1.left t
  refine ⟨hok, fun e => ⟨fun hp => ?_, fun hp => ?_⟩⟩
  · have h1 := (h.1.mem_at (a := (e, l.getD e.toNat 0))).2 ((h.2 e).1 hp.1)
    exact (hok.mem_at (a := (e, l.getD e.toNat 0))).1 ((mem_left h.1.sort).2 ⟨h1, hp.2⟩)
  · rw [at_none]
    intro a ha he
    obtain ⟨h1, h2⟩ := (mem_left h.1.sort).1 ha
    obtain ⟨h3, h4⟩ := h.mem h1
    rw [he] at h3 h4
    exact hp ⟨h3, by rw [← h4]; exact h2⟩
theorem HasW.set_len {l : List Int} {p : Int → Prop} {L : AL} (h : HasW l p L) {i at_ : Int} (hi : ¬ p i) : (setW i at_ L).length = L.length + 1 := by
  rw [set_length, stop_self (fun a ha e => hi (by have := (h.mem ha).1; rwa [e] at this))]
theorem due_len (t : Int) (L : AL) : (dueW t L).length + (leftW t L).length = L.length := by
  have := congrArg List.length (due_left t L)
  rwa [List.length_append] at this
theorem due_every {L : AL} {t : Int} (h : ∀ a, a ∈ L → a.2 ≤ t) : dueW t L = L := by
  unfold dueW
  induction L with
  | nil => rfl
  | cons a L ih =>
    have h1 := h a (.head _)
    rw [List.takeWhile_cons_of_pos (by simpa using h1), ih (fun b hb => h b (.tail _ hb))]
theorem fst_stop (id : Int) (L : AL) : (L.map Prod.fst).filter (fun x => !decide (x = id)) = (stopW id L).map Prod.fst := by
  unfold stopW
  rw [List.filter_map]
  rfl
theorem next_left {L : AL} (h : sortW L) {t y : Int} (hx : nextW (leftW t L) = (y, true)) : t < y := by
  cases hl : leftW t L with
  | nil => rw [hl] at hx; injection hx with _ h2; cases h2
  | cons a M =>
    rw [hl] at hx
    injection hx with h1 _
    have := ((mem_left h).1 (show a ∈ leftW t L by rw [hl]; exact .head _)).2
    rw [← h1]
    exact this
theorem filter_snoc {p : Int → Bool} (l : List Int) {j : Nat} (hj : j < l.length) : (l.take (j + 1)).filter p = (l.take j).filter p ++ (if p (l.getD j 0) = true then [l.getD j 0] else []) := by
  rw [List.take_succ_eq_append_getElem hj, List.filter_append]
  have e : l[j] = l.getD j 0 := by simp [List.getD, List.getElem?_eq_getElem hj]
  rw [e]
  congr 1
  generalize List.getD l j 0 = x
  cases h : p x <;> simp [h]

def keyL (L : AL) : Int → Prop := fun e => (atV e L).2 = true
def valL (L : AL) : Int → Value := fun e => .int .u64 (atV e L).1
theorem atV_set {L : AL} (h : okW L) (id t e : Int) : atV e (setW id t L) = if e = id then (t, true) else atV e L := by
  unfold atV
  rw [at_set h]
  by_cases he : e = id
  · rw [if_pos he, if_pos he]
  · rw [if_neg he, if_neg he]
theorem atV_mem {L : AL} (h : okW L) {a : Int × Int} (ha : a ∈ L) : atV a.1 L = (a.2, true) := by
  unfold atV
  rw [h.mem_at.1 ha]
theorem keyL_iff (L : AL) (e : Int) : keyL L e ↔ e ∈ L.map Prod.fst := by
  unfold keyL atV
  constructor
  · intro h
    cases hx : atW e L with
    | none => rw [hx] at h; cases h
    | some a => obtain ⟨h1, h2⟩ := at_some hx; exact List.mem_map.2 ⟨a, h2, h1⟩
  · intro h
    obtain ⟨a, ha, rfl⟩ := List.mem_map.1 h
    cases hx : atW a.1 L with
    | none => exact absurd rfl (at_none.1 hx a ha)
    | some b => rfl
/-- After i Ticks, the last one at c: what is left, what was told. -/
def remW (i : Nat) (c : Int) (L : AL) : AL := if i = 0 then L else leftW c L
def gotW (i : Nat) (c : Int) (L : AL) : AL := if i = 0 then [] else dueW c L
theorem rem_next {i : Nat} {c d : Int} (h : c ≤ d) (L : AL) : leftW d (remW i c L) = remW (i + 1) d L := by
  unfold remW
  by_cases hi : i = 0
  · rw [if_pos hi, if_neg (by omega)]
  · rw [if_neg hi, if_neg (by omega), left_left h]
theorem got_next {i : Nat} {c d : Int} (h : c ≤ d) (L : AL) : gotW i c L ++ dueW d (remW i c L) = gotW (i + 1) d L := by
  unfold gotW remW
  by_cases hi : i = 0
  · rw [if_pos hi, if_pos hi, if_neg (by omega)]; rfl
  · rw [if_neg hi, if_neg hi, if_neg (by omega), due_due h]
theorem okW.rem {L : AL} (h : okW L) (i : Nat) (c : Int) : okW (remW i c L) := by
  unfold remW
  split
  · exact h
  · exact h.left c
theorem rem_le (i : Nat) (c : Int) (L : AL) : (remW i c L).length ≤ L.length := by
  unfold remW
  split
  · exact Nat.le_refl _
  · exact leftW_le c L
theorem got_rem_len (i : Nat) (c : Int) (L : AL) : (gotW i c L).length + (remW i c L).length = L.length := by
  unfold gotW remW
  by_cases hi : i = 0
  · rw [if_pos hi, if_pos hi]; simp
  · rw [if_neg hi, if_neg hi]; exact due_len c L
theorem mem_rem {L : AL} (h : okW L) {i : Nat} {c : Int} {a : Int × Int} : a ∈ remW i c L ↔ a ∈ L ∧ (i = 0 ∨ c < a.2) := by
  unfold remW
  by_cases hi : i = 0
  · rw [if_pos hi]; simp [hi]
  · rw [if_neg hi, mem_left h.sort]; simp [hi]
theorem mem_got {L : AL} (h : okW L) {i : Nat} {c : Int} {a : Int × Int} : a ∈ gotW i c L ↔ a ∈ L ∧ i ≠ 0 ∧ a.2 ≤ c := by
  unfold gotW
  by_cases hi : i = 0
  · rw [if_pos hi]; simp [hi]
  · rw [if_neg hi, mem_due h.sort]; simp [hi]
theorem nodup_take {l : List Int} (h : l.Nodup) {j : Nat} (hj : j < l.length) : l.getD j 0 ∉ l.take j := by
  intro hm
  obtain ⟨k, hk, e⟩ := List.getElem_of_mem hm
  rw [List.length_take] at hk
  rw [List.getElem_take] at e
  simp only [List.getD, List.getElem?_eq_getElem hj, Option.getD_some] at e
  have := (List.getElem_inj h).1 e
  omega
/-- What one Tick tells: each once, none before its instant, none of an earlier Tick, in order. -/
structure Told1 (L : AL) (i : Nat) (c d : Int) (tl : List Int) (D : AL) : Prop where
  at_ : ∀ j, j < D.length → atV (D.getD j (0, 0)).1 L = ((D.getD j (0, 0)).2, true) ∧ (D.getD j (0, 0)).2 ≤ d ∧ (i = 0 ∨ c < (D.getD j (0, 0)).2) ∧ (D.getD j (0, 0)).1 ∉ tl ++ (D.map Prod.fst).take j
  ord : ∀ j, j + 1 < D.length → befW (D.getD j (0, 0)) (D.getD (j + 1) (0, 0))
theorem told1 {L : AL} (h : okW L) (i : Nat) {c d : Int} (hcd : c ≤ d) : Told1 L i c d ((gotW i c L).map Prod.fst) (dueW d (remW i c L)) := by
  have hR := h.rem i c
  have hD := hR.due d
  have hnx : okW (gotW (i + 1) d L) := by
    unfold gotW
    rw [if_neg (by omega)]
    exact h.due d
  have hids : ((gotW i c L).map Prod.fst ++ (dueW d (remW i c L)).map Prod.fst).Nodup := by
    rw [← List.map_append, got_next hcd]
    exact hnx.ids
  constructor
  · intro j hj
    have hm : (dueW d (remW i c L)).getD j (0, 0) ∈ dueW d (remW i c L) := by
      simp only [List.getD, List.getElem?_eq_getElem hj, Option.getD_some]
      exact List.getElem_mem _
    obtain ⟨h1, h2⟩ := (mem_due hR.sort).1 hm
    obtain ⟨h3, h4⟩ := (mem_rem h).1 h1
    refine ⟨atV_mem h h3, h2, h4, ?_⟩
    have hq := nodup_take hids (j := (gotW i c L).length + j) (by simp; omega)
    have e1 : ((gotW i c L).map Prod.fst ++ (dueW d (remW i c L)).map Prod.fst).take ((gotW i c L).length + j) = (gotW i c L).map Prod.fst ++ ((dueW d (remW i c L)).map Prod.fst).take j := by
      rw [List.take_append, List.length_map, List.take_of_length_le (by simp), Nat.add_sub_cancel_left]
    have e2 : ((gotW i c L).map Prod.fst ++ (dueW d (remW i c L)).map Prod.fst).getD ((gotW i c L).length + j) 0 = ((dueW d (remW i c L)).getD j (0, 0)).1 := by
      simp only [List.getD]
      rw [List.getElem?_append_right (by simp), List.length_map, Nat.add_sub_cancel_left, List.getElem?_map, List.getElem?_eq_getElem hj]
      rfl
    rw [e1, e2] at hq
    exact hq
  · intro j hj
    have hj1 := Nat.lt_of_succ_lt hj
    have := List.pairwise_iff_getElem.1 hD.sort j (j + 1) hj1 hj (by omega)
    simp only [List.getD, List.getElem?_eq_getElem hj, List.getElem?_eq_getElem hj1, Option.getD_some]
    exact this
/-- Two wheels, the map of instants in block b1, what was told. -/
structure OAt (Z : Nat → Prop) (w : World) (b1 : Nat) (ws : WL) (L : AL) (tv : Value) (tl : List Int) (wr : World) : Prop where
  tk : Tks Z w ws wr
  z1 : Z b1 ∧ w.heap.size ≤ b1
  mw : MUP wr b1 (keyL L) (valL L)
  ts : Sl wr 23 .u64 tv tl
  tz : ∀ b, tv.ownBlock = some b → Z b ∧ w.heap.size ≤ b ∧ b ≠ b1
structure OSeen (Z : Nat → Prop) (w : World) (b1 b2 : Nat) (tv : Value) (sl : List Int) (wr : World) : Prop where
  z2 : Z b2 ∧ w.heap.size ≤ b2 ∧ b1 ≠ b2 ∧ tv.ownBlock ≠ some b2
  ms : MUP wr b2 (fun e => e ∈ sl) (fun _ => .int .i64 1)
section
variable {Z Z' : Nat → Prop} {w wr w' : World} {b1 b2 : Nat} {ws ws' : WL} {L : AL} {tv : Value} {tl sl : List Int}
theorem OAt.called (h : OAt Z w b1 ws L tv tl wr) (hm : Many WAtP Z' w' ws') (hb : But (fun k => ¬ Z k) wr w') (hz : ∀ k, Z k → Z' k) : OAt Z' w b1 ws' L tv tl w' :=
  ⟨h.tk.go hm hb hz, ⟨hz _ h.z1.1, h.z1.2⟩, h.mw.but hb (fun x => x h.z1.1), h.ts.but hb (fun b hb' hn => hn (h.tz b hb').1), fun b hb' => by obtain ⟨h1, h2⟩ := h.tz b hb'; exact ⟨hz b h1, h2⟩⟩
theorem OSeen.called (h : OSeen Z w b1 b2 tv sl wr) (hb : But (fun k => ¬ Z k) wr w') (hz : ∀ k, Z k → Z' k) : OSeen Z' w b1 b2 tv sl w' :=
  ⟨⟨hz _ h.z2.1, h.z2.2⟩, h.ms.but hb (fun x => x h.z2.1)⟩
theorem OAt.drewN (h : OAt Z w b1 ws L tv tl wr) (m : Nat) : OAt Z w b1 ws L tv tl (wr.drewN m) :=
  h.called (h.tk.drewN m).m ((But.refl _ _).drewN m) (fun _ x => x)
theorem OSeen.drewN (h : OSeen Z w b1 b2 tv sl wr) (m : Nat) : OSeen Z w b1 b2 tv sl (wr.drewN m) :=
  h.called ((But.refl _ _).drewN m) (fun _ x => x)
/-- What turned lies in Z, behind w. -/
theorem Tks.mine {T : Nat → Prop} (h : Tks Z w ws wr) (hb : But T wr w') (hT : ∀ k, T k → Z k ∧ w.heap.size ≤ k) : Tks Z w ws w' :=
  ⟨h.m.but face hb (fun k hk => .inl (hT k hk).1), h.b.trans (hb.below (fun k hk => (hT k hk).2) h.b.size), h.z⟩
theorem OAt.look (h : OAt Z w b1 ws L tv tl wr) {e t : Int} (he : atV e L = (t, true)) :
    (Instr.lookup 51 (.map (some b1)) (.int .u64 e) true).run Try.prog wr = .ok (.tuple #[.int .u64 t, .bool true]) wr ∧ (Instr.lookup 51 (.map (some b1)) (.int .u64 e) false).run Try.prog wr = .ok (.int .u64 t) wr := by
  have hk : keyL L e := by unfold keyL; rw [he]
  have hv : valL L e = .int .u64 t := by unfold valL; rw [he]
  have h1 := h.mw.lookok_u hk
  have h2 := h.mw.look_u hk
  rw [hv] at h1 h2
  exact ⟨h1, h2⟩
theorem OSeen.yes (h : OSeen Z w b1 b2 tv sl wr) {e : Int} (he : e ∈ sl) : (Instr.lookup 52 (.map (some b2)) (.int .u64 e) false).run Try.prog wr = .ok (.int .i64 1) wr := h.ms.look_i he
theorem OSeen.no (h : OSeen Z w b1 b2 tv sl wr) {e : Int} (he : e ∉ sl) : (Instr.lookup 52 (.map (some b2)) (.int .u64 e) false).run Try.prog wr = .ok (.int .i64 0) wr := h.ms.look_no_i he
theorem OAt.put (h : OAt Z w b1 ws L tv tl wr) (hok : okW L) (id t : Int) :
    ∃ w', (Instr.mapUpdate 51 (.map (some b1)) (.int .u64 id) (.int .u64 t)).run Try.prog wr = .ok () w' ∧ OAt Z w b1 ws (setW id t L) tv tl w' := by
  obtain ⟨w', hr, hm, hb⟩ := h.mw.put_u id (.int .u64 t)
  refine ⟨w', hr, ⟨h.tk.mine hb (fun k hk => by subst hk; exact h.z1), h.z1, hm.congr (fun e => ?_) (fun e he => ?_), h.ts.but hb (fun b hb' => (h.tz b hb').2.2), h.tz⟩⟩
  · unfold keyL
    rw [atV_set hok]
    by_cases he : e = id
    · rw [if_pos he]; simp [he]
    · rw [if_neg he]; simp [he]
  · unfold valL
    rw [atV_set hok]
    by_cases he : e = id
    · rw [if_pos he, if_pos he]
    · rw [if_neg he, if_neg he]
theorem OAt.see (h : OAt Z w b1 ws L tv tl wr) (hs : OSeen Z w b1 b2 tv sl wr) (e : Int) :
    ∃ w', (Instr.mapUpdate 52 (.map (some b2)) (.int .u64 e) (.int .i64 1)).run Try.prog wr = .ok () w' ∧ OAt Z w b1 ws L tv tl w' ∧ OSeen Z w b1 b2 tv (sl ++ [e]) w' ∧ But (fun k => k = b2) wr w' := by
  obtain ⟨w', hr, hm, hb⟩ := hs.ms.put_i e (.int .i64 1)
  refine ⟨w', hr, ⟨h.tk.mine hb (fun k hk => by subst hk; exact ⟨hs.z2.1, hs.z2.2.1⟩), h.z1, h.mw.but hb hs.z2.2.2.1, h.ts.but hb (fun b hb' e => hs.z2.2.2.2 (by rw [hb', e])), h.tz⟩, ⟨hs.z2, hm.congr (fun a => ?_) (fun a _ => ?_)⟩, hb⟩
  · rw [List.mem_append, List.mem_singleton]
    exact Or.comm
  · by_cases ha : a = e
    · rw [if_pos ha]
    · rw [if_neg ha]
theorem OAt.app (h : OAt Z w b1 ws L tv tl wr) (hs : OSeen Z w b1 b2 tv sl wr) {vq : Value} {q : List Int} (hq : Sl wr 23 .u64 vq q) (hl : tl.length + q.length ≤ 1000000) (ty : TypeId) :
    ∃ tv' w' Z', (Builtin.append_ #[37, 37] ty #[tv, vq]).run Try.prog wr = .ok tv' w' ∧ OAt Z' w b1 ws L tv' (tl ++ q) w' ∧ OSeen Z' w b1 b2 tv' sl w' := by
  obtain ⟨tv', w', hr, hsl, hb, hblk, _, _⟩ := sl_app (P := Try.prog) wr 37 ty 23 .u64 8 Try.underlying37 info_u64w (by omega) tv vq tl q h.ts hq (by omega)
  have hT : ∀ k, tv.ownBlock = some k → Z k ∧ w.heap.size ≤ k := fun k hk => ⟨(h.tz k hk).1, (h.tz k hk).2.1⟩
  have h1 := h.mw.lt
  have h2 := hs.ms.lt
  have hws := h.tk.b.size
  refine ⟨tv', w', fun k => Z k ∨ (wr.heap.size ≤ k ∧ k < w'.heap.size), hr, ⟨⟨h.tk.m.more face hb (fun k hk => .inl (hT k hk).1) (fun k hk => ?_), (h.tk.mine hb hT).b, fun k hk => .inl (h.tk.z k hk)⟩, ⟨.inl h.z1.1, h.z1.2⟩, h.mw.but hb (fun e => (h.tz _ e).2.2 rfl), hsl, fun b hb' => ?_⟩, ⟨⟨.inl hs.z2.1, hs.z2.2.1, hs.z2.2.2.1, fun e => ?_⟩, hs.ms.but hb hs.z2.2.2.2⟩⟩
  · rcases hk with hk | hk
    · exact ⟨.inl hk, hb.lt (h.tk.m.1 k hk)⟩
    · exact ⟨.inr hk.1, hk.2⟩
  · have hlt := hsl.lt hb'
    rcases hblk with e | e
    · rw [e] at hb'
      obtain ⟨x1, x2⟩ := h.tz b hb'
      exact ⟨.inl x1, x2⟩
    · rw [e] at hb'
      injection hb' with hb'
      exact ⟨.inr ⟨by omega, hlt⟩, by omega, by omega⟩
  · rcases hblk with e' | e'
    · rw [e'] at e; exact hs.z2.2.2.2 e
    · rw [e'] at e
      injection e with e
      omega
end
theorem atV_in {L : AL} {e t : Int} (h : atV e L = (t, true)) : (e, t) ∈ L := by
  unfold atV at h
  cases hx : atW e L with
  | none => rw [hx] at h; injection h with _ h; cases h
  | some a =>
    rw [hx] at h
    injection h with h _
    obtain ⟨h1, h2⟩ := at_some hx
    subst h; subst h1
    exact h2
/-- An alarm at the end: told, at or ahead of the clock, gone; or not told, behind it, there. -/
theorem once_entry {L : AL} (hok : okW L) {e t : Int} (h : atV e L = (t, true)) (j : Nat) (c : Int) :
    (e ∈ (gotW j c L).map Prod.fst ∧ j ≠ 0 ∧ t ≤ c ∧ atV e (remW j c L) = (0, false)) ∨ (e ∉ (gotW j c L).map Prod.fst ∧ (j = 0 ∨ c < t) ∧ atV e (remW j c L) = (t, true)) := by
  have hm := atV_in h
  have one : ∀ a, a ∈ L → a.1 = e → a.2 = t := fun a ha hae => by
    have h1 := atV_mem hok ha
    rw [hae, h] at h1
    injection h1 with h1
    exact h1.symm
  by_cases hc : j ≠ 0 ∧ t ≤ c
  · refine .inl ⟨List.mem_map.2 ⟨(e, t), (mem_got hok).2 ⟨hm, hc.1, hc.2⟩, rfl⟩, hc.1, hc.2, ?_⟩
    have hn : atW e (remW j c L) = none := at_none.2 (fun a ha hae => by
      obtain ⟨h1, h2⟩ := (mem_rem hok).1 ha
      have := one a h1 hae
      have := hc.1
      have := hc.2
      omega)
    unfold atV
    rw [hn]
  · refine .inr ⟨fun hG => ?_, by omega, atV_mem (a := (e, t)) (hok.rem j c) ((mem_rem hok).2 ⟨hm, by show j = 0 ∨ c < t; omega⟩)⟩
    obtain ⟨a, ha, hae⟩ := List.mem_map.1 hG
    obtain ⟨h1, h2, h3⟩ := (mem_got hok).1 ha
    have := one a h1 hae
    exact hc ⟨h2, by omega⟩
/-- A range over the map of instants, under way. -/
structure OIt (Z : Nat → Prop) (w : World) (b1 b2 r : Nat) (L : AL) (tv : Value) (es : Array MapEntry) (clock : Nat) (seen : Array Nat) (wr : World) : Prop where
  z : Z r ∧ w.heap.size ≤ r ∧ r ≠ b1 ∧ r ≠ b2 ∧ tv.ownBlock ≠ some r
  mn : MUN wr b1 (keyL L) (valL L) es clock
  it : wr.heap[r]? = some (.mapIter (some b1) clock seen clock)
theorem OIt.called {Z Z' : Nat → Prop} {w wr w' : World} {b1 b2 r : Nat} {L : AL} {tv : Value} {es : Array MapEntry} {clock : Nat} {seen : Array Nat} (h : OIt Z w b1 b2 r L tv es clock seen wr) (hb : But (fun k => ¬ Z k) wr w') (h1 : Z b1) : OIt Z w b1 b2 r L tv es clock seen w' :=
  ⟨h.z, h.mn.but hb (fun x => x h1), hb.blk h.it (fun x => x h.z.1)⟩
theorem OIt.step {Z : Nat → Prop} {w wr w' : World} {b1 b2 r : Nat} {ws : WL} {L : AL} {tv : Value} {tl sl : List Int} {es : Array MapEntry} {clock : Nat} {seen seen' : Array Nat} (h : OIt Z w b1 b2 r L tv es clock seen wr) (hO : OAt Z w b1 ws L tv tl wr) (hS : OSeen Z w b1 b2 tv sl wr) (hb : But (fun k => k = r) wr w') (hi : w'.heap[r]? = some (.mapIter (some b1) clock seen' clock)) :
    OAt Z w b1 ws L tv tl w' ∧ OSeen Z w b1 b2 tv sl w' ∧ OIt Z w b1 b2 r L tv es clock seen' w' := by
  obtain ⟨z1, z2, z3, z4, z5⟩ := h.z
  exact ⟨⟨hO.tk.mine hb (fun k hk => by subst hk; exact ⟨z1, z2⟩), hO.z1, hO.mw.but hb (fun e => z3 e.symm), hO.ts.but hb (fun b hb' e => z5 (by rw [hb', e])), hO.tz⟩, ⟨hS.z2, hS.ms.but hb (fun e => z4 e.symm)⟩, ⟨h.z, h.mn.but hb (fun e => z3 e.symm), hi⟩⟩
/-- The range begins. -/
theorem OIt.begins {Z : Nat → Prop} {w wr w' : World} {b1 b2 r : Nat} {ws : WL} {L : AL} {tv : Value} {tl sl : List Int} {es : Array MapEntry} {clock : Nat} (hO : OAt Z w b1 ws L tv tl wr) (hS : OSeen Z w b1 b2 tv sl wr) (hM : MUN wr b1 (keyL L) (valL L) es clock) (hr : wr.heap.size = r) (hw : wr.alloc (.mapIter (some b1) clock #[] clock) = w') :
    ∃ Z', OAt Z' w b1 ws L tv tl w' ∧ OSeen Z' w b1 b2 tv sl w' ∧ OIt Z' w b1 b2 r L tv es clock #[] w' := by
  have h1 := hO.mw.lt
  have h2 := hS.ms.lt
  have h3 := hO.tk.b.size
  have hm := hO.tk.m.alloc face (.mapIter (some b1) clock #[] clock)
  have hb : But (fun _ => False) wr w' := by rw [← hw]; exact (But.refl _ _).alloc _
  rw [hw, hr] at hm
  refine ⟨_, ⟨⟨hm, by rw [← hw]; exact hO.tk.b.alloc h3 _, fun k hk => .inl (hO.tk.z k hk)⟩, ⟨.inl hO.z1.1, hO.z1.2⟩, hO.mw.but hb (fun x => x), hO.ts.but hb (fun _ _ x => x), fun b hb' => by obtain ⟨x1, x2⟩ := hO.tz b hb'; exact ⟨.inl x1, x2⟩⟩, ⟨⟨.inl hS.z2.1, hS.z2.2⟩, hS.ms.but hb (fun x => x)⟩, ⟨⟨.inr rfl, by omega, by omega, by omega, fun e => by have := hO.ts.lt e; omega⟩, hM.but hb (fun x => x), by rw [← hw, ← hr]; exact heap_alloc_new wr _⟩⟩
theorem OAt.lens {Z : Nat → Prop} {w wr : World} {b1 : Nat} {ws : WL} {L : AL} {tv : Value} {tl : List Int} (h : OAt Z w b1 ws L tv tl wr) (hok : okW L) (ty : TypeId) : (Builtin.len_ #[51] ty #[.map (some b1)]).run Try.prog wr = .ok (.int .i64 (L.length : Nat)) wr := by
  have := h.mw.len_u (L.map Prod.fst) hok.ids (keyL_iff L) ty
  rwa [List.length_map] at this
theorem sl_cell {w : World} {A : Option Addr} {n c : Nat} {l : List Int} (h : Sl w 23 .u64 (.slice A n c) l) (hn : 0 < n) : ∃ g o, A = some ⟨g, o, none⟩ ∧ ∀ i, i < n → w.cell? ⟨g, o + i, none⟩ = some (.int .u64 (l.getD i 0)) := by
  obtain ⟨A', c', e, hc⟩ := sl_read h
  injection e with e1 e2 e3
  subst e1; subst e2; subst e3
  obtain ⟨g, o, rfl, _⟩ := hc 0 hn
  refine ⟨g, o, rfl, fun i hi => ?_⟩
  obtain ⟨g', o', e, h'⟩ := hc i hi
  injection e with e
  injection e with e1 e2
  subst e1; subst e2
  exact h'
theorem map_getD (D : AL) {j : Nat} (hj : j < D.length) : (D.map Prod.fst).getD j 0 = (D.getD j (0, 0)).1 := by
  simp only [List.getD]
  rw [List.getElem?_map, List.getElem?_eq_getElem hj]
  rfl
theorem take_snoc (l : List Int) {j : Nat} (hj : j < l.length) : l.take (j + 1) = l.take j ++ [l.getD j 0] := by
  rw [List.take_succ_eq_append_getElem hj]
  simp [List.getD, List.getElem?_eq_getElem hj]
end Go.Proofs.Ytlpgabbnldalhaa
