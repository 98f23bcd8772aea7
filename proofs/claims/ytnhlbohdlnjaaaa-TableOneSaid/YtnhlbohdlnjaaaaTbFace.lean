/-
  The program's own table: what each of its calls tells and leaves ('TAt': the table g has these flows, this last id).
-/
import Derived.Test.YtnhlbohdlnjaaaaTbAdd
import Derived.Test.YtnhlbohdlnjaaaaTbCopy
namespace Go.Proofs.Ytnhlbohdlnjaaaa
set_option maxRecDepth 10000
open Go.RowKit
set_option linter.unusedSimpArgs false
set_option linter.unusedVariables false

/-- The maps hold what the flows say. -/
structure MapsF (L : TL) (KI : Tu → Prop) (RI : Tu → Value) (KO : Tu → Prop) (RO : Tu → Value) : Prop where
  ki : ∀ t, KI t ↔ ∃ f, f ∈ L ∧ f.i = t
  ri : ∀ f, f ∈ L → RI f.i = .int .u64 f.id
  ko : ∀ t, KO t ↔ t ≠ zT ∧ ∃ f, f ∈ L ∧ f.o = t
  ro : ∀ f, f ∈ L → f.o ≠ zT → RO f.o = .int .u64 f.id
theorem pw_or {L : TL} (h : L.Pairwise Apart) {a b : Fl} (ha : a ∈ L) (hb : b ∈ L) : a = b ∨ Apart a b := by
  obtain ⟨i, hi, rfl⟩ := mem_at ha
  obtain ⟨j, hj, rfl⟩ := mem_at hb
  by_cases e : i = j
  · exact .inl (by rw [e])
  · exact .inr (pw_at h hi hj e)
theorem mem_set2 {L : TL} (h : L.Pairwise Apart) {k : Nat} {f g : Fl} (hk : k < L.length) : g ∈ L.set k f ↔ g = f ∨ (g ∈ L ∧ g.id ≠ (L.getD k f0).id) := by
  rw [mem_set hk]
  constructor
  · rintro (e | ⟨j, h1, h2, rfl⟩)
    · exact .inl e
    · exact .inr ⟨getD_mem h2, (pw_at h h2 hk h1).id⟩
  · rintro (e | ⟨h1, h2⟩)
    · exact .inl e
    · obtain ⟨j, hj, rfl⟩ := mem_at h1
      exact .inr ⟨j, fun e => h2 (by rw [e]), hj, rfl⟩
section
variable {M last : Int} {L : TL} {KI : Tu → Prop} {RI : Tu → Value} {KO : Tu → Prop} {RO : Tu → Value}
theorem MapsF.look_i (h : MapsF L KI RI KO RO) (t : Tu) : LookT KI RI t (idOf (innF t L)) (isOf (innF t L)) := by
  cases he : innF t L with
  | none => exact .inr ⟨rfl, rfl, fun hk => by obtain ⟨f, h1, h2⟩ := (h.ki t).1 hk; exact innF_none he f h1 h2⟩
  | some f =>
    obtain ⟨h1, h2⟩ := innF_some he
    exact .inl ⟨rfl, (h.ki t).2 ⟨f, h1, h2⟩, by rw [← h2]; exact h.ri f h1⟩
theorem MapsF.look_o (h : MapsF L KI RI KO RO) (t : Tu) : LookT KO RO t (idOf (outF t L)) (isOf (outF t L)) := by
  cases he : outF t L with
  | none => exact .inr ⟨rfl, rfl, fun hk => by
      obtain ⟨h0, f, h1, h2⟩ := (h.ko t).1 hk
      rcases outF_none he with e | e
      · exact h0 e
      · exact e f h1 h2⟩
  | some f =>
    obtain ⟨h0, h1, h2⟩ := outF_some he
    exact .inl ⟨rfl, (h.ko t).2 ⟨h0, f, h1, h2⟩, by rw [← h2]; exact h.ro f h1 (by rw [h2]; exact h0)⟩
theorem MapsF.nil : MapsF [] (fun _ => False) (fun _ => .int .u64 0) (fun _ => False) (fun _ => .int .u64 0) :=
  ⟨fun t => ⟨fun h => h.elim, fun ⟨f, h, _⟩ => by cases h⟩, fun f h => (by cases h), fun t => ⟨fun h => h.elim, fun ⟨_, f, h, _⟩ => by cases h⟩, fun f h => (by cases h)⟩
theorem MapsF.perm {L' : TL} (h : MapsF L KI RI KO RO) (hp : ∀ f, f ∈ L' ↔ f ∈ L) : MapsF L' KI RI KO RO :=
  ⟨fun t => by rw [h.ki]; simp only [hp], fun f hf => h.ri f ((hp f).1 hf), fun t => by rw [h.ko]; simp only [hp], fun f hf => h.ro f ((hp f).1 hf)⟩
theorem MapsF.erase (h : MapsF L KI RI KO RO) (hpw : L.Pairwise Apart) {k : Nat} (hk : k < L.length) : MapsF (L.eraseIdx k) (fun a => a ≠ (L.getD k f0).i ∧ KI a) RI (fun a => a ≠ (L.getD k f0).o ∧ KO a) RO := by
  have hm := getD_mem hk
  refine ⟨fun t => ?_, fun f hf => h.ri f ((mem_erase hpw hk).1 hf).1, fun t => ?_, fun f hf => h.ro f ((mem_erase hpw hk).1 hf).1⟩
  · constructor
    · rintro ⟨h1, h2⟩
      obtain ⟨f, hf, rfl⟩ := (h.ki t).1 h2
      refine ⟨f, (mem_erase hpw hk).2 ⟨hf, fun e => ?_⟩, rfl⟩
      rcases pw_or hpw hf hm with e2 | e2
      · exact h1 (by rw [e2])
      · exact e2.id e
    · rintro ⟨f, hf, rfl⟩
      obtain ⟨h1, h2⟩ := (mem_erase hpw hk).1 hf
      refine ⟨fun e => ?_, (h.ki _).2 ⟨f, h1, rfl⟩⟩
      rcases pw_or hpw h1 hm with e2 | e2
      · exact h2 (by rw [e2])
      · exact e2.i e
  · constructor
    · rintro ⟨h1, h2⟩
      obtain ⟨h0, f, hf, rfl⟩ := (h.ko t).1 h2
      refine ⟨h0, f, (mem_erase hpw hk).2 ⟨hf, fun e => ?_⟩, rfl⟩
      rcases pw_or hpw hf hm with e2 | e2
      · exact h1 (by rw [e2])
      · exact e2.id e
    · rintro ⟨h0, f, hf, rfl⟩
      obtain ⟨h1, h2⟩ := (mem_erase hpw hk).1 hf
      refine ⟨fun e => ?_, (h.ko _).2 ⟨h0, f, h1, rfl⟩⟩
      rcases pw_or hpw h1 hm with e2 | e2
      · exact h2 (by rw [e2])
      · rcases e2.o with e3 | e3
        · exact h0 e3
        · exact e3 e
theorem MapsF.ready (h : MapsF L KI RI KO RO) (hpw : L.Pairwise Apart) {k : Nat} (hk : k < L.length) : MapsF (readyF k L) KI RI KO RO := by
  have hm := getD_mem hk
  have key : ∀ f, f ∈ readyF k L → ∃ g, g ∈ L ∧ g.id = f.id ∧ g.i = f.i ∧ g.o = f.o := fun f hf => by
    rcases (mem_set2 hpw hk).1 hf with rfl | ⟨h1, _⟩
    · exact ⟨_, hm, rfl, rfl, rfl⟩
    · exact ⟨f, h1, rfl, rfl, rfl⟩
  have back : ∀ g, g ∈ L → ∃ f, f ∈ readyF k L ∧ g.i = f.i ∧ g.o = f.o := fun g hg => by
    by_cases e : g.id = (L.getD k f0).id
    · refine ⟨_, (mem_set2 hpw hk).2 (.inl rfl), ?_, ?_⟩
      all_goals
        rcases pw_or hpw hg hm with e2 | e2
        · rw [e2]
        · exact absurd e e2.id
    · exact ⟨g, (mem_set2 hpw hk).2 (.inr ⟨hg, e⟩), rfl, rfl⟩
  refine ⟨fun t => ?_, fun f hf => ?_, fun t => ?_, fun f hf ho => ?_⟩
  · rw [h.ki]
    constructor
    · rintro ⟨g, hg, rfl⟩; obtain ⟨f, h1, h2, _⟩ := back g hg; exact ⟨f, h1, h2.symm⟩
    · rintro ⟨f, hf, rfl⟩; obtain ⟨g, h1, _, h2, _⟩ := key f hf; exact ⟨g, h1, h2⟩
  · obtain ⟨g, h1, h2, h3, _⟩ := key f hf; rw [← h3, ← h2]; exact h.ri g h1
  · rw [h.ko]
    constructor
    · rintro ⟨h0, g, hg, rfl⟩; obtain ⟨f, h1, _, h2⟩ := back g hg; exact ⟨h0, f, h1, h2.symm⟩
    · rintro ⟨h0, f, hf, rfl⟩; obtain ⟨g, h1, _, _, h2⟩ := key f hf; exact ⟨h0, g, h1, h2⟩
  · obtain ⟨g, h1, h2, _, h3⟩ := key f hf; rw [← h3] at ho ⊢; rw [← h2]; exact h.ro g h1 ho
theorem MapsF.lead (h : MapsF L KI RI KO RO) (hpw : L.Pairwise Apart) {k : Nat} (hk : k < L.length) (x : Tu) (hx : x = zT ∨ ∀ j, j < L.length → j ≠ k → (L.getD j f0).o ≠ x) : MapsF (leadF k x L) KI RI (KL (L.getD k f0).o x KO) (RL x (L.getD k f0).id RO) := by
  have hm := getD_mem hk
  have hx' : x ≠ zT → ∀ g, g ∈ L → g.id ≠ (L.getD k f0).id → g.o ≠ x := fun h0 g hg hi => by
    obtain ⟨j, hj, rfl⟩ := mem_at hg
    rcases hx with e | e
    · exact absurd e h0
    · exact e j hj (fun e2 => hi (by rw [e2]))
  have mem : ∀ f, f ∈ leadF k x L ↔ f = { L.getD k f0 with o := x } ∨ (f ∈ L ∧ f.id ≠ (L.getD k f0).id) := fun f => mem_set2 hpw hk
  refine ⟨fun t => ?_, fun f hf => ?_, fun t => ?_, fun f hf ho => ?_⟩
  · rw [h.ki]
    constructor
    · rintro ⟨g, hg, rfl⟩
      by_cases e : g.id = (L.getD k f0).id
      · refine ⟨_, (mem _).2 (.inl rfl), ?_⟩
        rcases pw_or hpw hg hm with e2 | e2
        · rw [e2]
        · exact absurd e e2.id
      · exact ⟨g, (mem _).2 (.inr ⟨hg, e⟩), rfl⟩
    · rintro ⟨f, hf, rfl⟩
      rcases (mem f).1 hf with rfl | ⟨h1, _⟩
      · exact ⟨_, hm, rfl⟩
      · exact ⟨f, h1, rfl⟩
  · rcases (mem f).1 hf with rfl | ⟨h1, _⟩
    · exact h.ri (L.getD k f0) hm
    · exact h.ri f h1
  · have old : (t ≠ (L.getD k f0).o ∧ KO t) ↔ t ≠ zT ∧ ∃ f, (f ∈ L ∧ f.id ≠ (L.getD k f0).id) ∧ f.o = t := by
      constructor
      · rintro ⟨h1, h2⟩
        obtain ⟨h0, f, hf, rfl⟩ := (h.ko t).1 h2
        refine ⟨h0, f, ⟨hf, fun e => ?_⟩, rfl⟩
        rcases pw_or hpw hf hm with e2 | e2
        · exact h1 (by rw [e2])
        · exact e2.id e
      · rintro ⟨h0, f, ⟨h1, h2⟩, rfl⟩
        refine ⟨fun e => ?_, (h.ko _).2 ⟨h0, f, h1, rfl⟩⟩
        rcases pw_or hpw h1 hm with e2 | e2
        · exact h2 (by rw [e2])
        · rcases e2.o with e3 | e3
          · exact h0 e3
          · exact e3 e
    unfold KL
    by_cases ex : x = zT
    · rw [if_pos ex]
      rw [old]
      constructor
      · rintro ⟨h0, f, hf, rfl⟩; exact ⟨h0, f, (mem f).2 (.inr hf), rfl⟩
      · rintro ⟨h0, f, hf, rfl⟩
        rcases (mem f).1 hf with rfl | h1
        · exact absurd ex h0
        · exact ⟨h0, f, h1, rfl⟩
    · rw [if_neg ex]
      constructor
      · rintro (rfl | h1)
        · exact ⟨ex, _, (mem _).2 (.inl rfl), rfl⟩
        · obtain ⟨h0, f, hf, rfl⟩ := old.1 h1
          exact ⟨h0, f, (mem f).2 (.inr hf), rfl⟩
      · rintro ⟨h0, f, hf, rfl⟩
        rcases (mem f).1 hf with rfl | h1
        · exact .inl rfl
        · exact .inr (old.2 ⟨h0, f, h1, rfl⟩)
  · unfold RL
    by_cases ex : x = zT
    · rw [if_pos ex]
      rcases (mem f).1 hf with rfl | ⟨h1, _⟩
      · exact absurd ex ho
      · exact h.ro f h1 ho
    · rw [if_neg ex]
      rcases (mem f).1 hf with rfl | ⟨h1, h2⟩
      · exact if_pos rfl
      · show (if f.o = x then Value.int .u64 (L.getD k f0).id else RO f.o) = _
        rw [if_neg (hx' ex f h1 h2)]
        exact h.ro f h1 ho
theorem MapsF.push (h : MapsF L KI RI KO RO) (l2 : Int) (a x : Tu) (ha : ∀ f, f ∈ L → f.i ≠ a) (hx : x = zT ∨ ∀ f, f ∈ L → f.o ≠ x) :
    MapsF (L ++ [⟨l2, a, x, true⟩]) (fun t => t = a ∨ KI t) (fun t => if t = a then .int .u64 l2 else RI t) (KL zT x KO) (RL x l2 RO) := by
  have mem : ∀ f, f ∈ L ++ [(⟨l2, a, x, true⟩ : Fl)] ↔ f = ⟨l2, a, x, true⟩ ∨ f ∈ L := fun f => by
    rw [List.mem_append, List.mem_singleton]; exact or_comm
  have old : ∀ t, (t ≠ zT ∧ KO t) ↔ t ≠ zT ∧ ∃ f, f ∈ L ∧ f.o = t := fun t => by
    rw [h.ko]
    exact ⟨fun h => h.2, fun h => ⟨h.1, h⟩⟩
  refine ⟨fun t => ?_, fun f hf => ?_, fun t => ?_, fun f hf ho => ?_⟩
  · constructor
    · rintro (rfl | h1)
      · exact ⟨_, (mem _).2 (.inl rfl), rfl⟩
      · obtain ⟨f, hf, rfl⟩ := (h.ki t).1 h1; exact ⟨f, (mem f).2 (.inr hf), rfl⟩
    · rintro ⟨f, hf, rfl⟩
      rcases (mem f).1 hf with rfl | h1
      · exact .inl rfl
      · exact .inr ((h.ki _).2 ⟨f, h1, rfl⟩)
  · rcases (mem f).1 hf with rfl | h1
    · exact if_pos rfl
    · show (if f.i = a then Value.int .u64 l2 else RI f.i) = _
      rw [if_neg (ha f h1)]
      exact h.ri f h1
  · unfold KL
    by_cases ex : x = zT
    · rw [if_pos ex]
      rw [old]
      constructor
      · rintro ⟨h0, f, hf, rfl⟩; exact ⟨h0, f, (mem f).2 (.inr hf), rfl⟩
      · rintro ⟨h0, f, hf, rfl⟩
        rcases (mem f).1 hf with rfl | h1
        · exact absurd ex h0
        · exact ⟨h0, f, h1, rfl⟩
    · rw [if_neg ex]
      constructor
      · rintro (rfl | h1)
        · exact ⟨ex, _, (mem _).2 (.inl rfl), rfl⟩
        · obtain ⟨h0, f, hf, rfl⟩ := (old t).1 h1
          exact ⟨h0, f, (mem f).2 (.inr hf), rfl⟩
      · rintro ⟨h0, f, hf, rfl⟩
        rcases (mem f).1 hf with rfl | h1
        · exact .inl rfl
        · exact .inr ((old _).2 ⟨h0, f, h1, rfl⟩)
  · unfold RL
    by_cases ex : x = zT
    · rw [if_pos ex]
      rcases (mem f).1 hf with rfl | h1
      · exact absurd ex ho
      · exact h.ro f h1 ho
    · rw [if_neg ex]
      rcases (mem f).1 hf with rfl | h1
      · exact if_pos rfl
      · show (if f.o = x then Value.int .u64 l2 else RO f.o) = _
        rcases hx with e | e
        · exact absurd e ex
        · rw [if_neg (e f h1)]
          exact h.ro f h1 ho
end
/-- The table in block g, in the blocks S, takes at most M flows, gave last as its last id, and has these flows. -/
def TAt (w : World) (S : Nat → Prop) (g : Nat) (M last : Int) (L : TL) : Prop := okF M last L ∧ ∃ mi mo u KI RI KO RO, TMem w S g M last L mi mo u KI RI KO RO ∧ MapsF L KI RI KO RO
def TDoes (S : Nat → Prop) (g : Nat) (M last : Int) (L : TL) (v : Value) (w : World) (e : Ending) (w' : World) : Prop := e = .returned v ∧ ∃ S', TAt w' S' g M last L ∧ But S w w' ∧ ∀ k, S' k → S k ∨ w.heap.size ≤ k
def TNews (M : Int) (w : World) (e : Ending) (w' : World) : Prop := ∃ g S, e = .returned (.tuple #[.pointer (some ⟨g, 0, none⟩), .int .i64 0]) ∧ TAt w' S g M 0 [] ∧ Below w.heap.size w w' ∧ ∀ k, S k → w.heap.size ≤ k
def TCopies (S : Nat → Prop) (g : Nat) (M last : Int) (L : TL) (w : World) (e : Ending) (w' : World) : Prop :=
  ∃ g2 S2, e = .returned (.pointer (some ⟨g2, 0, none⟩)) ∧ TAt w' S g M last L ∧ TAt w' S2 g2 M last L ∧ Below w.heap.size w w' ∧ ∀ k, S2 k → w.heap.size ≤ k
theorem TAt.but {w w' : World} {S T : Nat → Prop} {g : Nat} {M last : Int} {L : TL} (h : TAt w S g M last L) (hb : But T w w') (hT : ∀ k, S k → ¬ T k) : TAt w' S g M last L := by
  obtain ⟨h0, mi, mo, u, KI, RI, KO, RO, h1, h2⟩ := h
  exact ⟨h0, mi, mo, u, KI, RI, KO, RO, h1.but hb hT, h2⟩
theorem TAt.below {w w' : World} {S : Nat → Prop} {g : Nat} {M last : Int} {L : TL} (h : TAt w S g M last L) (hb : Below w.heap.size w w') : TAt w' S g M last L := h.but (But.of (S := fun _ => False) hb) (fun _ _ h => h)
theorem TAt.lt {w : World} {S : Nat → Prop} {g : Nat} {M last : Int} {L : TL} (h : TAt w S g M last L) : ∀ k, S k → k < w.heap.size := by
  obtain ⟨h0, mi, mo, u, KI, RI, KO, RO, h1, h2⟩ := h
  exact h1.lt
theorem TAt.ok {w : World} {S : Nat → Prop} {g : Nat} {M last : Int} {L : TL} (h : TAt w S g M last L) : okF M last L := h.1
theorem okF.ready {M last : Int} {L : TL} (h : okF M last L) {k : Nat} (hk : k < L.length) : okF M last (readyF k L) := by
  refine h.set hk _ rfl rfl ?_
  by_cases ez : (L.getD k f0).o = zT
  · exact .inl ez
  · refine .inr (fun j hj hne e2 => ?_)
    rcases (pw_at h.pw hj hk hne).o with e1 | e1
    · exact ez (e2.symm.trans e1)
    · exact e1 e2
theorem okF.n {M last : Int} {L : TL} (h : okF M last L) : L.length ≤ 1000000 := by have := h.len; have := h.mb; omega
theorem TAt.tells {S : Nat → Prop} {g : Nat} {M last : Int} {L : TL} {v : Value} {w w' : World} {e : Ending} (h : TAt w S g M last L) (ht : TellsT v w e w') : TDoes S g M last L v w e w' :=
  ⟨ht.1, S, h.below ht.2, But.of ht.2, fun k hk => .inl hk⟩
theorem TAt.quiet {S : Nat → Prop} {g : Nat} {M last : Int} {L : TL} {v : Value} {w w' : World} {e : Ending} (h : TAt w S g M last L) (ht : QuietT v w e w') : TDoes S g M last L v w e w' := by
  obtain ⟨rfl, m, rfl⟩ := ht
  exact ⟨rfl, S, h.but (T := fun _ => False) ((But.refl _ _).drewN m) (fun _ _ h => h), (But.refl _ _).drewN m, fun k hk => .inl hk⟩
theorem does_of {S : Nat → Prop} {g : Nat} {M last : Int} {L : TL} {mi mo : Nat} {KI : Tu → Prop} {RI : Tu → Value} {KO : Tu → Prop} {RO : Tu → Value} {v : Value} {w w' : World} {e : Ending} (hd : DropsM S g M last L mi mo KI RI KO RO v w e w') (ho : okF M last L) (hm : MapsF L KI RI KO RO) : TDoes S g M last L v w e w' := by
  obtain ⟨rfl, S', u', h1, h2, h3⟩ := hd
  exact ⟨rfl, S', ⟨ho, mi, mo, u', KI, RI, KO, RO, h1, hm⟩, h2, h3⟩
theorem new_t (M : Int) (w : World) (h : 1 ≤ M ∧ M ≤ 1024) : Calls Try.prog 8 #[.int .i64 M] w (TNews M w) := by
  refine (new_mem M w h).mono ?_
  rintro e w' ⟨g, mi, mo, S, rfl, h1, h2, h3⟩
  exact ⟨g, S, rfl, ⟨⟨h, by simp; omega, fun f hf => (by cases hf), List.Pairwise.nil, fun f hf => (by cases hf), by omega⟩, mi, mo, _, _, _, _, _, h1, MapsF.nil⟩, h2, h3⟩
section
variable (S : Nat → Prop) (g : Nat) (M last : Int) (L : TL) (w : World) (h : TAt w S g M last L)
include h
theorem inner_t (t : Tu) (id : Int) (is_ : Bool) (h1 : idOf (innF t L) = id) (h2 : isOf (innF t L) = is_) : Calls Try.prog 23 #[.pointer (some ⟨g, 0, none⟩), .agg #[.int .u8 t.pr, .int .u32 t.sr, .int .u32 t.ds, .int .u16 t.sp, .int .u16 t.dp]] w (TellsT (.tuple #[.int .u64 id, .bool is_]) w) := by
  obtain ⟨h0, mi, mo, u, KI, RI, KO, RO, hM, hm⟩ := h
  subst h1; subst h2
  exact inner_at S g M last L mi mo u KI RI KO RO w hM t _ _ (hm.look_i t)
theorem outer_t (t : Tu) (id : Int) (is_ : Bool) (h1 : idOf (outF t L) = id) (h2 : isOf (outF t L) = is_) : Calls Try.prog 25 #[.pointer (some ⟨g, 0, none⟩), .agg #[.int .u8 t.pr, .int .u32 t.sr, .int .u32 t.ds, .int .u16 t.sp, .int .u16 t.dp]] w (TellsT (.tuple #[.int .u64 id, .bool is_]) w) := by
  obtain ⟨h0, mi, mo, u, KI, RI, KO, RO, hM, hm⟩ := h
  subst h1; subst h2
  exact outer_at S g M last L mi mo u KI RI KO RO w hM t _ _ (hm.look_o t)
theorem flow_t (id : Int) (f : Fl) (is_ : Bool) (hx : flowR id L = (f, is_)) : Calls Try.prog 27 #[.pointer (some ⟨g, 0, none⟩), .int .u64 id] w (TellsT (.tuple #[.agg (flV f).toArray, .bool is_]) w) := by
  obtain ⟨h0, mi, mo, u, KI, RI, KO, RO, hM, hm⟩ := h
  exact flow_at S g M last L mi mo u KI RI KO RO w hM id f is_ h0.n hx
theorem len_t (n : Nat) (hn : L.length = n) : Calls Try.prog 12 #[.pointer (some ⟨g, 0, none⟩)] w (JustIs (.int .i64 (n : Int)) w) := by
  obtain ⟨h0, mi, mo, u, KI, RI, KO, RO, hM, hm⟩ := h
  exact len_at S g M last L mi mo u KI RI KO RO w hM n hn
theorem all_t : Calls Try.prog 30 #[.pointer (some ⟨g, 0, none⟩)] w (CloneIsF L w) := by
  obtain ⟨h0, mi, mo, u, KI, RI, KO, RO, hM, hm⟩ := h
  exact all_at S g M last L mi mo u KI RI KO RO w hM h0.n
theorem copy_t : Calls Try.prog 22 #[.pointer (some ⟨g, 0, none⟩)] w (TCopies S g M last L w) := by
  obtain ⟨h0, mi, mo, u, KI, RI, KO, RO, hM, hm⟩ := h
  refine (copy_at S g M last L mi mo u KI RI KO RO w hM h0.n).mono ?_
  rintro e w' ⟨g2, mi2, mo2, u2, S2, rfl, h1, h2, h3, h4⟩
  exact ⟨g2, S2, rfl, ⟨h0, _, _, _, _, _, _, _, h1, hm⟩, ⟨h0, _, _, _, _, _, _, _, h2, hm⟩, h3, h4⟩
theorem touch_t (id er : Int) (L' : TL) (hx : touchR id L = (er, L')) : Calls Try.prog 11 #[.pointer (some ⟨g, 0, none⟩), .int .u64 id] w (TDoes S g M last L' (.int .i64 er) w) := by
  have h' := h
  obtain ⟨h0, mi, mo, u, KI, RI, KO, RO, hM, hm⟩ := h
  unfold touchR at hx
  cases he : atF id L with
  | none =>
    rw [he] at hx
    simp only [Prod.mk.injEq] at hx
    obtain ⟨rfl, rfl⟩ := hx
    exact (touch_none S g M last L mi mo u KI RI KO RO w hM id h0.n he).mono (fun e w1 ht => h'.tells ht)
  | some k =>
    rw [he] at hx
    simp only [Prod.mk.injEq] at hx
    obtain ⟨rfl, rfl⟩ := hx
    have hk := (atF_some he).1
    exact (touch_some S g M last L mi mo u KI RI KO RO w hM id k h0.n he).mono (fun e w1 hd => does_of hd (h0.touch hk) (hm.perm (fun f => (touch_perm hk).mem_iff)))
theorem ready_t (id er : Int) (L' : TL) (hx : readyR id L = (er, L')) : Calls Try.prog 18 #[.pointer (some ⟨g, 0, none⟩), .int .u64 id] w (TDoes S g M last L' (.int .i64 er) w) := by
  have h' := h
  obtain ⟨h0, mi, mo, u, KI, RI, KO, RO, hM, hm⟩ := h
  unfold readyR at hx
  cases he : atF id L with
  | none =>
    rw [he] at hx
    simp only [Prod.mk.injEq] at hx
    obtain ⟨rfl, rfl⟩ := hx
    exact (ready_none S g M last L mi mo u KI RI KO RO w hM id h0.n he).mono (fun e w1 ht => h'.tells ht)
  | some k =>
    rw [he] at hx
    simp only [Prod.mk.injEq] at hx
    obtain ⟨rfl, rfl⟩ := hx
    have hk := (atF_some he).1
    exact (ready_some S g M last L mi mo u KI RI KO RO w hM id k h0.n he).mono (fun e w1 hd => does_of hd (h0.ready hk) (hm.ready h0.pw hk))
theorem drop_t (id er : Int) (L' : TL) (hx : dropR id L = (er, L')) : Calls Try.prog 20 #[.pointer (some ⟨g, 0, none⟩), .int .u64 id] w (TDoes S g M last L' (.int .i64 er) w) := by
  have h' := h
  obtain ⟨h0, mi, mo, u, KI, RI, KO, RO, hM, hm⟩ := h
  unfold dropR at hx
  cases he : atF id L with
  | none =>
    rw [he] at hx
    simp only [Prod.mk.injEq] at hx
    obtain ⟨rfl, rfl⟩ := hx
    exact (drop_none S g M last L mi mo u KI RI KO RO w hM id h0.n he).mono (fun e w1 ht => h'.tells ht)
  | some k =>
    rw [he] at hx
    simp only [Prod.mk.injEq] at hx
    obtain ⟨rfl, rfl⟩ := hx
    have hk := (atF_some he).1
    exact (drop_some S g M last L mi mo u KI RI KO RO w hM id k h0.n he).mono (fun e w1 hd => does_of hd (h0.erase k) (hm.erase h0.pw hk))
theorem lead_t (id er : Int) (x : Tu) (L' : TL) (hx : leadR id x L = (er, L')) : Calls Try.prog 15 #[.pointer (some ⟨g, 0, none⟩), .int .u64 id, .agg #[.int .u8 x.pr, .int .u32 x.sr, .int .u32 x.ds, .int .u16 x.sp, .int .u16 x.dp]] w (TDoes S g M last L' (.int .i64 er) w) := by
  have h' := h
  obtain ⟨h0, mi, mo, u, KI, RI, KO, RO, hM, hm⟩ := h
  unfold leadR at hx
  cases he : atF id L with
  | none =>
    rw [he] at hx
    simp only [Prod.mk.injEq] at hx
    obtain ⟨rfl, rfl⟩ := hx
    exact (lead_none S g M last L mi mo u KI RI KO RO w hM id x h0.n he).mono (fun e w1 ht => h'.tells ht)
  | some k =>
    rw [he] at hx
    simp only at hx
    obtain ⟨hk, hid, _⟩ := atF_some he
    have hlo := hm.look_o x
    by_cases hc : isOf (outF x L) = true ∧ idOf (outF x L) ≠ id
    · rw [if_pos hc] at hx
      simp only [Prod.mk.injEq] at hx
      obtain ⟨rfl, rfl⟩ := hx
      rw [hc.1] at hlo
      exact (lead_there S g M last L mi mo u KI RI KO RO w hM id _ k x h0.n he hlo hc.2).mono (fun e w1 ht => h'.tells ht)
    · rw [if_neg hc] at hx
      simp only [Prod.mk.injEq] at hx
      obtain ⟨rfl, rfl⟩ := hx
      have hfree : x = zT ∨ ∀ j, j < L.length → j ≠ k → (L.getD j f0).o ≠ x := by
        by_cases ez : x = zT
        · exact .inl ez
        · refine .inr (fun j hj hne e => ?_)
          have hio : isOf (outF x L) = true := by
            cases ho : outF x L with
            | none => rcases outF_none ho with e2 | e2; exact absurd e2 ez; exact absurd e (e2 _ (getD_mem hj))
            | some f => rfl
          obtain ⟨f, ho⟩ := isOf_some.1 hio
          obtain ⟨_, hf1, hf2⟩ := outF_some ho
          have hidf : f.id = id := by
            by_cases e2 : idOf (outF x L) = id
            · rw [ho] at e2; exact e2
            · exact absurd ⟨hio, e2⟩ hc
          have hfk : f = L.getD k f0 := by
            rcases pw_or h0.pw hf1 (getD_mem hk) with e2 | e2
            · exact e2
            · exact absurd (hidf.trans hid.symm) e2.id
          have := (pw_at h0.pw hj hk hne).o
          rw [e, ← hfk, hf2] at this
          rcases this with e3 | e3
          · exact ez e3
          · exact e3 rfl
      exact (lead_some S g M last L mi mo u KI RI KO RO w hM id _ _ k x h0.n he hlo (fun e => by
        by_cases e2 : idOf (outF x L) = id
        · exact e2
        · exact absurd ⟨e, e2⟩ hc)).mono (fun e w1 hd => does_of hd (h0.set hk _ rfl rfl hfree) (hm.lead h0.pw hk x hfree))
theorem add_t (a b : Tu) (n wt er last' : Int) (L' : TL) (hl : last < 1000000) (hx : addF M last a b L = ((n, wt, er), L', last')) :
    Calls Try.prog 13 #[.pointer (some ⟨g, 0, none⟩), .agg #[.int .u8 a.pr, .int .u32 a.sr, .int .u32 a.ds, .int .u16 a.sp, .int .u16 a.dp], .agg #[.int .u8 b.pr, .int .u32 b.sr, .int .u32 b.ds, .int .u16 b.sp, .int .u16 b.dp]] w (TDoes S g M last' L' (.tuple #[.int .u64 n, .int .u64 wt, .int .i64 er]) w) := by
  have h' := h
  obtain ⟨h0, mi, mo, u, KI, RI, KO, RO, hM, hm⟩ := h
  unfold addF at hx
  by_cases hz : a = zT
  · rw [if_pos hz] at hx
    simp only [Prod.mk.injEq] at hx
    obtain ⟨⟨rfl, rfl, rfl⟩, rfl, rfl⟩ := hx
    exact (add_zero S g M last L mi mo u KI RI KO RO w hM a b hz).mono (fun e w1 ht => h'.tells ht)
  · rw [if_neg hz] at hx
    have hli := hm.look_i a
    have hlo := hm.look_o b
    by_cases hc : isOf (innF a L) = true ∨ isOf (outF b L) = true
    · rw [if_pos hc] at hx
      simp only [Prod.mk.injEq] at hx
      obtain ⟨⟨rfl, rfl, rfl⟩, rfl, rfl⟩ := hx
      exact (add_there S g M last L mi mo u KI RI KO RO w hM a b _ _ _ _ hz hli hlo hc).mono (fun e w1 ht => h'.tells ht)
    · rw [if_neg hc] at hx
      have hc1 : isOf (innF a L) = false := by cases hq : isOf (innF a L); rfl; exact absurd (.inl hq) hc
      have hc2 : isOf (outF b L) = false := by cases hq : isOf (outF b L); rfl; exact absurd (.inr hq) hc
      rw [hc1] at hli
      rw [hc2] at hlo
      have hni := innF_none (isOf_none.1 hc1)
      have hno := outF_none (isOf_none.1 hc2)
      by_cases hr : (L.length : Int) < M
      · rw [if_pos hr] at hx
        simp only [Prod.mk.injEq] at hx
        obtain ⟨⟨rfl, rfl, rfl⟩, rfl, rfl⟩ := hx
        refine (add_ok S g M last L mi mo u KI RI KO RO w hM a b _ _ 0 L KI KO hz hli hlo h0.lb h0.n (fun W hb => ?_)).mono (fun e w1 hd => does_of hd (h0.push _ hr rfl hni hz hno hl) (hm.push _ a b hni hno))
        refine (room_yes S g M last L mi mo u KI RI KO RO W (hM.below hb) hr).mono ?_
        rintro e w2 ⟨rfl, m, rfl⟩
        exact ⟨rfl, S, u, (hM.below hb).drewN m, (But.refl _ _).drewN m, fun k hk => .inl hk⟩
      · rw [if_neg hr] at hx
        cases he : emF L with
        | none =>
          rw [he] at hx
          simp only [Prod.mk.injEq] at hx
          obtain ⟨⟨rfl, rfl, rfl⟩, rfl, rfl⟩ := hx
          exact (add_full S g M last L mi mo u KI RI KO RO w hM a b _ _ hz hli hlo hr h0.n he).mono (fun e w1 ht => h'.tells ht)
        | some k =>
          rw [he] at hx
          simp only [Prod.mk.injEq] at hx
          obtain ⟨⟨rfl, rfl, rfl⟩, rfl, rfl⟩ := hx
          have hk := (emF_some he).1
          have hsub : ∀ f, f ∈ L.eraseIdx k → f ∈ L := fun f hf => (List.eraseIdx_sublist L k).subset hf
          have hlen : (L.eraseIdx k).length + 1 = L.length := by rw [List.length_eraseIdx, if_pos hk]; omega
          have hni' : ∀ f, f ∈ L.eraseIdx k → f.i ≠ a := fun f hf => hni f (hsub f hf)
          have hno' : b = zT ∨ ∀ f, f ∈ L.eraseIdx k → f.o ≠ b := by
            rcases hno with e | e
            · exact .inl e
            · exact .inr (fun f hf => e f (hsub f hf))
          refine (add_ok S g M last L mi mo u KI RI KO RO w hM a b _ _ _ (L.eraseIdx k) _ _ hz hli hlo h0.lb (by have := h0.n; omega) (fun W hb => room_goes S g M last L mi mo u KI RI KO RO W (hM.below hb) k hr h0.n he)).mono
            (fun e w1 hd => does_of hd ((h0.erase k).push _ (by have := h0.len; omega) rfl hni' hz hno' hl) ((hm.erase h0.pw hk).push _ a b hni' hno'))
end
end Go.Proofs.Ytnhlbohdlnjaaaa
