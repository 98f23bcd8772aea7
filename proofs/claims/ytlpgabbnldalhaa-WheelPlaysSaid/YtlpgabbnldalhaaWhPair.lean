/-
  A wheel and the document's own, side by side, in no block of Z: a call of one leaves the other, and Z, as they are.
-/
import Derived.Test.YtlpgabbnldalhaaWhWakes
namespace Go.Proofs.Ytlpgabbnldalhaa
set_option maxRecDepth 10000
open Go.RowKit
set_option linter.unusedSimpArgs false
set_option linter.unusedVariables false
variable {WAt : WA}
/-- Own wheel g (ck, L), the document's gr (cr, R). -/
def PairZ (WAt : WA) (Z : Nat → Prop) (w : World) (g : Nat) (ck : Int) (L : AL) (gr : Nat) (cr : Int) (R : AL) : Prop :=
  ∃ S SR : Nat → Prop, WAt w S g ck L ∧ RefW w SR gr cr R ∧ (∀ k, S k → ¬ SR k ∧ ¬ Z k) ∧ (∀ k, SR k → ¬ Z k) ∧ ∀ k, Z k → k < w.heap.size
def PDo (WAt : WA) (Z : Nat → Prop) (g : Nat) (ck : Int) (L : AL) (gr : Nat) (cr : Int) (R : AL) (v : Value) (w : World) (e : Ending) (w' : World) : Prop :=
  e = .returned v ∧ PairZ WAt Z w' g ck L gr cr R ∧ But (fun k => ¬ Z k) w w'
def PTick (WAt : WA) (Z : Nat → Prop) (g : Nat) (ck : Int) (L : AL) (gr : Nat) (cr : Int) (R : AL) (l : List Int) (x : Int) (w : World) (e : Ending) (w' : World) : Prop :=
  ∃ v, e = .returned (.tuple #[v, .int .i64 x]) ∧ Sl w' 23 .u64 v l ∧ PairZ WAt (fun k => Z k ∨ v.ownBlock = some k) w' g ck L gr cr R ∧ But (fun k => ¬ Z k) w w'
section
variable {Z : Nat → Prop} {w w' : World} {g gr : Nat} {ck cr : Int} {L R : AL}
theorem PairZ.ok (F : WFace WAt) (h : PairZ WAt Z w g ck L gr cr R) : okW L ∧ 0 ≤ ck ∧ ck ≤ bigW := by
  obtain ⟨S, SR, h1, _⟩ := h
  exact F.ok h1
theorem PairZ.sub {Z' : Nat → Prop} (h : PairZ WAt Z w g ck L gr cr R) (hz : ∀ k, Z' k → Z k) : PairZ WAt Z' w g ck L gr cr R := by
  obtain ⟨S, SR, h1, h2, h3, h4, h5⟩ := h
  exact ⟨S, SR, h1, h2, fun k hk => ⟨(h3 k hk).1, fun e => (h3 k hk).2 (hz k e)⟩, fun k hk e => h4 k hk (hz k e), fun k hk => h5 k (hz k hk)⟩
/-- Something beyond turns: blocks that are neither's. -/
theorem PairZ.but (F : WFace WAt) {T : Nat → Prop} (h : PairZ WAt Z w g ck L gr cr R) (hb : But T w w') (hT : ∀ k, T k → Z k ∨ w.heap.size ≤ k) : PairZ WAt Z w' g ck L gr cr R := by
  obtain ⟨S, SR, h1, h2, h3, h4, h5⟩ := h
  have l1 := F.lt h1
  obtain ⟨_, _, _, _, _, l2⟩ := id h2
  refine ⟨S, SR, F.but h1 hb (fun k hk ht => ?_), h2.but hb (fun k hk ht => ?_), h3, h4, fun k hk => hb.lt (h5 k hk)⟩
  · rcases hT k ht with e | e
    · exact (h3 k hk).2 e
    · have := l1 k hk; omega
  · rcases hT k ht with e | e
    · exact h4 k hk e
    · have := l2 k hk; omega
/-- A block that is laid: one of Z's from now on. -/
theorem PairZ.alloc (F : WFace WAt) (h : PairZ WAt Z w g ck L gr cr R) (o : Obj) : PairZ WAt (fun k => Z k ∨ k = w.heap.size) (w.alloc o) g ck L gr cr R := by
  obtain ⟨S, SR, h1, h2, h3, h4, h5⟩ := h
  have l1 := F.lt h1
  obtain ⟨_, _, _, _, _, l2⟩ := id h2
  have hb : But (fun _ => False) w (w.alloc o) := (But.refl _ _).alloc _
  refine ⟨S, SR, F.but h1 hb (fun _ _ h => h), h2.but hb (fun _ _ h => h), fun k hk => ⟨(h3 k hk).1, ?_⟩, fun k hk => ?_, fun k hk => ?_⟩
  · rintro (e | e)
    · exact (h3 k hk).2 e
    · have := l1 k hk; omega
  · rintro (e | e)
    · exact h4 k hk e
    · have := l2 k hk; omega
  · have : (w.alloc o).heap.size = w.heap.size + 1 := by simp
    rcases hk with e | e
    · have := h5 k e; omega
    · omega
theorem pdo_own (F : WFace WAt) {S SR : Nat → Prop} {ck' : Int} {L' : AL} {v : Value} {e : Ending} (h2 : RefW w SR gr cr R) (h3 : ∀ k, S k → ¬ SR k ∧ ¬ Z k) (h4 : ∀ k, SR k → ¬ Z k) (h5 : ∀ k, Z k → k < w.heap.size) (h : WDoes WAt S g ck' L' v w e w') : PDo WAt Z g ck' L' gr cr R v w e w' := by
  obtain ⟨rfl, S', hp, hb, hs⟩ := h
  obtain ⟨_, _, _, _, _, l2⟩ := id h2
  refine ⟨rfl, ⟨S', SR, hp, h2.but hb (fun k hk e => (h3 k e).1 hk), fun k hk => ?_, h4, fun k hk => hb.lt (h5 k hk)⟩, hb.mono (fun k _ e => (h3 k e).2)⟩
  rcases hs k hk with e | e
  · exact h3 k e
  · exact ⟨fun e2 => by have := l2 k e2; omega, fun e2 => by have := h5 k e2; omega⟩
theorem pdo_ref (F : WFace WAt) {S SR : Nat → Prop} {cr' : Int} {R' : AL} {v : Value} {e : Ending} (h1 : WAt w S g ck L) (h3 : ∀ k, S k → ¬ SR k ∧ ¬ Z k) (h4 : ∀ k, SR k → ¬ Z k) (h5 : ∀ k, Z k → k < w.heap.size) (h : RefDoes SR gr cr' R' v w e w') : PDo WAt Z g ck L gr cr' R' v w e w' := by
  obtain ⟨rfl, S', hp, hb, hs⟩ := h
  have l1 := F.lt h1
  refine ⟨rfl, ⟨S, S', F.but h1 hb (fun k hk e => (h3 k hk).1 e), hp, fun k hk => ⟨fun e2 => ?_, (h3 k hk).2⟩, fun k hk e2 => ?_, fun k hk => hb.lt (h5 k hk)⟩, hb.mono (fun k _ e => h4 k e)⟩
  · rcases hs k e2 with e | e
    · exact (h3 k hk).1 e
    · have := l1 k hk; omega
  · rcases hs k hk with e | e
    · exact h4 k e e2
    · have := h5 k e2; omega
theorem pdo_quiet (F : WFace WAt) {v : Value} {e : Ending} (h : PairZ WAt Z w g ck L gr cr R) (hq : QuietW v w e w') : PDo WAt Z g ck L gr cr R v w e w' := by
  obtain ⟨rfl, m, rfl⟩ := hq
  exact ⟨rfl, h.but F (T := fun _ => False) ((But.refl _ _).drewN m) (fun _ h => h.elim), (But.refl _ _).drewN m⟩
end
section
variable (F : WFace WAt) (Z : Nat → Prop) (g gr : Nat) (ck cr : Int) (L R : AL) (w : World) (h : PairZ WAt Z w g ck L gr cr R)
include F h
theorem pset (id at_ x : Int) (L' : AL) (hn : L.length ≤ 1000000) (hid : 0 ≤ id ∧ id < topW) (hat : 0 ≤ at_ ∧ at_ < topW) (hx : setE at_ = x) (hL : setA id at_ L = L') :
    Calls Try.prog 9 #[.pointer (some ⟨g, 0, none⟩), .int .u64 id, .int .u64 at_] w (PDo WAt Z g ck L' gr cr R (.int .i64 x) w) := by
  obtain ⟨S, SR, h1, h2, h3, h4, h5⟩ := h
  subst hx; subst hL
  exact (F.set_ S g ck id at_ L w h1 hn hid hat).mono (fun e w' => pdo_own F h2 h3 h4 h5)
theorem pstop (id x : Int) (L' : AL) (hn : L.length ≤ 1000000) (hid : 0 ≤ id ∧ id < topW) (hx : stopE id L = x) (hL : stopW id L = L') :
    Calls Try.prog 11 #[.pointer (some ⟨g, 0, none⟩), .int .u64 id] w (PDo WAt Z g ck L' gr cr R (.int .i64 x) w) := by
  obtain ⟨S, SR, h1, h2, h3, h4, h5⟩ := h
  subst hx; subst hL
  exact (F.stop_ S g ck id L w h1 hn hid).mono (fun e w' => pdo_own F h2 h3 h4 h5)
theorem pat (id y : Int) (is_ : Bool) (hn : L.length ≤ 1000000) (hid : 0 ≤ id ∧ id < topW) (hx : atV id L = (y, is_)) :
    Calls Try.prog 19 #[.pointer (some ⟨g, 0, none⟩), .int .u64 id] w (PDo WAt Z g ck L gr cr R (.tuple #[.int .u64 y, .bool is_]) w) := by
  obtain ⟨S, SR, h1, h2, h3, h4, h5⟩ := h
  have := F.at_ S g ck id L w h1 hn hid
  rw [hx] at this
  exact this.mono (fun e w' => pdo_own F h2 h3 h4 h5)
theorem pnext (y : Int) (is_ : Bool) (hn : L.length ≤ 1000000) (hx : nextW L = (y, is_)) :
    Calls Try.prog 17 #[.pointer (some ⟨g, 0, none⟩)] w (PDo WAt Z g ck L gr cr R (.tuple #[.int .u64 y, .bool is_]) w) := by
  obtain ⟨S, SR, h1, h2, h3, h4, h5⟩ := h
  have := F.next_ S g ck L w h1 hn
  rw [hx] at this
  exact this.mono (fun e w' => pdo_own F h2 h3 h4 h5)
theorem pnow : Calls Try.prog 21 #[.pointer (some ⟨g, 0, none⟩)] w (QuietW (.int .u64 ck) w) := by
  obtain ⟨S, SR, h1, _⟩ := h
  exact F.now_ S g ck L w h1
theorem plen (n : Nat) (hn : L.length ≤ 1000000) (hx : L.length = n) : Calls Try.prog 22 #[.pointer (some ⟨g, 0, none⟩)] w (QuietW (.int .i64 (n : Int)) w) := by
  obtain ⟨S, SR, h1, _⟩ := h
  subst hx
  exact F.len_ S g ck L w h1 hn
theorem ptick (now ck' x : Int) (L' : AL) (l : List Int) (hn : L.length ≤ 1000000) (ht : 0 ≤ now ∧ now < topW) (hc : tickC ck now = ck') (hx : tickE ck now = x) (hL : tickA ck now L = L') (hl : tickL ck now L = l) :
    Calls Try.prog 13 #[.pointer (some ⟨g, 0, none⟩), .int .u64 now] w (PTick WAt Z g ck' L' gr cr R l x w) := by
  obtain ⟨S, SR, h1, h2, h3, h4, h5⟩ := h
  obtain ⟨_, _, _, _, _, l2⟩ := id h2
  subst hc; subst hx; subst hL; subst hl
  refine (F.tick_ S g ck now L w h1 hn ht).mono ?_
  rintro e w' ⟨v, rfl, hl, S', hp, hb, hs, hv⟩
  refine ⟨v, rfl, hl, ⟨S', SR, hp, h2.but hb (fun k hk e => (h3 k e).1 hk), fun k hk => ⟨fun e2 => ?_, ?_⟩, fun k hk => ?_, fun k hk => ?_⟩, hb.mono (fun k _ e => (h3 k e).2)⟩
  · rcases hs k hk with e | e
    · exact (h3 k e).1 e2
    · have := l2 k e2; omega
  · rintro (e2 | e2)
    · rcases hs k hk with e | e
      · exact (h3 k e).2 e2
      · have := h5 k e2; omega
    · exact (hv k e2).2 hk
  · rintro (e2 | e2)
    · exact h4 k hk e2
    · have := (hv k e2).1; have := l2 k hk; omega
  · rcases hk with e2 | e2
    · exact hb.lt (h5 k e2)
    · exact hl.lt e2
theorem prset (id at_ x : Int) (R' : AL) (hn : R.length ≤ 1000000) (hx : setE at_ = x) (hL : setA id at_ R = R') :
    Calls Try.prog 10 #[.pointer (some ⟨gr, 0, none⟩), .int .u64 id, .int .u64 at_] w (PDo WAt Z g ck L gr cr R' (.int .i64 x) w) := by
  by_cases hb : bigW < at_
  · have e1 : setE at_ = 1 := by unfold setE; rw [if_pos hb]
    have e2 : setA id at_ R = R := by unfold setA; rw [if_pos hb]
    rw [e1] at hx; rw [e2] at hL
    subst hx; subst hL
    exact (rset12_bad (fun _ => True) gr id at_ w hb).mono (fun e w' => pdo_quiet F h)
  · have e1 : setE at_ = 0 := by unfold setE; rw [if_neg hb]
    have e2 : setA id at_ R = setW id at_ R := by unfold setA; rw [if_neg hb]
    rw [e1] at hx; rw [e2] at hL
    subst hx; subst hL
    obtain ⟨S, SR, h1, h2, h3, h4, h5⟩ := h
    exact (rset12_ok SR gr cr id at_ R w h2 hn hb).mono (fun e w' => pdo_ref F h1 h3 h4 h5)
theorem prstop (id x : Int) (R' : AL) (hn : R.length ≤ 1000000) (hx : stopE id R = x) (hL : stopW id R = R') :
    Calls Try.prog 12 #[.pointer (some ⟨gr, 0, none⟩), .int .u64 id] w (PDo WAt Z g ck L gr cr R' (.int .i64 x) w) := by
  subst hL
  obtain ⟨S, SR, h1, h2, h3, h4, h5⟩ := h
  exact (rstop12_any SR gr cr id x R w h2 hn hx).mono (fun e w' => pdo_ref F h1 h3 h4 h5)
theorem prat (id y : Int) (is_ : Bool) (hn : R.length ≤ 1000000) (hx : atV id R = (y, is_)) :
    Calls Try.prog 20 #[.pointer (some ⟨gr, 0, none⟩), .int .u64 id] w (PDo WAt Z g ck L gr cr R (.tuple #[.int .u64 y, .bool is_]) w) := by
  have h0 := h
  obtain ⟨S, SR, h1, h2, _⟩ := h0
  exact (rat12_any SR gr cr id y is_ R w h2 hn hx).mono (fun e w' => pdo_quiet F h)
theorem prnext (y : Int) (is_ : Bool) (hx : nextW R = (y, is_)) :
    Calls Try.prog 18 #[.pointer (some ⟨gr, 0, none⟩)] w (PDo WAt Z g ck L gr cr R (.tuple #[.int .u64 y, .bool is_]) w) := by
  have h0 := h
  obtain ⟨S, SR, h1, h2, _⟩ := h0
  exact (rnext12_any SR gr cr y is_ R w h2 hx).mono (fun e w' => pdo_quiet F h)
theorem prtick (now cr' x : Int) (R' : AL) (l : List Int) (hn : R.length ≤ 1000000) (hc : tickC cr now = cr') (hx : tickE cr now = x) (hL : tickA cr now R = R') (hl : tickL cr now R = l) :
    Calls Try.prog 14 #[.pointer (some ⟨gr, 0, none⟩), .int .u64 now] w (PTick WAt Z g ck L gr cr' R' l x w) := by
  by_cases hb : now < cr ∨ bigW < now
  · have hbt : badT cr now = true := by unfold badT; exact decide_eq_true hb
    unfold tickC at hc; unfold tickE at hx; unfold tickA at hL; unfold tickL at hl
    rw [if_pos hbt] at hc hx hL hl
    subst hc; subst hx; subst hL; subst hl
    have h0 := h
    obtain ⟨S, SR, h1, h2, _⟩ := h0
    refine (rtick12_bad SR gr cr now R w h2 hb).mono ?_
    rintro e w' hq
    obtain ⟨rfl, h6, h7⟩ := pdo_quiet F h hq
    exact ⟨_, rfl, Sl.nil _ _ _, h6.sub (fun k hk => by rcases hk with e | e; exact e; cases e), h7⟩
  · have hbt : badT cr now = false := by unfold badT; exact decide_eq_false hb
    unfold tickC at hc; unfold tickE at hx; unfold tickA at hL; unfold tickL at hl
    rw [hbt] at hc hx hL hl
    simp only [Bool.false_eq_true, if_false] at hc hx hL hl
    subst hc; subst hx; subst hL; subst hl
    obtain ⟨S, SR, h1, h2, h3, h4, h5⟩ := h
    have l1 := F.lt h1
    obtain ⟨_, _, _, _, _, l2⟩ := id h2
    refine (rtick12_ok SR gr cr now R w h2 hn hb).mono ?_
    rintro e w' ⟨v, rfl, hp, hbb, hl, hv⟩
    refine ⟨v, rfl, hl, ⟨S, SR, F.but h1 hbb (fun k hk e => (h3 k hk).1 e), hp, fun k hk => ⟨(h3 k hk).1, ?_⟩, fun k hk => ?_, fun k hk => ?_⟩, hbb.mono (fun k _ e => h4 k e)⟩
    · rintro (e2 | e2)
      · exact (h3 k hk).2 e2
      · have := hv k e2; have := l1 k hk; omega
    · rintro (e2 | e2)
      · exact h4 k hk e2
      · have := hv k e2; have := l2 k hk; omega
    · rcases hk with e2 | e2
      · exact hbb.lt (h5 k e2)
      · exact hl.lt e2
/-- A copy: one of the two goes on at the other's side. -/
theorem pcopy (hn : L.length ≤ 1000000) :
    Calls Try.prog 16 #[.pointer (some ⟨g, 0, none⟩)] w fun e w' => ∃ g2 S1 S2, e = .returned (.pointer (some ⟨g2, 0, none⟩)) ∧ But (fun k => ¬ Z k) w w' ∧
      (WAt w' S1 g ck L ∧ (∀ k, S1 k → ¬ Z k) ∧ PairZ WAt (fun k => Z k ∨ S1 k) w' g2 ck L gr cr R) ∧ (WAt w' S2 g2 ck L ∧ (∀ k, S2 k → ¬ Z k) ∧ PairZ WAt (fun k => Z k ∨ S2 k) w' g ck L gr cr R) := by
  obtain ⟨S, SR, h1, h2, h3, h4, h5⟩ := h
  obtain ⟨_, _, _, _, _, l2⟩ := id h2
  refine (F.copy_ S g ck L w h1 hn).mono ?_
  rintro e w' ⟨g2, S1, S2, rfl, w1, w2, hb, hs1, hs2, hd⟩
  have hr := h2.but hb (fun k hk e => (h3 k e).1 hk)
  have a1 : ∀ k, S1 k → ¬ SR k ∧ ¬ Z k := fun k hk => by
    rcases hs1 k hk with e | e
    · exact h3 k e
    · exact ⟨fun e2 => by have := l2 k e2; omega, fun e2 => by have := h5 k e2; omega⟩
  have a2 : ∀ k, S2 k → ¬ SR k ∧ ¬ Z k := fun k hk => by
    have e := hs2 k hk
    exact ⟨fun e2 => by have := l2 k e2; omega, fun e2 => by have := h5 k e2; omega⟩
  refine ⟨g2, S1, S2, rfl, hb.mono (fun k _ e => (h3 k e).2), ⟨w1, fun k hk => (a1 k hk).2, S2, SR, w2, hr, fun k hk => ⟨(a2 k hk).1, ?_⟩, fun k hk => ?_, fun k hk => ?_⟩, ⟨w2, fun k hk => (a2 k hk).2, S1, SR, w1, hr, fun k hk => ⟨(a1 k hk).1, ?_⟩, fun k hk => ?_, fun k hk => ?_⟩⟩
  · rintro (e | e)
    · exact (a2 k hk).2 e
    · exact hd k e hk
  · rintro (e | e)
    · exact h4 k hk e
    · exact (a1 k e).1 hk
  · rcases hk with e | e
    · exact hb.lt (h5 k e)
    · exact F.lt w1 k e
  · rintro (e | e)
    · exact (a1 k hk).2 e
    · exact hd k hk e
  · rintro (e | e)
    · exact h4 k hk e
    · exact (a2 k e).1 hk
  · rcases hk with e | e
    · exact hb.lt (h5 k e)
    · exact F.lt w2 k e
end
/-- Back from the copy's side. -/
theorem PairZ.back (F : WFace WAt) {Z T : Nat → Prop} {w w' : World} {g g2 gr : Nat} {ck ck1 cr : Int} {L L1 R : AL} (hT : WAt w T g2 ck L) (hTZ : ∀ k, T k → ¬ Z k) (hb : But (fun k => ¬ (Z k ∨ T k)) w w') (h : PairZ WAt (fun k => Z k ∨ T k) w' g ck1 L1 gr cr R) : PairZ WAt Z w' g2 ck L gr cr R := by
  obtain ⟨S, SR, h1, h2, h3, h4, h5⟩ := h
  exact ⟨T, SR, F.but hT hb (fun k hk e => e (.inr hk)), h2, fun k hk => ⟨fun e => h4 k e (.inr hk), hTZ k hk⟩, fun k hk e => h4 k hk (.inl e), fun k hk => h5 k (.inl hk)⟩
end Go.Proofs.Ytlpgabbnldalhaa
