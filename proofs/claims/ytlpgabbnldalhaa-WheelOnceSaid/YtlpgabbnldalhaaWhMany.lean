/-
  Several wheels apart from each other, in no block of Z: a call of one leaves the others, and Z, as they are.
-/
import Derived.Test.YtlpgabbnldalhaaWhWakes
namespace Go.Proofs.Ytlpgabbnldalhaa
set_option maxRecDepth 10000
open Go.RowKit
set_option linter.unusedSimpArgs false
set_option linter.unusedVariables false
variable {WAt : WA}
abbrev WL := List (Nat × Int × AL)
/-- The wheels ws: block, clock, alarms; each block is one's alone. -/
def Many (WAt : WA) (Z : Nat → Prop) (w : World) (ws : WL) : Prop :=
  (∀ k, Z k → k < w.heap.size) ∧ ∃ own : Nat → Nat, ∀ (i : Nat) (g : Nat) (ck : Int) (L : AL), ws[i]? = some (g, ck, L) → ∃ S, WAt w S g ck L ∧ ∀ k, S k → ¬ Z k ∧ own k = i
def MDo (WAt : WA) (Z : Nat → Prop) (ws : WL) (v : Value) (w : World) (e : Ending) (w' : World) : Prop := e = .returned v ∧ Many WAt Z w' ws ∧ But (fun k => ¬ Z k) w w'
def MTick (WAt : WA) (Z : Nat → Prop) (ws : WL) (l : List Int) (x : Int) (w : World) (e : Ending) (w' : World) : Prop :=
  ∃ v, e = .returned (.tuple #[v, .int .i64 x]) ∧ Sl w' 23 .u64 v l ∧ (∀ b, v.ownBlock = some b → w.heap.size ≤ b) ∧ Many WAt (fun k => Z k ∨ v.ownBlock = some k) w' ws ∧ But (fun k => ¬ Z k) w w'
def MMore (WAt : WA) (Z : Nat → Prop) (ws : WL) (ck : Int) (L : AL) (w : World) (e : Ending) (w' : World) : Prop := ∃ g, e = .returned (.pointer (some ⟨g, 0, none⟩)) ∧ Many WAt Z w' (ws ++ [(g, ck, L)]) ∧ But (fun k => ¬ Z k) w w'
section
variable {Z : Nat → Prop} {w w' : World} {ws : WL}
theorem Many.none_ (w : World) : Many WAt (fun k => k < w.heap.size) w [] := ⟨fun k hk => hk, fun _ => 0, fun i g ck L h => by simp at h⟩
theorem Many.sub {Z' : Nat → Prop} (h : Many WAt Z w ws) (hz : ∀ k, Z' k → Z k) : Many WAt Z' w ws := by
  obtain ⟨h1, own, h2⟩ := h
  refine ⟨fun k hk => h1 k (hz k hk), own, fun i g ck L hi => ?_⟩
  obtain ⟨S, hS, hd⟩ := h2 i g ck L hi
  exact ⟨S, hS, fun k hk => ⟨fun e => (hd k hk).1 (hz k e), (hd k hk).2⟩⟩
theorem Many.but (F : WFace WAt) {T : Nat → Prop} (h : Many WAt Z w ws) (hb : But T w w') (hT : ∀ k, T k → Z k ∨ w.heap.size ≤ k) : Many WAt Z w' ws := by
  obtain ⟨h1, own, h2⟩ := h
  refine ⟨fun k hk => hb.lt (h1 k hk), own, fun i g ck L hi => ?_⟩
  obtain ⟨S, hS, hd⟩ := h2 i g ck L hi
  refine ⟨S, F.but hS hb (fun k hk ht => ?_), hd⟩
  rcases hT k ht with e | e
  · exact (hd k hk).1 e
  · have := F.lt hS k hk; omega
/-- What has been laid since is nobody's: Z's from now on. -/
theorem Many.more (F : WFace WAt) {T : Nat → Prop} (h : Many WAt Z w ws) (hb : But T w w') (hT : ∀ k, T k → Z k ∨ w.heap.size ≤ k) {Z' : Nat → Prop} (hZ : ∀ k, Z' k → (Z k ∨ w.heap.size ≤ k) ∧ k < w'.heap.size) : Many WAt Z' w' ws := by
  obtain ⟨h1, own, h2⟩ := h
  refine ⟨fun k hk => (hZ k hk).2, own, fun i g ck L hi => ?_⟩
  obtain ⟨S, hS, hd⟩ := h2 i g ck L hi
  have hl := F.lt hS
  refine ⟨S, F.but hS hb (fun k hk ht => ?_), fun k hk => ⟨fun e => ?_, (hd k hk).2⟩⟩
  · rcases hT k ht with e | e
    · exact (hd k hk).1 e
    · have := hl k hk; omega
  · rcases (hZ k e).1 with e | e
    · exact (hd k hk).1 e
    · have := hl k hk; omega
theorem Many.alloc (F : WFace WAt) (h : Many WAt Z w ws) (o : Obj) : Many WAt (fun k => Z k ∨ k = w.heap.size) (w.alloc o) ws := by
  have h1 := h.1
  have hs : (w.alloc o).heap.size = w.heap.size + 1 := by simp
  refine h.more F (T := fun _ => False) ((But.refl _ _).alloc o) (fun _ x => x.elim) (fun k hk => ?_)
  rcases hk with e | e
  · have := h1 k e
    exact ⟨.inl e, by omega⟩
  · exact ⟨.inr (by omega), by omega⟩
theorem Many.ok (F : WFace WAt) (h : Many WAt Z w ws) {i g : Nat} {ck : Int} {L : AL} (hi : ws[i]? = some (g, ck, L)) : okW L ∧ 0 ≤ ck ∧ ck ≤ bigW := by
  obtain ⟨_, own, h2⟩ := h
  obtain ⟨S, hS, _⟩ := h2 i g ck L hi
  exact F.ok hS
theorem many_doesV (F : WFace WAt) (h : Many WAt Z w ws) {i g : Nat} {ck : Int} {L : AL} (hi : ws[i]? = some (g, ck, L)) : ∃ S, WAt w S g ck L ∧ ∀ (ck' : Int) (L' : AL) (w' : World) (S' V : Nat → Prop), WAt w' S' g ck' L' → But S w w' → (∀ k, S' k → S k ∨ w.heap.size ≤ k) → (∀ k, V k → w.heap.size ≤ k ∧ k < w'.heap.size ∧ ¬ S' k) →
    Many WAt (fun k => Z k ∨ V k) w' (ws.set i (g, ck', L')) ∧ But (fun k => ¬ Z k) w w' := by
  obtain ⟨h1, own, h2⟩ := h
  obtain ⟨S, hS, hd⟩ := h2 i g ck L hi
  refine ⟨S, hS, fun ck' L' w' S' V hS' hB hs hV => ⟨⟨fun k hk => ?_, fun k => if k < w.heap.size then own k else i, fun j g2 ck2 L2 hj => ?_⟩, hB.mono (fun k _ hk => (hd k hk).1)⟩⟩
  · rcases hk with hk | hk
    · exact hB.lt (h1 k hk)
    · exact (hV k hk).2.1
  by_cases e : j = i
  · subst e
    have hl := (List.getElem?_eq_some_iff.1 hi).1
    rw [List.getElem?_set_self hl] at hj
    injection hj with hj
    injection hj with e1 hj
    injection hj with e2 e3
    subst e1; subst e2; subst e3
    refine ⟨S', hS', fun k hk => ?_⟩
    rcases hs k hk with h3 | h3
    · have h4 := F.lt hS k h3
      refine ⟨fun e => ?_, (if_pos h4).trans (hd k h3).2⟩
      rcases e with e | e
      · exact (hd k h3).1 e
      · exact (hV k e).2.2 hk
    · refine ⟨fun e => ?_, if_neg (by omega)⟩
      rcases e with e | e
      · have := h1 k e; omega
      · exact (hV k e).2.2 hk
  · rw [List.getElem?_set_ne (fun e2 => e e2.symm)] at hj
    obtain ⟨S2, hS2, hd2⟩ := h2 j g2 ck2 L2 hj
    have hl2 := F.lt hS2
    refine ⟨S2, F.but hS2 hB (fun k hk hk2 => e (by rw [← (hd2 k hk).2, (hd k hk2).2])), fun k hk => ⟨fun e2 => ?_, ?_⟩⟩
    · rcases e2 with e2 | e2
      · exact (hd2 k hk).1 e2
      · have := hl2 k hk; have := (hV k e2).1; omega
    · exact (if_pos (hl2 k hk)).trans (hd2 k hk).2
theorem many_does (F : WFace WAt) (h : Many WAt Z w ws) {i g : Nat} {ck : Int} {L : AL} (hi : ws[i]? = some (g, ck, L)) : ∃ S, WAt w S g ck L ∧ ∀ (ck' : Int) (L' : AL) (w' : World) (S' : Nat → Prop), WAt w' S' g ck' L' → But S w w' → (∀ k, S' k → S k ∨ w.heap.size ≤ k) → Many WAt Z w' (ws.set i (g, ck', L')) ∧ But (fun k => ¬ Z k) w w' := by
  obtain ⟨S, hS, hk⟩ := many_doesV F h hi
  refine ⟨S, hS, fun ck' L' w' S' h1 h2 h3 => ?_⟩
  obtain ⟨m1, m2⟩ := hk ck' L' w' S' (fun _ => False) h1 h2 h3 (fun _ x => x.elim)
  exact ⟨m1.sub (fun k hk => .inl hk), m2⟩
theorem set_same {i : Nat} {x : Nat × Int × AL} (hi : ws[i]? = some x) : ws.set i x = ws := by
  obtain ⟨h, e⟩ := List.getElem?_eq_some_iff.1 hi
  rw [← e]
  exact List.set_getElem_self h
theorem many_add (F : WFace WAt) (h : Many WAt Z w ws) {T S2 : Nat → Prop} (hB : But T w w') (hT : ∀ k, T k → w.heap.size ≤ k) {g : Nat} {ck : Int} {L : AL} (hw : WAt w' S2 g ck L) (hS2 : ∀ k, S2 k → w.heap.size ≤ k) : Many WAt Z w' (ws ++ [(g, ck, L)]) := by
  obtain ⟨h1, own, h2⟩ := h
  refine ⟨fun k hk => hB.lt (h1 k hk), fun k => if k < w.heap.size then own k else ws.length, fun j g2 ck2 L2 hj => ?_⟩
  by_cases e : j < ws.length
  · rw [List.getElem?_append_left e] at hj
    obtain ⟨S3, hS3, hd3⟩ := h2 j g2 ck2 L2 hj
    have hl := F.lt hS3
    refine ⟨S3, F.but hS3 hB (fun k hk ht => by have := hl k hk; have := hT k ht; omega), fun k hk => ⟨(hd3 k hk).1, (if_pos (hl k hk)).trans (hd3 k hk).2⟩⟩
  · have hjl : j < (ws ++ [(g, ck, L)]).length := (List.getElem?_eq_some_iff.1 hj).1
    simp only [List.length_append, List.length_cons, List.length_nil] at hjl
    obtain rfl : j = ws.length := by omega
    rw [List.getElem?_append_right (Nat.le_refl _), Nat.sub_self] at hj
    injection hj with hj
    injection hj with e1 hj
    injection hj with e2 e3
    subst e1; subst e2; subst e3
    refine ⟨S2, hw, fun k hk => ⟨fun e2 => by have := h1 k e2; have := hS2 k hk; omega, if_neg (by have := hS2 k hk; omega)⟩⟩
end
section
variable (F : WFace WAt) (Z : Nat → Prop) (i g : Nat) (ck : Int) (L : AL) (ws ws' : WL) (w : World) (h : Many WAt Z w ws) (hi : ws[i]? = some (g, ck, L)) (hn : L.length ≤ 1000000)
include F h hi hn
theorem mset (id at_ x : Int) (L' : AL) (hid : 0 ≤ id ∧ id < topW) (hat : 0 ≤ at_ ∧ at_ < topW) (hx : setE at_ = x) (hL : setA id at_ L = L') (hws : ws.set i (g, ck, L') = ws') :
    Calls Try.prog 9 #[.pointer (some ⟨g, 0, none⟩), .int .u64 id, .int .u64 at_] w (MDo WAt Z ws' (.int .i64 x) w) := by
  obtain ⟨S, hS, hk⟩ := many_does F h hi
  subst hx; subst hL; subst hws
  refine (F.set_ S g ck id at_ L w hS hn hid hat).mono ?_
  rintro e w' ⟨rfl, S', h1, h2, h3⟩
  exact ⟨rfl, hk _ _ _ _ h1 h2 h3⟩
theorem mstop (id x : Int) (L' : AL) (hid : 0 ≤ id ∧ id < topW) (hx : stopE id L = x) (hL : stopW id L = L') (hws : ws.set i (g, ck, L') = ws') :
    Calls Try.prog 11 #[.pointer (some ⟨g, 0, none⟩), .int .u64 id] w (MDo WAt Z ws' (.int .i64 x) w) := by
  obtain ⟨S, hS, hk⟩ := many_does F h hi
  subst hx; subst hL; subst hws
  refine (F.stop_ S g ck id L w hS hn hid).mono ?_
  rintro e w' ⟨rfl, S', h1, h2, h3⟩
  exact ⟨rfl, hk _ _ _ _ h1 h2 h3⟩
theorem mtick (now ck' x : Int) (L' : AL) (l : List Int) (ht : 0 ≤ now ∧ now < topW) (hc : tickC ck now = ck') (hx : tickE ck now = x) (hL : tickA ck now L = L') (hl : tickL ck now L = l) (hws : ws.set i (g, ck', L') = ws') :
    Calls Try.prog 13 #[.pointer (some ⟨g, 0, none⟩), .int .u64 now] w (MTick WAt Z ws' l x w) := by
  obtain ⟨S, hS, hk⟩ := many_doesV F h hi
  subst hx; subst hL; subst hws; subst hc; subst hl
  refine (F.tick_ S g ck now L w hS hn ht).mono ?_
  rintro e w' ⟨v, rfl, hl, S', h1, h2, h3, h4⟩
  have hvl : ∀ k, v.ownBlock = some k → k < w'.heap.size := fun k hk => by
    rcases hl with ⟨rfl, _⟩ | ⟨g', o, c, rfl, hr⟩
    · cases hk
    · injection hk with e
      subst e
      exact hr.lt
  obtain ⟨m1, m2⟩ := hk _ _ w' S' (fun k => v.ownBlock = some k) h1 h2 h3 (fun k hk => ⟨(h4 k hk).1, hvl k hk, (h4 k hk).2⟩)
  exact ⟨v, rfl, hl, fun b hb => (h4 b hb).1, m1, m2⟩
theorem mat (id y : Int) (b : Bool) (hid : 0 ≤ id ∧ id < topW) (hx : atV id L = (y, b)) :
    Calls Try.prog 19 #[.pointer (some ⟨g, 0, none⟩), .int .u64 id] w (MDo WAt Z ws (.tuple #[.int .u64 y, .bool b]) w) := by
  obtain ⟨S, hS, hk⟩ := many_does F h hi
  have hc := F.at_ S g ck id L w hS hn hid
  rw [hx] at hc
  refine hc.mono ?_
  rintro e w' ⟨rfl, S', h1, h2, h3⟩
  have := hk _ _ _ _ h1 h2 h3
  rw [set_same hi] at this
  exact ⟨rfl, this⟩
theorem mnext (y : Int) (b : Bool) (hx : nextW L = (y, b)) :
    Calls Try.prog 17 #[.pointer (some ⟨g, 0, none⟩)] w (MDo WAt Z ws (.tuple #[.int .u64 y, .bool b]) w) := by
  obtain ⟨S, hS, hk⟩ := many_does F h hi
  have hc := F.next_ S g ck L w hS hn
  rw [hx] at hc
  refine hc.mono ?_
  rintro e w' ⟨rfl, S', h1, h2, h3⟩
  have := hk _ _ _ _ h1 h2 h3
  rw [set_same hi] at this
  exact ⟨rfl, this⟩
theorem mlen (n : Nat) (hx : L.length = n) : Calls Try.prog 22 #[.pointer (some ⟨g, 0, none⟩)] w (QuietW (.int .i64 (n : Int)) w) := by
  obtain ⟨S, hS, hk⟩ := many_does F h hi
  subst hx
  exact F.len_ S g ck L w hS hn
theorem mcopy : Calls Try.prog 16 #[.pointer (some ⟨g, 0, none⟩)] w (MMore WAt Z ws ck L w) := by
  obtain ⟨h1, own, h2⟩ := id h
  obtain ⟨S, hS, hd⟩ := h2 i g ck L hi
  refine (F.copy_ S g ck L w hS hn).mono ?_
  rintro e w' ⟨g2, S1, S2, rfl, c1, c2, c3, c4, c5, c6⟩
  have hl := F.lt hS
  refine ⟨g2, rfl, ⟨fun k hk => c3.lt (h1 k hk), fun k => @ite _ (S2 k) (Classical.propDecidable _) ws.length (if k < w.heap.size then own k else i), fun j g3 ck3 L3 hj => ?_⟩, c3.mono (fun k _ hk => (hd k hk).1)⟩
  by_cases e : j < ws.length
  · rw [List.getElem?_append_left e] at hj
    by_cases e2 : j = i
    · subst e2
      rw [hi] at hj
      injection hj with hj
      injection hj with e1 hj
      injection hj with e2 e3
      subst e1; subst e2; subst e3
      refine ⟨S1, c1, fun k hk => ⟨fun e2 => ?_, ?_⟩⟩
      · rcases c4 k hk with h3 | h3
        · exact (hd k h3).1 e2
        · have := h1 k e2; omega
      · refine (if_neg (c6 k hk)).trans ?_
        rcases c4 k hk with h3 | h3
        · exact (if_pos (hl k h3)).trans (hd k h3).2
        · exact if_neg (by omega)
    · obtain ⟨S3, hS3, hd3⟩ := h2 j g3 ck3 L3 hj
      have hl3 := F.lt hS3
      refine ⟨S3, F.but hS3 c3 (fun k hk hk2 => e2 (by rw [← (hd3 k hk).2, (hd k hk2).2])), fun k hk => ⟨(hd3 k hk).1, ?_⟩⟩
      have h4 := hl3 k hk
      exact (if_neg (fun h5 => by have := c5 k h5; omega)).trans ((if_pos h4).trans (hd3 k hk).2)
  · have hjl : j < (ws ++ [(g2, ck, L)]).length := (List.getElem?_eq_some_iff.1 hj).1
    simp only [List.length_append, List.length_cons, List.length_nil] at hjl
    obtain rfl : j = ws.length := by omega
    rw [List.getElem?_append_right (Nat.le_refl _), Nat.sub_self] at hj
    injection hj with hj
    injection hj with e1 hj
    injection hj with e2 e3
    subst e1; subst e2; subst e3
    exact ⟨S2, c2, fun k hk => ⟨fun e2 => by have := h1 k e2; have := c5 k hk; omega, if_pos hk⟩⟩
end
theorem mnew (F : WFace WAt) (Z : Nat → Prop) (ws : WL) (w : World) (h : Many WAt Z w ws) : Calls Try.prog 8 #[] w (MMore WAt Z ws 0 [] w) := by
  refine (F.new_ w).mono ?_
  rintro e w' ⟨g, S, rfl, h1, h2, h3⟩
  exact ⟨g, rfl, many_add F h (T := fun _ => False) (But.of h2) (fun _ x => x.elim) h1 h3, But.of h2⟩
end Go.Proofs.Ytlpgabbnldalhaa
