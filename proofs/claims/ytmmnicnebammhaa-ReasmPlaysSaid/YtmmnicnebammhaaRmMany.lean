/-
  Several buffers apart from each other, in no block of Z: a call of one leaves the others, and Z, as they are.
-/
import Derived.Test.YtmmnicnebammhaaRmFace
namespace Go.Proofs.Ytmmnicnebammhaa
set_option maxRecDepth 10000
open Go.RowKit
set_option linter.unusedSimpArgs false
set_option linter.unusedVariables false
variable {BAt : BA}
abbrev ML := List (Nat × Int × BL)
/-- The buffers ws: block, next number, bytes; each block is one's alone. -/
def ManyR (BAt : BA) (Z : Nat → Prop) (w : World) (ws : ML) : Prop :=
  (∀ k, Z k → k < w.heap.size) ∧ ∃ own : Nat → Nat, ∀ (i : Nat) (g : Nat) (ck : Int) (L : BL), ws[i]? = some (g, ck, L) → ∃ S, BAt w S g ck L ∧ ∀ k, S k → ¬ Z k ∧ own k = i
def RDo (BAt : BA) (Z : Nat → Prop) (ws : ML) (v : Value) (w : World) (e : Ending) (w' : World) : Prop := e = .returned v ∧ ManyR BAt Z w' ws ∧ But (fun k => ¬ Z k) w w'
def RTake (BAt : BA) (Z : Nat → Prop) (ws : ML) (l : List Int) (w : World) (e : Ending) (w' : World) : Prop :=
  ∃ A c, e = .returned (.slice A l.length c) ∧ OwnB w' w.heap.size A l.length c l ∧ ManyR BAt (fun k => Z k ∨ (Value.slice A l.length c).ownBlock = some k) w' ws ∧ But (fun k => ¬ Z k) w w'
def RHeld (BAt : BA) (Z : Nat → Prop) (ws : ML) (l : List (Int × Int)) (w : World) (e : Ending) (w' : World) : Prop :=
  ∃ v, e = .returned v ∧ SlV w' 60 2 v l.length (flat2 l) ∧ (∀ b, v.ownBlock = some b → w.heap.size ≤ b) ∧ ManyR BAt (fun k => Z k ∨ v.ownBlock = some k) w' ws ∧ But (fun k => ¬ Z k) w w'
def RMore (BAt : BA) (Z : Nat → Prop) (ws : ML) (f : Nat → Value) (ck : Int) (L : BL) (w : World) (e : Ending) (w' : World) : Prop := ∃ g, e = .returned (f g) ∧ ManyR BAt Z w' (ws ++ [(g, ck, L)]) ∧ But (fun k => ¬ Z k) w w'
def ptrR (g : Nat) : Value := .pointer (some ⟨g, 0, none⟩)
def madeR (g : Nat) : Value := .tuple #[.pointer (some ⟨g, 0, none⟩), .int .i64 0]
section
variable {Z : Nat → Prop} {w w' : World} {ws : ML}
theorem ManyR.none_ (w : World) : ManyR BAt (fun k => k < w.heap.size) w [] := ⟨fun k hk => hk, fun _ => 0, fun i g ck L h => by simp at h⟩
theorem ManyR.sub {Z' : Nat → Prop} (h : ManyR BAt Z w ws) (hz : ∀ k, Z' k → Z k) : ManyR BAt Z' w ws := by
  obtain ⟨h1, own, h2⟩ := h
  refine ⟨fun k hk => h1 k (hz k hk), own, fun i g ck L hi => ?_⟩
  obtain ⟨S, hS, hd⟩ := h2 i g ck L hi
  exact ⟨S, hS, fun k hk => ⟨fun e => (hd k hk).1 (hz k e), (hd k hk).2⟩⟩
theorem ManyR.but (F : BFace BAt) {T : Nat → Prop} (h : ManyR BAt Z w ws) (hb : But T w w') (hT : ∀ k, T k → Z k ∨ w.heap.size ≤ k) : ManyR BAt Z w' ws := by
  obtain ⟨h1, own, h2⟩ := h
  refine ⟨fun k hk => hb.lt (h1 k hk), own, fun i g ck L hi => ?_⟩
  obtain ⟨S, hS, hd⟩ := h2 i g ck L hi
  refine ⟨S, F.but hS hb (fun k hk ht => ?_), hd⟩
  rcases hT k ht with e | e
  · exact (hd k hk).1 e
  · have := F.lt hS k hk; omega
/-- What has been laid since is nobody's: Z's from now on. -/
theorem ManyR.more (F : BFace BAt) {T : Nat → Prop} (h : ManyR BAt Z w ws) (hb : But T w w') (hT : ∀ k, T k → Z k ∨ w.heap.size ≤ k) {Z' : Nat → Prop} (hZ : ∀ k, Z' k → (Z k ∨ w.heap.size ≤ k) ∧ k < w'.heap.size) : ManyR BAt Z' w' ws := by
  obtain ⟨h1, own, h2⟩ := h
  refine ⟨fun k hk => (hZ k hk).2, own, fun i g ck L hi => ?_⟩
  obtain ⟨S, hS, hd⟩ := h2 i g ck L hi
  have hl := F.lt hS
  refine ⟨S, F.but hS hb (fun k hk ht => ?_), fun k hk => ⟨fun e => ?_, (hd k hk).2⟩⟩
  · rcases hT k ht with e | e
    · exact (hd k hk).1 e
    · have := hl k hk; omega
  · rcases (hZ k e).1 with e | e
    · exact (hd k hk).1 e
    · have := hl k hk; omega
theorem ManyR.alloc (F : BFace BAt) (h : ManyR BAt Z w ws) (o : Obj) : ManyR BAt (fun k => Z k ∨ k = w.heap.size) (w.alloc o) ws := by
  have h1 := h.1
  have hs : (w.alloc o).heap.size = w.heap.size + 1 := by simp
  refine h.more F (T := fun _ => False) ((But.refl _ _).alloc o) (fun _ x => x.elim) (fun k hk => ?_)
  rcases hk with e | e
  · have := h1 k e
    exact ⟨.inl e, by omega⟩
  · exact ⟨.inr (by omega), by omega⟩
theorem ManyR.ok (F : BFace BAt) (h : ManyR BAt Z w ws) {i g : Nat} {ck : Int} {L : BL} (hi : ws[i]? = some (g, ck, L)) : (0 ≤ ck ∧ ck < 4294967296) ∧ L.length ≤ 16384 ∧ okB L ∧ (heldB L).length ≤ 16 := by
  obtain ⟨_, own, h2⟩ := h
  obtain ⟨S, hS, _⟩ := h2 i g ck L hi
  exact F.ok hS
theorem manyr_doesV (F : BFace BAt) (h : ManyR BAt Z w ws) {i g : Nat} {ck : Int} {L : BL} (hi : ws[i]? = some (g, ck, L)) : ∃ S, BAt w S g ck L ∧ (∀ k, S k → ¬ Z k) ∧ ∀ (ck' : Int) (L' : BL) (w' : World) (S' V : Nat → Prop), BAt w' S' g ck' L' → But S w w' → (∀ k, S' k → S k ∨ w.heap.size ≤ k) → (∀ k, V k → w.heap.size ≤ k ∧ k < w'.heap.size ∧ ¬ S' k) →
    ManyR BAt (fun k => Z k ∨ V k) w' (ws.set i (g, ck', L')) ∧ But (fun k => ¬ Z k) w w' := by
  obtain ⟨h1, own, h2⟩ := h
  obtain ⟨S, hS, hd⟩ := h2 i g ck L hi
  refine ⟨S, hS, fun k hk => (hd k hk).1, fun ck' L' w' S' V hS' hB hs hV => ⟨⟨fun k hk => ?_, fun k => if k < w.heap.size then own k else i, fun j g2 ck2 L2 hj => ?_⟩, hB.mono (fun k _ hk => (hd k hk).1)⟩⟩
  · rcases hk with hk | hk
    · exact hB.lt (h1 k hk)
    · exact (hV k hk).2.1
  by_cases e : j = i
  · subst e
    have hl := (List.getElem?_eq_some_iff.1 hi).1
    rw [List.getElem?_set_self hl] at hj
    injection hj with hj
    injection hj with e1 hj
    injection hj with e2 e3
    subst e1; subst e2; subst e3
    refine ⟨S', hS', fun k hk => ?_⟩
    rcases hs k hk with h3 | h3
    · have h4 := F.lt hS k h3
      refine ⟨fun e => ?_, (if_pos h4).trans (hd k h3).2⟩
      rcases e with e | e
      · exact (hd k h3).1 e
      · exact (hV k e).2.2 hk
    · refine ⟨fun e => ?_, if_neg (by omega)⟩
      rcases e with e | e
      · have := h1 k e; omega
      · exact (hV k e).2.2 hk
  · rw [List.getElem?_set_ne (fun e2 => e e2.symm)] at hj
    obtain ⟨S2, hS2, hd2⟩ := h2 j g2 ck2 L2 hj
    have hl2 := F.lt hS2
    refine ⟨S2, F.but hS2 hB (fun k hk hk2 => e (by rw [← (hd2 k hk).2, (hd k hk2).2])), fun k hk => ⟨fun e2 => ?_, ?_⟩⟩
    · rcases e2 with e2 | e2
      · exact (hd2 k hk).1 e2
      · have := hl2 k hk; have := (hV k e2).1; omega
    · exact (if_pos (hl2 k hk)).trans (hd2 k hk).2
theorem manyr_doesZ (F : BFace BAt) (h : ManyR BAt Z w ws) {i g : Nat} {ck : Int} {L : BL} (hi : ws[i]? = some (g, ck, L)) : ∃ S, BAt w S g ck L ∧ (∀ k, S k → ¬ Z k) ∧ ∀ (ck' : Int) (L' : BL) (w' : World) (S' : Nat → Prop), BAt w' S' g ck' L' → But S w w' → (∀ k, S' k → S k ∨ w.heap.size ≤ k) → ManyR BAt Z w' (ws.set i (g, ck', L')) ∧ But (fun k => ¬ Z k) w w' := by
  obtain ⟨S, hS, hz, hk⟩ := manyr_doesV F h hi
  refine ⟨S, hS, hz, fun ck' L' w' S' h1 h2 h3 => ?_⟩
  obtain ⟨m1, m2⟩ := hk ck' L' w' S' (fun _ => False) h1 h2 h3 (fun _ x => x.elim)
  exact ⟨m1.sub (fun k hk => .inl hk), m2⟩
theorem manyr_does (F : BFace BAt) (h : ManyR BAt Z w ws) {i g : Nat} {ck : Int} {L : BL} (hi : ws[i]? = some (g, ck, L)) : ∃ S, BAt w S g ck L ∧ ∀ (ck' : Int) (L' : BL) (w' : World) (S' : Nat → Prop), BAt w' S' g ck' L' → But S w w' → (∀ k, S' k → S k ∨ w.heap.size ≤ k) → ManyR BAt Z w' (ws.set i (g, ck', L')) ∧ But (fun k => ¬ Z k) w w' := by
  obtain ⟨S, hS, hz, hk⟩ := manyr_doesV F h hi
  refine ⟨S, hS, fun ck' L' w' S' h1 h2 h3 => ?_⟩
  obtain ⟨m1, m2⟩ := hk ck' L' w' S' (fun _ => False) h1 h2 h3 (fun _ x => x.elim)
  exact ⟨m1.sub (fun k hk => .inl hk), m2⟩
theorem set_sameR {i : Nat} {x : Nat × Int × BL} (hi : ws[i]? = some x) : ws.set i x = ws := by
  obtain ⟨h, e⟩ := List.getElem?_eq_some_iff.1 hi
  rw [← e]
  exact List.set_getElem_self h
theorem manyr_add (F : BFace BAt) (h : ManyR BAt Z w ws) {T S2 : Nat → Prop} (hB : But T w w') (hT : ∀ k, T k → w.heap.size ≤ k) {g : Nat} {ck : Int} {L : BL} (hw : BAt w' S2 g ck L) (hS2 : ∀ k, S2 k → w.heap.size ≤ k) : ManyR BAt Z w' (ws ++ [(g, ck, L)]) := by
  obtain ⟨h1, own, h2⟩ := h
  refine ⟨fun k hk => hB.lt (h1 k hk), fun k => if k < w.heap.size then own k else ws.length, fun j g2 ck2 L2 hj => ?_⟩
  by_cases e : j < ws.length
  · rw [List.getElem?_append_left e] at hj
    obtain ⟨S3, hS3, hd3⟩ := h2 j g2 ck2 L2 hj
    have hl := F.lt hS3
    refine ⟨S3, F.but hS3 hB (fun k hk ht => by have := hl k hk; have := hT k ht; omega), fun k hk => ⟨(hd3 k hk).1, (if_pos (hl k hk)).trans (hd3 k hk).2⟩⟩
  · have hjl : j < (ws ++ [(g, ck, L)]).length := (List.getElem?_eq_some_iff.1 hj).1
    simp only [List.length_append, List.length_cons, List.length_nil] at hjl
    obtain rfl : j = ws.length := by omega
    rw [List.getElem?_append_right (Nat.le_refl _), Nat.sub_self] at hj
    injection hj with hj
    injection hj with e1 hj
    injection hj with e2 e3
    subst e1; subst e2; subst e3
    refine ⟨S2, hw, fun k hk => ⟨fun e2 => by have := h1 k e2; have := hS2 k hk; omega, if_neg (by have := hS2 k hk; omega)⟩⟩
end
section
variable (F : BFace BAt) (Z : Nat → Prop) (i g : Nat) (ck : Int) (L : BL) (ws ws' : ML) (w : World) (h : ManyR BAt Z w ws) (hi : ws[i]? = some (g, ck, L))
include F h hi
theorem rput (a : Int) (A : Option Addr) (n c : Nat) (l : List Int) (d : Int) (L' : BL) (m : Nat) (x : Int) (ha : 0 ≤ a ∧ a < 4294967296) (hr : Rd w A n l) (hn : n ≤ 100000) (hnc : n ≤ c) (hc : c ≤ maxLen) (hA : ∀ b o, A = some ⟨b, o, none⟩ → 0 < n → Z b)
    (hd : diffB a ck = d) (hL : putQ d l L = L') (hm : putN d l L = m) (hx : putE d l L = x) (hws : ws.set i (g, ck, L') = ws') :
    Calls Try.prog 11 #[.pointer (some ⟨g, 0, none⟩), .int .u32 a, .slice A n c] w (RDo BAt Z ws' (.tuple #[.int .i64 (m : Int), .int .i64 x]) w) := by
  subst hd; subst hL; subst hm; subst hx; subst hws
  obtain ⟨S, hS, hZ, hk⟩ := manyr_doesZ F h hi
  refine (F.put_ S g ck L a A n c l w hS ha hr hn hnc hc (fun b o e h0 hb => hZ b hb (hA b o e h0))).mono ?_
  rintro e w' ⟨rfl, S', h1, h2, h3⟩
  exact ⟨rfl, hk _ _ _ _ h1 h2 h3⟩
theorem rtake (ck' : Int) (L' : BL) (l : List Int) (hc : num32 (ck + readyB L) = ck') (hL : leftB L = L') (hl : takeB L = l) (hws : ws.set i (g, ck', L') = ws') :
    Calls Try.prog 13 #[.pointer (some ⟨g, 0, none⟩)] w (RTake BAt Z ws' l w) := by
  obtain ⟨S, hS, hz, hk⟩ := manyr_doesV F h hi
  subst hc; subst hL; subst hl; subst hws
  refine (F.take_ S g ck L w hS).mono ?_
  rintro e w' ⟨A, c, rfl, hl, S', h1, h2, h3, h4⟩
  have hb : ∀ k, (Value.slice A (takeB L).length c).ownBlock = some k → w.heap.size ≤ k ∧ k < w'.heap.size ∧ ¬ S' k := fun k hk => by
    rcases id hl.2 with ⟨e, _⟩ | ⟨g2, cap, cur, e, hB, hg, _⟩
    · rw [e] at hk; cases hk
    · rw [e] at hk
      injection hk with hk
      subst hk
      exact ⟨hB, lt_of_block hg, h4 _ (by rw [e]; rfl)⟩
  obtain ⟨m1, m2⟩ := hk _ _ w' S' (fun k => (Value.slice A (takeB L).length c).ownBlock = some k) h1 h2 h3 hb
  exact ⟨A, c, rfl, hl, m1, m2⟩
theorem rheld (l : List (Int × Int)) (hl : heldI ck L = l) : Calls Try.prog 21 #[.pointer (some ⟨g, 0, none⟩)] w (RHeld BAt Z ws l w) := by
  obtain ⟨S, hS, hz, hk⟩ := manyr_doesV F h hi
  subst hl
  refine (F.held_ S g ck L w hS).mono ?_
  rintro e w' ⟨v, rfl, hl, S', h1, h2, h3, h4⟩
  have hb : ∀ k, v.ownBlock = some k → w.heap.size ≤ k ∧ k < w'.heap.size ∧ ¬ S' k := fun k hk => ⟨(h4 k hk).1, hl.lt hk, (h4 k hk).2⟩
  obtain ⟨m1, m2⟩ := hk _ _ w' S' (fun k => v.ownBlock = some k) h1 h2 h3 hb
  rw [set_sameR hi] at m1
  exact ⟨v, rfl, hl, fun b hb' => (h4 b hb').1, m1, m2⟩
theorem rnext : Calls Try.prog 16 #[.pointer (some ⟨g, 0, none⟩)] w (RDo BAt Z ws (.int .u32 ck) w) := by
  obtain ⟨S, hS, hk⟩ := manyr_does F h hi
  refine (F.next_ S g ck L w hS).mono ?_
  rintro e w' ⟨rfl, S', h1, h2, h3⟩
  have := hk _ _ _ _ h1 h2 h3
  rw [set_sameR hi] at this
  exact ⟨rfl, this⟩
theorem rroom (n : Nat) (hn : L.length = n) : Calls Try.prog 17 #[.pointer (some ⟨g, 0, none⟩)] w (RDo BAt Z ws (.int .i64 (n : Int)) w) := by
  obtain ⟨S, hS, hk⟩ := manyr_does F h hi
  subst hn
  refine (F.room_ S g ck L w hS).mono ?_
  rintro e w' ⟨rfl, S', h1, h2, h3⟩
  have := hk _ _ _ _ h1 h2 h3
  rw [set_sameR hi] at this
  exact ⟨rfl, this⟩
theorem rready (n : Nat) (hn : readyB L = n) : Calls Try.prog 18 #[.pointer (some ⟨g, 0, none⟩)] w (RDo BAt Z ws (.int .i64 (n : Int)) w) := by
  obtain ⟨S, hS, hk⟩ := manyr_does F h hi
  subst hn
  refine (F.ready_ S g ck L w hS).mono ?_
  rintro e w' ⟨rfl, S', h1, h2, h3⟩
  have := hk _ _ _ _ h1 h2 h3
  rw [set_sameR hi] at this
  exact ⟨rfl, this⟩
theorem rcopy : Calls Try.prog 15 #[.pointer (some ⟨g, 0, none⟩)] w (RMore BAt Z ws ptrR ck L w) := by
  obtain ⟨h1, own, h2⟩ := id h
  obtain ⟨S, hS, hd⟩ := h2 i g ck L hi
  refine (F.copy_ S g ck L w hS).mono ?_
  rintro e w' ⟨g2, S1, S2, rfl, c1, c2, c3, c4, c5, c6⟩
  have hl := F.lt hS
  refine ⟨g2, rfl, ⟨fun k hk => c3.lt (h1 k hk), fun k => @ite _ (S2 k) (Classical.propDecidable _) ws.length (if k < w.heap.size then own k else i), fun j g3 ck3 L3 hj => ?_⟩, c3.mono (fun k _ hk => (hd k hk).1)⟩
  by_cases e : j < ws.length
  · rw [List.getElem?_append_left e] at hj
    by_cases e2 : j = i
    · subst e2
      rw [hi] at hj
      injection hj with hj
      injection hj with e1 hj
      injection hj with e2 e3
      subst e1; subst e2; subst e3
      refine ⟨S1, c1, fun k hk => ⟨fun e2 => ?_, ?_⟩⟩
      · rcases c4 k hk with h3 | h3
        · exact (hd k h3).1 e2
        · have := h1 k e2; omega
      · refine (if_neg (c6 k hk)).trans ?_
        rcases c4 k hk with h3 | h3
        · exact (if_pos (hl k h3)).trans (hd k h3).2
        · exact if_neg (by omega)
    · obtain ⟨S3, hS3, hd3⟩ := h2 j g3 ck3 L3 hj
      have hl3 := F.lt hS3
      refine ⟨S3, F.but hS3 c3 (fun k hk hk2 => e2 (by rw [← (hd3 k hk).2, (hd k hk2).2])), fun k hk => ⟨(hd3 k hk).1, ?_⟩⟩
      have h4 := hl3 k hk
      exact (if_neg (fun h5 => by have := c5 k h5; omega)).trans ((if_pos h4).trans (hd3 k hk).2)
  · have hjl : j < (ws ++ [(g2, ck, L)]).length := (List.getElem?_eq_some_iff.1 hj).1
    simp only [List.length_append, List.length_cons, List.length_nil] at hjl
    obtain rfl : j = ws.length := by omega
    rw [List.getElem?_append_right (Nat.le_refl _), Nat.sub_self] at hj
    injection hj with hj
    injection hj with e1 hj
    injection hj with e2 e3
    subst e1; subst e2; subst e3
    exact ⟨S2, c2, fun k hk => ⟨fun e2 => by have := h1 k e2; have := c5 k hk; omega, if_pos hk⟩⟩
end
theorem rnew (F : BFace BAt) (Z : Nat → Prop) (ws : ML) (w : World) (h : ManyR BAt Z w ws) (at_ : Int) (n : Nat) (ha : 0 ≤ at_ ∧ at_ < 4294967296) (hn : n ≤ 16384) : Calls Try.prog 8 #[.int .u32 at_, .int .i64 (n : Int)] w (RMore BAt Z ws madeR at_ (List.replicate n none) w) := by
  refine (F.new_ok at_ n w ha hn).mono ?_
  rintro e w' ⟨g, S, rfl, h1, h2, h3⟩
  exact ⟨g, rfl, manyr_add F h (T := fun _ => False) (But.of h2) (fun _ x => x.elim) h1 h3, But.of h2⟩
end Go.Proofs.Ytmmnicnebammhaa
