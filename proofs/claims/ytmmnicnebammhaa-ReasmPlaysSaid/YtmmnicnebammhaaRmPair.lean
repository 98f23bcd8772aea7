/-
  Buffers of the program's beside the document's one ('PP'): each call leaves the others, the base world and the blocks D of the law's own as they are.
-/
import Derived.Test.YtmmnicnebammhaaRmMany
import Derived.Test.YtmmnicnebammhaaRmRefPut
import Derived.Test.YtmmnicnebammhaaRmRefNew
namespace Go.Proofs.Ytmmnicnebammhaa
set_option maxRecDepth 10000
open Go.RowKit
set_option linter.unusedSimpArgs false
set_option linter.unusedVariables false
variable {BAt : BA}

def ZP (w0 : World) (T D : Nat → Prop) : Nat → Prop := fun k => k < w0.heap.size ∨ T k ∨ D k
structure PP (BAt : BA) (w0 : World) (T D : Nat → Prop) (ws : ML) (gw : Nat) (at_ : Int) (L : BL) (w : World) : Prop where
  ref : RefR w T gw at_ L
  tb : ∀ k, T k → w0.heap.size ≤ k ∧ ¬ D k
  many : ManyR BAt (ZP w0 T D) w ws
  old : Below w0.heap.size w0 w
def PDo (BAt : BA) (w0 : World) (T D : Nat → Prop) (ws : ML) (gw : Nat) (at_ : Int) (L : BL) (v : Value) (w : World) (e : Ending) (w' : World) : Prop := e = .returned v ∧ PP BAt w0 T D ws gw at_ L w' ∧ But (fun k => ¬ ZP w0 T D k) w w'
def PTk (BAt : BA) (w0 : World) (T D : Nat → Prop) (ws : ML) (gw : Nat) (at_ : Int) (L : BL) (l : List Int) (w : World) (e : Ending) (w' : World) : Prop :=
  ∃ A n c, e = .returned (.slice A n c) ∧ l.length = n ∧ OwnB w' w.heap.size A n c l ∧ PP BAt w0 T (fun k => D k ∨ (Value.slice A n c).ownBlock = some k) ws gw at_ L w' ∧ But (fun k => ¬ ZP w0 T D k) w w'
def PHd (BAt : BA) (w0 : World) (T D : Nat → Prop) (ws : ML) (gw : Nat) (at_ : Int) (L : BL) (l : List (Int × Int)) (w : World) (e : Ending) (w' : World) : Prop :=
  ∃ v, e = .returned v ∧ SlV w' 60 2 v l.length (flat2 l) ∧ PP BAt w0 T (fun k => D k ∨ v.ownBlock = some k) ws gw at_ L w' ∧ But (fun k => ¬ ZP w0 T D k) w w'
def PMore (BAt : BA) (w0 : World) (T D : Nat → Prop) (ws : ML) (gw : Nat) (at_ : Int) (L : BL) (ck : Int) (M : BL) (w : World) (e : Ending) (w' : World) : Prop := ∃ g, e = .returned (ptrR g) ∧ PP BAt w0 T D (ws ++ [(g, ck, M)]) gw at_ L w' ∧ But (fun k => ¬ ZP w0 T D k) w w'
theorem OwnB.blkP {w : World} {B n c b : Nat} {A : Option Addr} {l : List Int} (h : OwnB w B A n c l) (hb : (Value.slice A n c).ownBlock = some b) : B ≤ b ∧ b < w.heap.size := by
  rcases h.2 with ⟨e, _⟩ | ⟨g2, cap, cur, e, hB, hg, _⟩
  · rw [e] at hb; cases hb
  · rw [e] at hb
    injection hb with hb
    subst hb
    exact ⟨hB, lt_of_block hg⟩
theorem anyH_monoP {P : Program} {md : Region.Mode} {ops : Array Oper} {Q : Exit → Act → World → Prop} {S S' : World → Prop} (hS : ∀ w, S' w → S w) :
    ∀ (fuel : Nat) (listed : Array Bool) (a : Act) (w : World), wpAnyH P md ops Q S' fuel listed a w → wpAnyH P md ops Q S fuel listed a w
  | 0, _, _, _, h => h
  | fuel + 1, _, _, _, h => ⟨h.1, fun i hi => wpOp_mono (fun a' w' h' => ⟨hS w' h'.1, anyH_monoP hS fuel _ a' w' h'.2⟩) (h.2 i hi)⟩
section
variable {w0 w w' : World} {T D : Nat → Prop} {ws ws' : ML} {gw : Nat} {at_ : Int} {L : BL}
theorem notZ {k : Nat} (h : ¬ ZP w0 T D k) : w0.heap.size ≤ k := Nat.le_of_not_lt (fun e => h (.inl e))
theorem PP.size (h : PP BAt w0 T D ws gw at_ L w) : w0.heap.size ≤ w.heap.size := h.old.size
theorem PP.dlt (h : PP BAt w0 T D ws gw at_ L w) {k : Nat} (hk : D k) : k < w.heap.size := h.many.1 k (.inr (.inr hk))
theorem PP.tlt (h : PP BAt w0 T D ws gw at_ L w) {k : Nat} (hk : T k) : k < w.heap.size := h.many.1 k (.inr (.inl hk))
/-- A call of one of the program's buffers. -/
theorem PP.own (h : PP BAt w0 T D ws gw at_ L w) (h1 : ManyR BAt (ZP w0 T D) w' ws') (h2 : But (fun k => ¬ ZP w0 T D k) w w') : PP BAt w0 T D ws' gw at_ L w' :=
  ⟨h.ref.but h2 (fun k hk hn => hn (.inr (.inl hk))), h.tb, h1, h.old.trans (h2.below (fun k hk => notZ hk) h.old.size)⟩
theorem PP.below (F : BFace BAt) (h : PP BAt w0 T D ws gw at_ L w) (hb : Below w.heap.size w w') : PP BAt w0 T D ws gw at_ L w' :=
  ⟨h.ref.but (But.of (S := fun _ => False) hb) (fun _ _ x => x), h.tb, h.many.but F (T := fun _ => False) (But.of hb) (fun _ x => x.elim), below_trans h.old hb⟩
/-- Blocks of the law's own turn. -/
theorem PP.turn (F : BFace BAt) {V : Nat → Prop} (h : PP BAt w0 T D ws gw at_ L w) (hb : But V w w') (hV : ∀ k, V k → D k ∧ w0.heap.size ≤ k) : PP BAt w0 T D ws gw at_ L w' :=
  ⟨h.ref.but hb (fun k hk hv => (h.tb k hk).2 (hV k hv).1), h.tb, h.many.but F hb (fun k hk => .inl (.inr (.inr (hV k hk).1))), h.old.trans (hb.below (fun k hk => (hV k hk).2) h.old.size)⟩
theorem PP.sub {D' : Nat → Prop} (h : PP BAt w0 T D ws gw at_ L w) (hd : ∀ k, D' k → D k) : PP BAt w0 T D' ws gw at_ L w :=
  ⟨h.ref, fun k hk => ⟨(h.tb k hk).1, fun e => (h.tb k hk).2 (hd k e)⟩, h.many.sub (fun k hk => by
    rcases hk with e | e | e
    · exact .inl e
    · exact .inr (.inl e)
    · exact .inr (.inr (hd k e))), h.old⟩
/-- What has been laid since is the law's own. -/
theorem PP.more (F : BFace BAt) {D' : Nat → Prop} (h : PP BAt w0 T D ws gw at_ L w) (hb : Below w.heap.size w w') (hd : ∀ k, D' k → (D k ∨ w.heap.size ≤ k) ∧ k < w'.heap.size) : PP BAt w0 T D' ws gw at_ L w' := by
  have h' := h.below F hb
  refine ⟨h'.ref, fun k hk => ⟨(h.tb k hk).1, fun e => ?_⟩, h.many.more F (T := fun _ => False) (But.of hb) (fun _ x => x.elim) (fun k hk => ?_), h'.old⟩
  · rcases (hd k e).1 with e1 | e1
    · exact (h.tb k hk).2 e1
    · have := h.tlt hk; omega
  · rcases hk with e | e | e
    · exact ⟨.inl (.inl e), by have := h'.old.size; omega⟩
    · exact ⟨.inl (.inr (.inl e)), Nat.lt_of_lt_of_le (h.tlt e) hb.size⟩
    · refine ⟨?_, (hd k e).2⟩
      rcases (hd k e).1 with e1 | e1
      · exact .inl (.inr (.inr e1))
      · exact .inr e1
/-- One of the buffers alone. -/
theorem PP.pick (h : PP BAt w0 T D ws gw at_ L w) {i : Nat} {x : Nat × Int × BL} (hi : ws[i]? = some x) : PP BAt w0 T D [x] gw at_ L w := by
  refine ⟨h.ref, h.tb, ⟨h.many.1, fun _ => 0, fun j g ck M hj => ?_⟩, h.old⟩
  cases j with
  | succ j => simp at hj
  | zero =>
    obtain ⟨-, own, h2⟩ := h.many
    have hj : x = (g, ck, M) := by simpa using hj
    rw [hj] at hi
    obtain ⟨S, hS, hd⟩ := h2 i g ck M hi
    exact ⟨S, hS, fun k hk => ⟨(hd k hk).1, rfl⟩⟩
theorem PP.ok (F : BFace BAt) (h : PP BAt w0 T D ws gw at_ L w) {i g : Nat} {ck : Int} {M : BL} (hi : ws[i]? = some (g, ck, M)) : (0 ≤ ck ∧ ck < 4294967296) ∧ M.length ≤ 16384 ∧ okB M ∧ (heldB M).length ≤ 16 := h.many.ok F hi
/-- Of the document's: the block. -/
theorem PP.box (h : PP BAt w0 T D ws gw at_ L w) : ∃ A n c vB, L.length = n ∧ w.heap[gw]? = some (.cells #[.int .u32 at_, .slice A n c, vB] 37 (0, 0)) ∧ SlV w 4 1 (.slice A n c) L.length (isV L) ∧ T gw := by
  obtain ⟨vI, vB, h1, h2, h3, h4, _⟩ := h.ref
  obtain ⟨A, c, rfl⟩ := h2.form
  exact ⟨A, _, c, vB, rfl, h1, h2, h4⟩
end
section
variable (F : BFace BAt) {w0 w : World} {T D : Nat → Prop} {ws : ML} {gw : Nat} {at_ : Int} {L : BL} (h : PP BAt w0 T D ws gw at_ L w) (ws' : ML) (i g : Nat) (ck : Int) (M : BL) (hi : ws[i]? = some (g, ck, M))
include F h hi
theorem pput (a : Int) (A : Option Addr) (n c : Nat) (l : List Int) (d : Int) (M' : BL) (m : Nat) (x : Int) (ha : 0 ≤ a ∧ a < 4294967296) (hr : Rd w A n l) (hn : n ≤ 100000) (hnc : n ≤ c) (hc : c ≤ maxLen) (hA : ∀ b o, A = some ⟨b, o, none⟩ → 0 < n → D b)
    (hd : diffB a ck = d) (hL : putQ d l M = M') (hm : putN d l M = m) (hx : putE d l M = x) (hws : ws.set i (g, ck, M') = ws') :
    Calls Try.prog 11 #[.pointer (some ⟨g, 0, none⟩), .int .u32 a, .slice A n c] w (PDo BAt w0 T D ws' gw at_ L (.tuple #[.int .i64 (m : Int), .int .i64 x]) w) :=
  (rput F _ i g ck M ws ws' w h.many hi a A n c l d M' m x ha hr hn hnc hc (fun b o e h0 => .inr (.inr (hA b o e h0))) hd hL hm hx hws).mono (by
    rintro e w' ⟨rfl, h1, h2⟩
    exact ⟨rfl, h.own h1 h2, h2⟩)
theorem ptake (ck' : Int) (M' : BL) (l : List Int) (hc : num32 (ck + readyB M) = ck') (hL : leftB M = M') (hl : takeB M = l) (hws : ws.set i (g, ck', M') = ws') :
    Calls Try.prog 13 #[.pointer (some ⟨g, 0, none⟩)] w (PTk BAt w0 T D ws' gw at_ L l w) :=
  (rtake F _ i g ck M ws ws' w h.many hi ck' M' l hc hL hl hws).mono (by
    rintro e w' ⟨A, c, rfl, ho, h1, h2⟩
    refine ⟨A, _, c, rfl, rfl, ho, ⟨h.ref.but h2 (fun k hk hn => hn (.inr (.inl hk))), fun k hk => ⟨(h.tb k hk).1, fun e => ?_⟩, h1.sub (fun k hk => ?_), h.old.trans (h2.below (fun k hk => notZ hk) h.old.size)⟩, h2⟩
    · rcases e with e | e
      · exact (h.tb k hk).2 e
      · have := (ho.blkP e).1; have := h.tlt hk; omega
    · rcases hk with e | e | e | e
      · exact .inl (.inl e)
      · exact .inl (.inr (.inl e))
      · exact .inl (.inr (.inr e))
      · exact .inr e)
theorem pheld (l : List (Int × Int)) (hl : heldI ck M = l) : Calls Try.prog 21 #[.pointer (some ⟨g, 0, none⟩)] w (PHd BAt w0 T D ws gw at_ L l w) :=
  (rheld F _ i g ck M ws w h.many hi l hl).mono (by
    rintro e w' ⟨v, rfl, hs, ho, h1, h2⟩
    refine ⟨v, rfl, hs, ⟨h.ref.but h2 (fun k hk hn => hn (.inr (.inl hk))), fun k hk => ⟨(h.tb k hk).1, fun e => ?_⟩, h1.sub (fun k hk => ?_), h.old.trans (h2.below (fun k hk => notZ hk) h.old.size)⟩, h2⟩
    · rcases e with e | e
      · exact (h.tb k hk).2 e
      · have := ho k e; have := h.tlt hk; omega
    · rcases hk with e | e | e | e
      · exact .inl (.inl e)
      · exact .inl (.inr (.inl e))
      · exact .inl (.inr (.inr e))
      · exact .inr e)
theorem pnext : Calls Try.prog 16 #[.pointer (some ⟨g, 0, none⟩)] w (PDo BAt w0 T D ws gw at_ L (.int .u32 ck) w) :=
  (rnext F _ i g ck M ws w h.many hi).mono (by
    rintro e w' ⟨rfl, h1, h2⟩
    exact ⟨rfl, h.own h1 h2, h2⟩)
theorem proom (n : Nat) (hn : M.length = n) : Calls Try.prog 17 #[.pointer (some ⟨g, 0, none⟩)] w (PDo BAt w0 T D ws gw at_ L (.int .i64 (n : Int)) w) :=
  (rroom F _ i g ck M ws w h.many hi n hn).mono (by
    rintro e w' ⟨rfl, h1, h2⟩
    exact ⟨rfl, h.own h1 h2, h2⟩)
theorem pready (n : Nat) (hn : readyB M = n) : Calls Try.prog 18 #[.pointer (some ⟨g, 0, none⟩)] w (PDo BAt w0 T D ws gw at_ L (.int .i64 (n : Int)) w) :=
  (rready F _ i g ck M ws w h.many hi n hn).mono (by
    rintro e w' ⟨rfl, h1, h2⟩
    exact ⟨rfl, h.own h1 h2, h2⟩)
theorem pcopy : Calls Try.prog 15 #[.pointer (some ⟨g, 0, none⟩)] w (PMore BAt w0 T D ws gw at_ L ck M w) :=
  (rcopy F _ i g ck M ws w h.many hi).mono (by
    rintro e w' ⟨g2, rfl, h1, h2⟩
    exact ⟨g2, rfl, h.own h1 h2, h2⟩)
end
section
variable (F : BFace BAt) {w0 w : World} {T D : Nat → Prop} {ws : ML} {gw : Nat} {at_ : Int} {L : BL} (h : PP BAt w0 T D ws gw at_ L w)
include F h
/-- A call of the document's buffer. -/
theorem PP.refd {T' : Nat → Prop} {at2 : Int} {L' : BL} {w' : World} (h1 : RefR w' T' gw at2 L') (h2 : But T w w') (h3 : ∀ k, T' k → T k ∨ w.heap.size ≤ k) : PP BAt w0 T' D ws gw at2 L' w' := by
  have h7 : ∀ k, T' k → k < w'.heap.size := by obtain ⟨_, _, _, _, _, _, _, _, h7⟩ := h1; exact h7
  refine ⟨h1, fun k hk => ?_, h.many.more F h2 (fun k hk => .inl (.inr (.inl hk))) (fun k hk => ?_), h.old.trans (h2.below (fun k hk => (h.tb k hk).1) h.old.size)⟩
  · rcases h3 k hk with e | e
    · exact h.tb k e
    · refine ⟨by have := h.old.size; omega, fun e2 => ?_⟩
      have := h.dlt e2
      omega
  · rcases hk with e | e | e
    · exact ⟨.inl (.inl e), by have := h.old.size; have := h2.size; omega⟩
    · refine ⟨?_, h7 k e⟩
      rcases h3 k e with e1 | e1
      · exact .inl (.inr (.inl e1))
      · exact .inr e1
    · exact ⟨.inl (.inr (.inr e)), Nat.lt_of_lt_of_le (h.dlt e) h2.size⟩
def PRDo (BAt : BA) (w0 : World) (T D : Nat → Prop) (ws : ML) (gw : Nat) (at_ : Int) (L : BL) (v : Value) (w : World) (e : Ending) (w' : World) : Prop := e = .returned v ∧ ∃ T', PP BAt w0 T' D ws gw at_ L w' ∧ But T w w'
theorem prput (a : Int) (A : Option Addr) (n c : Nat) (l : List Int) (d : Int) (L' : BL) (m : Nat) (x : Int) (hat : 0 ≤ at_ ∧ at_ < 4294967296) (hL0 : L.length ≤ 16384) (ha : 0 ≤ a ∧ a < 4294967296) (hr : Rd w A n l) (hn : n ≤ 100000)
    (hd : diffB a at_ = d) (hL : putQ d l L = L') (hm : putN d l L = m) (hx : putE d l L = x) :
    Calls Try.prog 12 #[.pointer (some ⟨gw, 0, none⟩), .int .u32 a, .slice A n c] w (PRDo BAt w0 T D ws gw at_ L' (.tuple #[.int .i64 (m : Int), .int .i64 x]) w) := by
  subst hd; subst hL; subst hm; subst hx
  refine (rput18_any T gw at_ a L A n c l w h.ref hL0 hat ha hr hn).mono ?_
  rintro e w' ⟨rfl, T', h1, h2, h3⟩
  exact ⟨rfl, T', h.refd F h1 h2 h3, h2⟩
def PRTk (BAt : BA) (w0 : World) (T D : Nat → Prop) (ws : ML) (gw : Nat) (at_ : Int) (L : BL) (l : List Int) (w : World) (e : Ending) (w' : World) : Prop := ∃ A n c, e = .returned (.slice A n c) ∧ l.length = n ∧ OwnB w' w.heap.size A n c l ∧ ∃ T', PP BAt w0 T' D ws gw at_ L w' ∧ But T w w'
theorem prtake (at2 : Int) (L' : BL) (l : List Int) (hok : okB L) (hn : L.length ≤ 16384) (hl : takeB L = l) (hL : leftB L = L') (hc : num32 (at_ + readyB L) = at2) :
    Calls Try.prog 14 #[.pointer (some ⟨gw, 0, none⟩)] w (PRTk BAt w0 T D ws gw at2 L' l w) := by
  refine (rtake18_any T gw at_ at2 L L' l w h.ref hok hn hl hL hc).mono ?_
  rintro e w' ⟨A, c, rfl, ho, T', h1, h2, h3, -⟩
  exact ⟨A, _, c, rfl, rfl, ho, T', h.refd F h1 h2 h3, h2⟩
omit F in
theorem prready (n : Nat) (hn0 : L.length ≤ 16384) (hn : readyB L = n) : Calls Try.prog 19 #[.pointer (some ⟨gw, 0, none⟩)] w (fun e w' => e = .returned (.int .i64 (n : Int)) ∧ w' = w) := rready18_any T gw at_ L n w h.ref hn0 hn
omit F in
theorem prheld (l : List (Int × Int)) (hn0 : L.length ≤ 16384) (hl : heldI at_ L = l) : Calls Try.prog 22 #[.pointer (some ⟨gw, 0, none⟩)] w (fun e w' => ∃ v, e = .returned v ∧ HeldR w v l w') := by
  subst hl
  obtain ⟨vI, vB, h1, h2, _⟩ := h.ref
  exact rheld18_is gw at_ L vI vB w h1 h2 hn0
end
theorem PP.start (F : BFace BAt) {w0 w1 w2 : World} {g gw : Nat} {at_ : Int} {L : BL} {S T : Nat → Prop} (h1 : BAt w1 S g at_ L) (hS : ∀ k, S k → w0.heap.size ≤ k) (hb1 : Below w0.heap.size w0 w1) (h2 : RefR w2 T gw at_ L) (hb2 : Below w1.heap.size w1 w2) (hT : ∀ k, T k → w1.heap.size ≤ k) :
    PP BAt w0 T (fun _ => False) [(g, at_, L)] gw at_ L w2 := by
  have h7 : ∀ k, T k → k < w2.heap.size := by obtain ⟨_, _, _, _, _, _, _, _, h7⟩ := h2; exact h7
  have hs := hb1.size
  have hs2 := hb2.size
  refine ⟨h2, fun k hk => ⟨by have := hT k hk; omega, fun e => e⟩, ⟨fun k hk => ?_, fun _ => 0, fun j g2 ck M hj => ?_⟩, below_trans hb1 hb2⟩
  · rcases hk with e | e | e
    · omega
    · exact h7 k e
    · exact e.elim
  · cases j with
    | succ j => simp at hj
    | zero =>
      have hj : (g, at_, L) = (g2, ck, M) := by simpa using hj
      injection hj with e1 hj
      injection hj with e2 e3
      subst e1; subst e2; subst e3
      refine ⟨S, F.but h1 (But.of (S := fun _ => False) hb2) (fun _ _ x => x), fun k hk => ⟨fun e => ?_, rfl⟩⟩
      have h3 := hS k hk
      have h4 := F.lt h1 k hk
      rcases e with e | e | e
      · omega
      · have := hT k e; omega
      · exact e.elim
end Go.Proofs.Ytmmnicnebammhaa
