/-
  Steps of a law's walk over several buffers, beside a base world w0 whose blocks are all in Z.
-/
import Derived.Test.YtmmnicnebammhaaRmMany
import Derived.Test.YtmmnicnebammhaaRdSub
namespace Go.Proofs.Ytmmnicnebammhaa
set_option maxRecDepth 10000
open Go.RowKit
set_option linter.unusedSimpArgs false
set_option linter.unusedVariables false
variable {BAt : BA}
/-- What a round holds on to: the buffers ws, the base world w0, Z. -/
structure At18 (BAt : BA) (Z : Nat → Prop) (w0 : World) (ws : ML) (w : World) : Prop where
  many : ManyR BAt Z w ws
  base : Below w0.heap.size w0 w
  old : ∀ k, k < w0.heap.size → Z k
theorem belR {Z : Nat → Prop} {w0 w w' : World} (hb : But (fun k => ¬ Z k) w w') (h0 : Below w0.heap.size w0 w) (hZ : ∀ k, k < w0.heap.size → Z k) : Below w0.heap.size w0 w' :=
  h0.trans (hb.below (fun k hk => Nat.le_of_not_lt (fun h => hk (hZ k h))) h0.size)
def SDo (BAt : BA) (Z : Nat → Prop) (w0 : World) (ws : ML) (v : Value) (w : World) (e : Ending) (w' : World) : Prop := e = .returned v ∧ At18 BAt Z w0 ws w' ∧ But (fun k => ¬ Z k) w w'
def STake (BAt : BA) (Z : Nat → Prop) (w0 : World) (ws : ML) (l : List Int) (w : World) (e : Ending) (w' : World) : Prop :=
  ∃ A n c, e = .returned (.slice A n c) ∧ l.length = n ∧ OwnB w' w.heap.size A n c l ∧ At18 BAt (fun k => Z k ∨ (Value.slice A n c).ownBlock = some k) w0 ws w' ∧ But (fun k => ¬ Z k) w w'
def SHeld (BAt : BA) (Z : Nat → Prop) (w0 : World) (ws : ML) (l : List (Int × Int)) (w : World) (e : Ending) (w' : World) : Prop :=
  ∃ A n c, e = .returned (.slice A n c) ∧ l.length = n ∧ SlV w' 60 2 (.slice A n c) n (flat2 l) ∧ At18 BAt (fun k => Z k ∨ (Value.slice A n c).ownBlock = some k) w0 ws w' ∧ But (fun k => ¬ Z k) w w'
def SMore (BAt : BA) (Z : Nat → Prop) (w0 : World) (ws : ML) (f : Nat → Value) (ck : Int) (L : BL) (w : World) (e : Ending) (w' : World) : Prop := ∃ g, e = .returned (f g) ∧ At18 BAt Z w0 (ws ++ [(g, ck, L)]) w' ∧ But (fun k => ¬ Z k) w w'
section
variable {Z : Nat → Prop} {w0 w w' : World} {ws : ML}
theorem At18.start (w : World) : At18 BAt (fun k => k < w.heap.size) w [] w := ⟨ManyR.none_ w, Below.refl _ _, fun k hk => hk⟩
theorem At18.sub {Z' : Nat → Prop} (h : At18 BAt Z w0 ws w) (hz : ∀ k, Z' k → Z k) (ho : ∀ k, k < w0.heap.size → Z' k) : At18 BAt Z' w0 ws w := ⟨h.many.sub hz, h.base, ho⟩
theorem At18.below (F : BFace BAt) (h : At18 BAt Z w0 ws w) (hb : Below w.heap.size w w') : At18 BAt Z w0 ws w' :=
  ⟨h.many.but F (T := fun _ => False) (But.of hb) (fun _ x => x.elim), below_trans h.base (hb.mono (Nat.le_refl _)), h.old⟩
theorem At18.drewN (F : BFace BAt) (h : At18 BAt Z w0 ws w) (m : Nat) : At18 BAt Z w0 ws (w.drewN m) := h.below F ((But.refl (fun _ => False) w).drewN m |>.below (fun _ h => h.elim) (Nat.le_refl _))
/-- Blocks of Z's turn, but none of the base's. -/
theorem At18.but (F : BFace BAt) {T : Nat → Prop} (h : At18 BAt Z w0 ws w) (hb : But T w w') (hT : ∀ k, T k → Z k ∨ w.heap.size ≤ k) (hT0 : ∀ k, T k → w0.heap.size ≤ k) : At18 BAt Z w0 ws w' :=
  ⟨h.many.but F hb hT, h.base.trans (hb.below hT0 h.base.size), h.old⟩
/-- What has been laid since is Z's from now on. -/
theorem At18.more (F : BFace BAt) {T Z' : Nat → Prop} (h : At18 BAt Z w0 ws w) (hb : But T w w') (hT : ∀ k, T k → Z k ∨ w.heap.size ≤ k) (hT0 : ∀ k, T k → w0.heap.size ≤ k) (hZ : ∀ k, Z' k → (Z k ∨ w.heap.size ≤ k) ∧ k < w'.heap.size) (ho : ∀ k, k < w0.heap.size → Z' k) : At18 BAt Z' w0 ws w' :=
  ⟨h.many.more F hb hT hZ, h.base.trans (hb.below hT0 h.base.size), ho⟩
theorem SDo.of (h0 : At18 BAt Z w0 ws w) {ws' : ML} {v : Value} {e : Ending} (h : RDo BAt Z ws' v w e w') : SDo BAt Z w0 ws' v w e w' := by
  obtain ⟨rfl, h1, h2⟩ := h
  exact ⟨rfl, ⟨h1, belR h2 h0.base h0.old, h0.old⟩, h2⟩
end
section
variable (F : BFace BAt) (Z : Nat → Prop) (i g : Nat) (ck : Int) (L : BL) (ws ws' : ML) (w0 w : World) (h : At18 BAt Z w0 ws w) (hi : ws[i]? = some (g, ck, L))
include F h hi
theorem sput (a : Int) (A : Option Addr) (n c : Nat) (l : List Int) (d : Int) (L' : BL) (m : Nat) (x : Int) (ha : 0 ≤ a ∧ a < 4294967296) (hr : RdC w0 A n c l) (hn : n ≤ 100000)
    (hd : diffB a ck = d) (hL : putQ d l L = L') (hx : putE d l L = x) (hm : putN d l L = m) (hws : ws.set i (g, ck, L') = ws') :
    Calls Try.prog 11 #[.pointer (some ⟨g, 0, none⟩), .int .u32 a, .slice A n c] w (SDo BAt Z w0 ws' (.tuple #[.int .i64 (m : Int), .int .i64 x]) w) :=
  (rput F Z i g ck L ws ws' w h.many hi a A n c l d L' m x ha (hr.rd.below h.base) hn hr.nc hr.cm (fun b o e h0 => by
    obtain ⟨b2, o2, e2, hb, _⟩ := hr.rd.at_ h0
    rw [e] at e2
    injection e2 with e2
    injection e2 with e2 _
    subst e2
    exact h.old b hb) hd hL hm hx hws).mono (fun e w' => SDo.of h)
theorem stake (ck' : Int) (L' : BL) (l : List Int) (hl : takeB L = l) (hL : leftB L = L') (hc : num32 (ck + readyB L) = ck') (hws : ws.set i (g, ck', L') = ws') :
    Calls Try.prog 13 #[.pointer (some ⟨g, 0, none⟩)] w (STake BAt Z w0 ws' l w) := by
  refine (rtake F Z i g ck L ws ws' w h.many hi ck' L' l hc hL hl hws).mono ?_
  rintro e w' ⟨A, c, rfl, h1, h2, h3⟩
  exact ⟨A, _, c, rfl, rfl, h1, ⟨h2, belR h3 h.base h.old, fun k hk => .inl (h.old k hk)⟩, h3⟩
theorem sheld (l : List (Int × Int)) (hl : heldI ck L = l) : Calls Try.prog 21 #[.pointer (some ⟨g, 0, none⟩)] w (SHeld BAt Z w0 ws l w) := by
  refine (rheld F Z i g ck L ws w h.many hi l hl).mono ?_
  rintro e w' ⟨v, rfl, h1, h0, h2, h3⟩
  obtain ⟨A, c, rfl⟩ := h1.form
  exact ⟨A, _, c, rfl, rfl, h1, ⟨h2, belR h3 h.base h.old, fun k hk => .inl (h.old k hk)⟩, h3⟩
theorem snext : Calls Try.prog 16 #[.pointer (some ⟨g, 0, none⟩)] w (SDo BAt Z w0 ws (.int .u32 ck) w) := (rnext F Z i g ck L ws w h.many hi).mono (fun e w' => SDo.of h)
theorem sroom (n : Nat) (hn : L.length = n) : Calls Try.prog 17 #[.pointer (some ⟨g, 0, none⟩)] w (SDo BAt Z w0 ws (.int .i64 (n : Int)) w) := (rroom F Z i g ck L ws w h.many hi n hn).mono (fun e w' => SDo.of h)
theorem sready (n : Nat) (hn : readyB L = n) : Calls Try.prog 18 #[.pointer (some ⟨g, 0, none⟩)] w (SDo BAt Z w0 ws (.int .i64 (n : Int)) w) := (rready F Z i g ck L ws w h.many hi n hn).mono (fun e w' => SDo.of h)
theorem scopy : Calls Try.prog 15 #[.pointer (some ⟨g, 0, none⟩)] w (SMore BAt Z w0 ws ptrR ck L w) := by
  refine (rcopy F Z i g ck L ws w h.many hi).mono ?_
  rintro e w' ⟨g2, rfl, h1, h2⟩
  exact ⟨g2, rfl, ⟨h1, belR h2 h.base h.old, h.old⟩, h2⟩
end
theorem snew (F : BFace BAt) (Z : Nat → Prop) (ws : ML) (w0 w : World) (h : At18 BAt Z w0 ws w) (at_ : Int) (n : Nat) (ha : 0 ≤ at_ ∧ at_ < 4294967296) (hn : n ≤ 16384) : Calls Try.prog 8 #[.int .u32 at_, .int .i64 (n : Int)] w (SMore BAt Z w0 ws madeR at_ (List.replicate n none) w) := by
  refine (rnew F Z ws w h.many at_ n ha hn).mono ?_
  rintro e w' ⟨g, rfl, h1, h2⟩
  exact ⟨g, rfl, ⟨h1, belR h2 h.base h.old, h.old⟩, h2⟩
end Go.Proofs.Ytmmnicnebammhaa
