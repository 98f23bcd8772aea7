/-
  A buffer that is the caller's own, beside what was there ahead of block B: its calls, with what they tell and leave by name.
-/
import Derived.Test.YtmmnicnebammhaaRmMany
import Derived.Test.YtmmnicnebammhaaRmSame
namespace Go.Proofs.Ytmmnicnebammhaa
set_option maxRecDepth 10000
open Go.RowKit
set_option linter.unusedSimpArgs false
set_option linter.unusedVariables false
variable {BAt : BA}
/-- Buffers apart from all that was there ahead of block B. -/
def MB (BAt : BA) (B : Nat) (w : World) (ws : ML) : Prop := ManyR BAt (fun k => k < B) w ws ∧ B ≤ w.heap.size
def RIs (BAt : BA) (B : Nat) (ws : ML) (v : Value) (w : World) (e : Ending) (w' : World) : Prop := e = .returned v ∧ MB BAt B w' ws ∧ Below B w w'
theorem notlt {B k : Nat} (h : ¬ k < B) : B ≤ k := Nat.le_of_not_lt h
theorem RIs.of {B : Nat} {ws : ML} {v : Value} {w : World} {e : Ending} {w' : World} (hB : B ≤ w.heap.size) (h : RDo BAt (fun k => k < B) ws v w e w') : RIs BAt B ws v w e w' := by
  obtain ⟨rfl, h1, h2⟩ := h
  exact ⟨rfl, ⟨h1, Nat.le_trans hB h2.size⟩, h2.below (fun k hk => notlt hk) hB⟩
theorem MB.but (F : BFace BAt) {B : Nat} {ws : ML} {w w' : World} (h : MB BAt B w ws) (hb : Below w.heap.size w w') : MB BAt B w' ws :=
  ⟨h.1.but F (T := fun _ => False) (But.of hb) (fun _ x => x.elim), Nat.le_trans h.2 hb.size⟩
theorem MB.drewN (F : BFace BAt) {B : Nat} {ws : ML} {w : World} (h : MB BAt B w ws) (m : Nat) : MB BAt B (w.drewN m) ws :=
  ⟨h.1.but F (T := fun _ => False) ((But.refl _ _).drewN m) (fun _ x => x.elim), h.2⟩
/-- Put of bytes that the walk has just laid. -/
theorem put_lit (F : BFace BAt) (B g z : Nat) (ck a d : Int) (L L' : BL) (m : Nat) (x : Int) (l : List Int) (fr : Nat × Nat) (w : World) (h : MB BAt B w [(g, ck, L)]) (hz : w.heap.size = z) (ha : 0 ≤ a ∧ a < 4294967296) (hl : ∀ y ∈ l, 0 ≤ y ∧ y < 256) (hn : l.length ≤ 100000)
    (hd : diffB a ck = d) (hL : putQ d l L = L') (hm : putN d l L = m) (hx : putE d l L = x) :
    Calls Try.prog 11 #[.pointer (some ⟨g, 0, none⟩), .int .u32 a, .slice (some ⟨z, 0, none⟩) l.length l.length] (w.alloc (.cells (l.map (Value.int .u8)).toArray 5 fr)) (RIs BAt B [(g, ck, L')] (.tuple #[.int .i64 (m : Int), .int .i64 x]) w) := by
  have h1 := h.1.alloc F (.cells (l.map (Value.int .u8)).toArray 5 fr)
  rw [hz] at h1
  have hr : Rd (w.alloc (.cells (l.map (Value.int .u8)).toArray 5 fr)) (some ⟨z, 0, none⟩) l.length l := Rd.const_ w z hz l _ _ hl
  have hb0 : Below w.heap.size w (w.alloc (.cells (l.map (Value.int .u8)).toArray 5 fr)) := (Below.refl _ _).alloc (Nat.le_refl _) _
  refine (rput F _ 0 g ck L [(g, ck, L)] [(g, ck, L')] _ h1 rfl a _ _ _ l d L' m x ha hr hn (Nat.le_refl _) (Nat.le_trans hn (by simp [maxLen])) (fun b o e _ => by injection e with e; injection e with e; exact .inr e.symm) hd hL hm hx rfl).mono ?_
  rintro e w' ⟨rfl, h2, h3⟩
  have hs := h.2
  have hs0 := hb0.size
  exact ⟨rfl, ⟨h2.sub (fun k hk => .inl hk), Nat.le_trans hs (Nat.le_trans hs0 h3.size)⟩, (hb0.mono hs).trans (h3.below (fun k hk => notlt (fun e => hk (.inl e))) (Nat.le_trans hs hs0))⟩
def RTk (BAt : BA) (B : Nat) (ws : ML) (l : List Int) (w : World) (e : Ending) (w' : World) : Prop := ∃ A n c, e = .returned (.slice A n c) ∧ l.length = n ∧ OwnB w' w.heap.size A n c l ∧ MB BAt B w' ws ∧ Below B w w'
theorem take1 (F : BFace BAt) (B g : Nat) (ck ck' : Int) (L L' : BL) (l : List Int) (w : World) (h : MB BAt B w [(g, ck, L)]) (hc : num32 (ck + readyB L) = ck') (hL : leftB L = L') (hl : takeB L = l) :
    Calls Try.prog 13 #[.pointer (some ⟨g, 0, none⟩)] w (RTk BAt B [(g, ck', L')] l w) := by
  refine (rtake F _ 0 g ck L [(g, ck, L)] [(g, ck', L')] w h.1 rfl ck' L' l hc hL hl rfl).mono ?_
  rintro e w' ⟨A, c, rfl, h1, h2, h3⟩
  exact ⟨A, _, c, rfl, rfl, h1, ⟨h2.sub (fun k hk => .inl hk), Nat.le_trans h.2 h3.size⟩, h3.below (fun k hk => notlt hk) h.2⟩
theorem next1 (F : BFace BAt) (B g : Nat) (ck : Int) (L : BL) (w : World) (h : MB BAt B w [(g, ck, L)]) : Calls Try.prog 16 #[.pointer (some ⟨g, 0, none⟩)] w (RIs BAt B [(g, ck, L)] (.int .u32 ck) w) :=
  (rnext F _ 0 g ck L [(g, ck, L)] w h.1 rfl).mono (fun e w' => RIs.of h.2)
theorem room1 (F : BFace BAt) (B g : Nat) (ck : Int) (L : BL) (n : Nat) (w : World) (h : MB BAt B w [(g, ck, L)]) (hn : L.length = n) : Calls Try.prog 17 #[.pointer (some ⟨g, 0, none⟩)] w (RIs BAt B [(g, ck, L)] (.int .i64 (n : Int)) w) :=
  (rroom F _ 0 g ck L [(g, ck, L)] w h.1 rfl n hn).mono (fun e w' => RIs.of h.2)
theorem ready1 (F : BFace BAt) (B g : Nat) (ck : Int) (L : BL) (n : Nat) (w : World) (h : MB BAt B w [(g, ck, L)]) (hn : readyB L = n) : Calls Try.prog 18 #[.pointer (some ⟨g, 0, none⟩)] w (RIs BAt B [(g, ck, L)] (.int .i64 (n : Int)) w) :=
  (rready F _ 0 g ck L [(g, ck, L)] w h.1 rfl n hn).mono (fun e w' => RIs.of h.2)
def RHd (BAt : BA) (B : Nat) (ws : ML) (l : List (Int × Int)) (w : World) (e : Ending) (w' : World) : Prop := ∃ A n c, e = .returned (.slice A n c) ∧ l.length = n ∧ SlV w' 60 2 (.slice A n c) n (flat2 l) ∧ MB BAt B w' ws ∧ Below B w w'
theorem held1 (F : BFace BAt) (B g : Nat) (ck : Int) (L : BL) (l : List (Int × Int)) (w : World) (h : MB BAt B w [(g, ck, L)]) (hl : heldI ck L = l) : Calls Try.prog 21 #[.pointer (some ⟨g, 0, none⟩)] w (RHd BAt B [(g, ck, L)] l w) := by
  refine (rheld F _ 0 g ck L [(g, ck, L)] w h.1 rfl l hl).mono ?_
  rintro e w' ⟨v, rfl, h1, h0, h2, h3⟩
  obtain ⟨A, c, rfl⟩ := h1.form
  exact ⟨A, _, c, rfl, rfl, h1, ⟨h2.sub (fun k hk => .inl hk), Nat.le_trans h.2 h3.size⟩, h3.below (fun k hk => notlt hk) h.2⟩
def RNw (BAt : BA) (B : Nat) (ck : Int) (L : BL) (w : World) (e : Ending) (w' : World) : Prop := ∃ g, e = .returned (madeR g) ∧ MB BAt B w' [(g, ck, L)] ∧ Below B w w'
theorem new1 (F : BFace BAt) (w : World) (at_ : Int) (n : Nat) (ha : 0 ≤ at_ ∧ at_ < 4294967296) (hn : n ≤ 16384) : Calls Try.prog 8 #[.int .u32 at_, .int .i64 (n : Int)] w (RNw BAt w.heap.size at_ (List.replicate n none) w) := by
  refine (rnew F _ [] w (ManyR.none_ w) at_ n ha hn).mono ?_
  rintro e w' ⟨g, rfl, h1, h2⟩
  exact ⟨g, rfl, ⟨h1, h2.size⟩, h2.below (fun k hk => notlt hk) (Nat.le_refl _)⟩
end Go.Proofs.Ytmmnicnebammhaa
