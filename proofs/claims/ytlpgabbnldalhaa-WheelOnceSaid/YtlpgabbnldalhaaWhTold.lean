/-
  A wheel that is the caller's own: its calls, with what they tell and leave by name.
-/
import Derived.Test.YtlpgabbnldalhaaWhFace
namespace Go.Proofs.Ytlpgabbnldalhaa
set_option maxRecDepth 10000
open Go.RowKit
set_option linter.unusedSimpArgs false
set_option linter.unusedVariables false
variable {WAt : WA}
/-- A wheel all of whose blocks are from B on. -/
def WOwn (WAt : WA) (B : Nat) (w : World) (g : Nat) (ck : Int) (L : AL) : Prop := ∃ S, WAt w S g ck L ∧ ∀ k, S k → B ≤ k
def WIs (WAt : WA) (B g : Nat) (ck : Int) (L : AL) (v : Value) (w : World) (e : Ending) (w' : World) : Prop := e = .returned v ∧ WOwn WAt B w' g ck L ∧ Below B w w'
theorem WOwn.below (F : WFace WAt) {B : Nat} {w w' : World} {g : Nat} {ck : Int} {L : AL} (h : WOwn WAt B w g ck L) (hb : Below w.heap.size w w') : WOwn WAt B w' g ck L := by
  obtain ⟨S, hp, hS⟩ := h
  exact ⟨S, F.but hp (But.of (S := fun _ => False) hb) (fun _ _ h => h), hS⟩
theorem WOwn.mono {B B' : Nat} {w : World} {g : Nat} {ck : Int} {L : AL} (h : WOwn WAt B w g ck L) (hB : B' ≤ B) : WOwn WAt B' w g ck L := by
  obtain ⟨S, hp, hS⟩ := h
  exact ⟨S, hp, fun k hk => Nat.le_trans hB (hS k hk)⟩
theorem WFace.quiet (F : WFace WAt) {S : Nat → Prop} {g : Nat} {ck : Int} {L : AL} {v : Value} {w : World} {e : Ending} {w' : World} (h : WAt w S g ck L) (hq : QuietW v w e w') : WDoes WAt S g ck L v w e w' := by
  obtain ⟨rfl, m, rfl⟩ := hq
  exact ⟨rfl, S, F.but (T := fun _ => False) h ((But.refl _ _).drewN m) (fun _ _ h => h), (But.refl _ _).drewN m, fun k hk => .inl hk⟩
theorem WIs.of {B g : Nat} {ck : Int} {L : AL} {v : Value} {w : World} {e : Ending} {w' : World} {S : Nat → Prop} (hS : ∀ k, S k → B ≤ k) (hB : B ≤ w.heap.size) (h : WDoes WAt S g ck L v w e w') : WIs WAt B g ck L v w e w' := by
  obtain ⟨rfl, S', hp, hb, hs⟩ := h
  exact ⟨rfl, ⟨S', hp, fun k hk => by rcases hs k hk with h1 | h1; exact hS k h1; omega⟩, hb.below hS hB⟩
/-- A Tick: what it tells lies in memory of its own. -/
def WTold (WAt : WA) (B g : Nat) (ck : Int) (L : AL) (l : List Int) (x : Int) (w : World) (e : Ending) (w' : World) : Prop :=
  ∃ v, e = .returned (.tuple #[v, .int .i64 x]) ∧ Sl w' 23 .u64 v l ∧ WOwn WAt B w' g ck L ∧ Below B w w' ∧ ∀ b, v.ownBlock = some b → w.heap.size ≤ b
theorem set_own (F : WFace WAt) (B g : Nat) (ck id at_ x : Int) (L L' : AL) (w : World) (h : WOwn WAt B w g ck L) (hB : B ≤ w.heap.size) (hn : L.length ≤ 1000000) (hid : 0 ≤ id ∧ id < topW) (hat : 0 ≤ at_ ∧ at_ < topW) (hx : setE at_ = x) (hL : setA id at_ L = L') :
    Calls Try.prog 9 #[.pointer (some ⟨g, 0, none⟩), .int .u64 id, .int .u64 at_] w (WIs WAt B g ck L' (.int .i64 x) w) := by
  obtain ⟨S, h1, hS⟩ := h
  subst hx; subst hL
  exact (F.set_ S g ck id at_ L w h1 hn hid hat).mono (fun e w' => WIs.of hS hB)
theorem stop_own (F : WFace WAt) (B g : Nat) (ck id x : Int) (L L' : AL) (w : World) (h : WOwn WAt B w g ck L) (hB : B ≤ w.heap.size) (hn : L.length ≤ 1000000) (hid : 0 ≤ id ∧ id < topW) (hx : stopE id L = x) (hL : stopW id L = L') :
    Calls Try.prog 11 #[.pointer (some ⟨g, 0, none⟩), .int .u64 id] w (WIs WAt B g ck L' (.int .i64 x) w) := by
  obtain ⟨S, h1, hS⟩ := h
  subst hx; subst hL
  exact (F.stop_ S g ck id L w h1 hn hid).mono (fun e w' => WIs.of hS hB)
theorem at_own (F : WFace WAt) (B g : Nat) (ck id y : Int) (is_ : Bool) (L : AL) (w : World) (h : WOwn WAt B w g ck L) (hB : B ≤ w.heap.size) (hn : L.length ≤ 1000000) (hid : 0 ≤ id ∧ id < topW) (hx : atV id L = (y, is_)) :
    Calls Try.prog 19 #[.pointer (some ⟨g, 0, none⟩), .int .u64 id] w (WIs WAt B g ck L (.tuple #[.int .u64 y, .bool is_]) w) := by
  obtain ⟨S, h1, hS⟩ := h
  have := F.at_ S g ck id L w h1 hn hid
  rw [hx] at this
  exact this.mono (fun e w' => WIs.of hS hB)
theorem next_own (F : WFace WAt) (B g : Nat) (ck y : Int) (is_ : Bool) (L : AL) (w : World) (h : WOwn WAt B w g ck L) (hB : B ≤ w.heap.size) (hn : L.length ≤ 1000000) (hx : nextW L = (y, is_)) :
    Calls Try.prog 17 #[.pointer (some ⟨g, 0, none⟩)] w (WIs WAt B g ck L (.tuple #[.int .u64 y, .bool is_]) w) := by
  obtain ⟨S, h1, hS⟩ := h
  have := F.next_ S g ck L w h1 hn
  rw [hx] at this
  exact this.mono (fun e w' => WIs.of hS hB)
theorem now_own (F : WFace WAt) (B g : Nat) (ck : Int) (L : AL) (w : World) (h : WOwn WAt B w g ck L) (hB : B ≤ w.heap.size) : Calls Try.prog 21 #[.pointer (some ⟨g, 0, none⟩)] w (WIs WAt B g ck L (.int .u64 ck) w) := by
  obtain ⟨S, h1, hS⟩ := h
  exact (F.now_ S g ck L w h1).mono (fun e w' h => WIs.of hS hB (F.quiet h1 h))
theorem len_own (F : WFace WAt) (B g : Nat) (ck : Int) (L : AL) (n : Nat) (w : World) (h : WOwn WAt B w g ck L) (hB : B ≤ w.heap.size) (hn : L.length ≤ 1000000) (hx : L.length = n) : Calls Try.prog 22 #[.pointer (some ⟨g, 0, none⟩)] w (WIs WAt B g ck L (.int .i64 (n : Int)) w) := by
  obtain ⟨S, h1, hS⟩ := h
  subst hx
  exact (F.len_ S g ck L w h1 hn).mono (fun e w' h => WIs.of hS hB (F.quiet h1 h))
theorem tick_own (F : WFace WAt) (B g : Nat) (ck now ck' x : Int) (L L' : AL) (l : List Int) (w : World) (h : WOwn WAt B w g ck L) (hB : B ≤ w.heap.size) (hn : L.length ≤ 1000000) (ht : 0 ≤ now ∧ now < topW) (hc : tickC ck now = ck') (hx : tickE ck now = x) (hL : tickA ck now L = L') (hl : tickL ck now L = l) :
    Calls Try.prog 13 #[.pointer (some ⟨g, 0, none⟩), .int .u64 now] w (WTold WAt B g ck' L' l x w) := by
  obtain ⟨S, h1, hS⟩ := h
  subst hc; subst hx; subst hL; subst hl
  refine (F.tick_ S g ck now L w h1 hn ht).mono ?_
  rintro e w' ⟨v, rfl, hl, S', hp, hb, hs, hv⟩
  exact ⟨v, rfl, hl, ⟨S', hp, fun k hk => by rcases hs k hk with h1 | h1; exact hS k h1; omega⟩, hb.below hS hB, fun b hb' => (hv b hb').1⟩
def WNew1 (WAt : WA) (w : World) (e : Ending) (w' : World) : Prop := ∃ g, e = .returned (.pointer (some ⟨g, 0, none⟩)) ∧ WOwn WAt w.heap.size w' g 0 [] ∧ Below w.heap.size w w'
theorem new_ownW (F : WFace WAt) (w : World) : Calls Try.prog 8 #[] w (WNew1 WAt w) := by
  refine (F.new_ w).mono ?_
  rintro e w' ⟨g, S, rfl, hp, hb, hS⟩
  exact ⟨g, rfl, ⟨S, hp, hS⟩, hb⟩
/-- A literal of numbers that the walk has just laid. -/
theorem sl_lit (w : World) (T : TypeId) (k : IntKind) (l : List Int) (hl : l.length ≤ maxLen) : Sl (w.alloc (.cells (l.map (Value.int k)).toArray T)) T k (.slice (some ⟨w.heap.size, 0, none⟩) l.length l.length) l := by
  refine .inr ⟨_, 0, _, rfl, _, heap_alloc_new w _, by simp, Nat.le_refl _, hl, fun i hi => ?_⟩
  simp [List.getD, hi]
theorem told_nil (F : WFace WAt) (B g : Nat) (ck now ck' : Int) (L L' : AL) (x : Bool) (w : World) (h : WOwn WAt B w g ck L) (hB : B ≤ w.heap.size) (hn : L.length ≤ 1000000) (ht : 0 ≤ now ∧ now < topW) (hc : tickC ck now = ck') (hL : tickA ck now L = L')
    (hx : (decide (tickE ck now = 0) && decide (tickL ck now L = [])) = x) :
    Calls Try.prog 24 #[.pointer (some ⟨g, 0, none⟩), .int .u64 now, .slice none 0 0] w (WIs WAt B g ck' L' (.bool x) w) := by
  obtain ⟨S, h1, hS⟩ := h
  subst hc; subst hL
  exact (told_any F S g ck now L (.slice none 0 0) [] x w h1 hn ht (Sl.nil _ _ _) (fun b hb => by cases hb) hx).mono (fun e w' => WIs.of hS hB)
theorem told_lit (F : WFace WAt) (B g z : Nat) (ck now ck' : Int) (L L' : AL) (l : List Int) (x : Bool) (w : World) (hz : w.heap.size = z) (h : WOwn WAt B w g ck L) (hB : B ≤ w.heap.size) (hn : L.length ≤ 1000000) (ht : 0 ≤ now ∧ now < topW) (hc : tickC ck now = ck') (hL : tickA ck now L = L') (hl : l.length ≤ maxLen)
    (hx : (decide (tickE ck now = 0) && decide (tickL ck now L = l)) = x) :
    Calls Try.prog 24 #[.pointer (some ⟨g, 0, none⟩), .int .u64 now, .slice (some ⟨z, 0, none⟩) l.length l.length] (w.alloc (.cells (l.map (Value.int .u64)).toArray 23)) (fun e w' => e = .returned (.bool x) ∧ WOwn WAt B w' g ck' L' ∧ Below B w w') := by
  obtain ⟨S, h1, hS⟩ := h
  subst hc; subst hL; subst hz
  have hb0 : Below w.heap.size w (w.alloc (.cells (l.map (Value.int .u64)).toArray 23)) := (Below.refl _ _).alloc (Nat.le_refl _) _
  have h2 := F.but h1 (But.of (S := fun _ => False) hb0) (fun _ _ h => h)
  refine (told_any F S g ck now L _ l x _ h2 hn ht (sl_lit w _ _ l hl) (fun b hb hs => ?_) hx).mono ?_
  · cases hb
    exact absurd (F.lt h1 _ hs) (Nat.lt_irrefl _)
  · rintro e w' hh
    obtain ⟨r1, r2, r3⟩ := WIs.of hS (Nat.le_trans hB hb0.size) hh
    exact ⟨r1, r2, (hb0.mono hB).trans r3⟩
end Go.Proofs.Ytlpgabbnldalhaa
