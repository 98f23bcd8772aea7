/-
  What a buffer's calls must do, whatever it is made of ('BFace', to be shown of the program's own): the laws are walked over that.
-/
import Derived.Test.YtmmnicnebammhaaRmP
import Derived.Test.YtmmnicnebammhaaSlV
namespace Go.Proofs.Ytmmnicnebammhaa
set_option maxRecDepth 10000
open Go.RowKit
set_option linter.unusedSimpArgs false
set_option linter.unusedVariables false

abbrev BA := World → (Nat → Prop) → Nat → Int → BL → Prop
def flat2 (l : List (Int × Int)) : List Value := l.flatMap (fun p => [.int .u32 p.1, .int .u32 p.2])
theorem flat2_len (l : List (Int × Int)) : (flat2 l).length = l.length * 2 := by
  induction l with
  | nil => rfl
  | cons p l ih => simp only [flat2, List.flatMap_cons, List.length_append, List.length_cons, List.length_nil] at ih ⊢; omega
def BDoes (BAt : BA) (S : Nat → Prop) (g : Nat) (at_ : Int) (L : BL) (v : Value) (w : World) (e : Ending) (w' : World) : Prop := e = .returned v ∧ ∃ S', BAt w' S' g at_ L ∧ But S w w' ∧ ∀ k, S' k → S k ∨ w.heap.size ≤ k
def BTakes (BAt : BA) (S : Nat → Prop) (g : Nat) (at_ : Int) (L : BL) (l : List Int) (w : World) (e : Ending) (w' : World) : Prop :=
  ∃ A c, e = .returned (.slice A l.length c) ∧ OwnB w' w.heap.size A l.length c l ∧ ∃ S', BAt w' S' g at_ L ∧ But S w w' ∧ (∀ k, S' k → S k ∨ w.heap.size ≤ k) ∧ ∀ b, (Value.slice A l.length c).ownBlock = some b → ¬ S' b
def BHelds (BAt : BA) (S : Nat → Prop) (g : Nat) (at_ : Int) (L : BL) (l : List (Int × Int)) (w : World) (e : Ending) (w' : World) : Prop :=
  ∃ v, e = .returned v ∧ SlV w' 60 2 v l.length (flat2 l) ∧ ∃ S', BAt w' S' g at_ L ∧ But S w w' ∧ (∀ k, S' k → S k ∨ w.heap.size ≤ k) ∧ ∀ b, v.ownBlock = some b → w.heap.size ≤ b ∧ ¬ S' b
def BNews (BAt : BA) (at_ : Int) (L : BL) (w : World) (e : Ending) (w' : World) : Prop := ∃ g S, e = .returned (.tuple #[.pointer (some ⟨g, 0, none⟩), .int .i64 0]) ∧ BAt w' S g at_ L ∧ Below w.heap.size w w' ∧ ∀ k, S k → w.heap.size ≤ k
def BCopies (BAt : BA) (S : Nat → Prop) (g : Nat) (at_ : Int) (L : BL) (w : World) (e : Ending) (w' : World) : Prop :=
  ∃ g2 S1 S2, e = .returned (.pointer (some ⟨g2, 0, none⟩)) ∧ BAt w' S1 g at_ L ∧ BAt w' S2 g2 at_ L ∧ But S w w' ∧ (∀ k, S1 k → S k ∨ w.heap.size ≤ k) ∧ (∀ k, S2 k → w.heap.size ≤ k) ∧ ∀ k, S1 k → ¬ S2 k
structure BFace (BAt : BA) : Prop where
  but : ∀ {w w' : World} {S T : Nat → Prop} {g : Nat} {at_ : Int} {L : BL}, BAt w S g at_ L → But T w w' → (∀ k, S k → ¬ T k) → BAt w' S g at_ L
  lt : ∀ {w : World} {S : Nat → Prop} {g : Nat} {at_ : Int} {L : BL}, BAt w S g at_ L → ∀ k, S k → k < w.heap.size
  ok : ∀ {w : World} {S : Nat → Prop} {g : Nat} {at_ : Int} {L : BL}, BAt w S g at_ L → (0 ≤ at_ ∧ at_ < 4294967296) ∧ L.length ≤ 16384 ∧ okB L ∧ (heldB L).length ≤ 16
  new_bad : ∀ (at_ room : Int) (w : World), (0 ≤ at_ ∧ at_ < 4294967296) → (-9223372036854775808 ≤ room ∧ room ≤ 9223372036854775807) → room < 0 ∨ 16384 < room →
    Calls Try.prog 8 #[.int .u32 at_, .int .i64 room] w fun e w' => e = .returned (.tuple #[.pointer none, .int .i64 1]) ∧ Below w.heap.size w w'
  new_ok : ∀ (at_ : Int) (n : Nat) (w : World), (0 ≤ at_ ∧ at_ < 4294967296) → n ≤ 16384 → Calls Try.prog 8 #[.int .u32 at_, .int .i64 (n : Int)] w (BNews BAt at_ (List.replicate n none) w)
  put_ : ∀ (S : Nat → Prop) (g : Nat) (at_ : Int) (L : BL) (a : Int) (A : Option Addr) (n c : Nat) (l : List Int) (w : World), BAt w S g at_ L → (0 ≤ a ∧ a < 4294967296) → Rd w A n l → n ≤ 100000 → n ≤ c → c ≤ maxLen → (∀ b o, A = some ⟨b, o, none⟩ → 0 < n → ¬ S b) →
    Calls Try.prog 11 #[.pointer (some ⟨g, 0, none⟩), .int .u32 a, .slice A n c] w (BDoes BAt S g at_ (putQ (diffB a at_) l L) (.tuple #[.int .i64 (putN (diffB a at_) l L : Nat), .int .i64 (putE (diffB a at_) l L)]) w)
  take_ : ∀ (S : Nat → Prop) (g : Nat) (at_ : Int) (L : BL) (w : World), BAt w S g at_ L → Calls Try.prog 13 #[.pointer (some ⟨g, 0, none⟩)] w (BTakes BAt S g (num32 (at_ + readyB L)) (leftB L) (takeB L) w)
  next_ : ∀ (S : Nat → Prop) (g : Nat) (at_ : Int) (L : BL) (w : World), BAt w S g at_ L → Calls Try.prog 16 #[.pointer (some ⟨g, 0, none⟩)] w (BDoes BAt S g at_ L (.int .u32 at_) w)
  room_ : ∀ (S : Nat → Prop) (g : Nat) (at_ : Int) (L : BL) (w : World), BAt w S g at_ L → Calls Try.prog 17 #[.pointer (some ⟨g, 0, none⟩)] w (BDoes BAt S g at_ L (.int .i64 (L.length : Nat)) w)
  ready_ : ∀ (S : Nat → Prop) (g : Nat) (at_ : Int) (L : BL) (w : World), BAt w S g at_ L → Calls Try.prog 18 #[.pointer (some ⟨g, 0, none⟩)] w (BDoes BAt S g at_ L (.int .i64 (readyB L : Nat)) w)
  held_ : ∀ (S : Nat → Prop) (g : Nat) (at_ : Int) (L : BL) (w : World), BAt w S g at_ L → Calls Try.prog 21 #[.pointer (some ⟨g, 0, none⟩)] w (BHelds BAt S g at_ L (heldI at_ L) w)
  copy_ : ∀ (S : Nat → Prop) (g : Nat) (at_ : Int) (L : BL) (w : World), BAt w S g at_ L → Calls Try.prog 15 #[.pointer (some ⟨g, 0, none⟩)] w (BCopies BAt S g at_ L w)
end Go.Proofs.Ytmmnicnebammhaa
