/-
  The contracts of culvertref03's Lay (four bytes) and of culvertref05's WithSacks.
-/
import Derived.Test.YtpinjbnbpcmfbaaBlkRef
import Derived.Test.YtpinjbnbpcmfbaaOptParse
import Derived.Test.YtpinjbnbpcmfbaaHeldLast
namespace Go.Proofs.Ytpinjbnbpcmfbaa
set_option maxRecDepth 10000
open Go.RowKit

def be4 (x : Int) : List Int := [x / 16777216, x / 65536 % 256, x / 256 % 256, x % 256]
theorem wrap_u8_ (n : Int) : IntKind.u8.wrap n = n % 256 := by simp [IntKind.wrap, IntKind.bits, IntKind.signed]
def blkBytes (l : List (Int × Int)) : List Int := l.flatMap fun p => be4 p.1 ++ be4 p.2
theorem be4_bytes {x : Int} (h : 0 ≤ x ∧ x < 4294967296) : ∀ y ∈ be4 x, 0 ≤ y ∧ y < 256 := by intro y hy; simp [be4] at hy; omega
theorem blkBytes_bytes (l : List (Int × Int)) (h : ∀ p ∈ l, U32P p) : ∀ y ∈ blkBytes l, 0 ≤ y ∧ y < 256 := by
  intro y hy
  simp only [blkBytes, List.mem_flatMap, List.mem_append] at hy
  obtain ⟨p, hp, h1 | h1⟩ := hy
  · exact be4_bytes (h p hp).1 y h1
  · exact be4_bytes (h p hp).2 y h1
theorem blkBytes_len (l : List (Int × Int)) : (blkBytes l).length = 8 * l.length := by
  induction l with
  | nil => rfl
  | cons p l ih => simp [blkBytes, be4] at ih ⊢; omega
def SacksBad (x : Int) (w : World) (e : Ending) (w' : World) : Prop := e = .returned (.tuple #[.agg #[.int .u8 0, .slice none 0 0], .int .i64 x]) ∧ Below w.heap.size w w'
def SacksGood (n : Nat) (D : List Int) (w : World) (e : Ending) (w' : World) : Prop := ∃ A c, e = .returned (.tuple #[.agg #[.int .u8 5, .slice A (8 * n) c], .int .i64 0]) ∧ OwnB w' w.heap.size A (8 * n) c D ∧ Below w.heap.size w w'
/-- What WithSacks tells. -/
def WithSacksIs (l : List (Int × Int)) (w : World) (e : Ending) (w' : World) : Prop :=
  if l.length = 0 then SacksBad 1 w e w' else if 4 < l.length then SacksBad 3 w e w' else SacksGood l.length (blkBytes l) w e w'
theorem bytes_app_ {a b : List Int} (h : ∀ x ∈ a, 0 ≤ x ∧ x < 256) (k : ∀ x ∈ b, 0 ≤ x ∧ x < 256) : ∀ x ∈ a ++ b, 0 ≤ x ∧ x < 256 := fun x hx => by
  rcases List.mem_append.1 hx with h' | h'
  · exact h x h'
  · exact k x h'
theorem own_ne {w : World} {B n c g : Nat} {A : Option Addr} {l : List Int} {cs : Array Value} (h : OwnB w B A n c l) (hg : w.heap[g]? = some (.cells cs 39 (0, 0))) : ∀ k, A = some ⟨k, 0, none⟩ → k ≠ g := by
  intro k e he
  subst he
  rcases h.2 with ⟨e1, _⟩ | ⟨g', cap, cur, e1, _, hb, _⟩
  · injection e1 with e1 _ _; rw [e] at e1; cases e1
  · injection e1 with e1 _ _
    rw [e] at e1
    injection e1 with e1
    injection e1 with e1 _
    subst e1
    rw [hg] at hb
    injection hb with hb
    injection hb with _ hb _
    exact absurd hb (by decide)
theorem OwnB.butA {S : Nat → Prop} {w w' : World} {B : Nat} {A : Option Addr} {n c : Nat} {l : List Int} (h : OwnB w B A n c l) (hb : But S w w') (hS : ∀ k, A = some ⟨k, 0, none⟩ → ¬ S k) : OwnB w' B A n c l := by
  refine ⟨h.1, ?_⟩
  rcases h.2 with h0 | ⟨g, cap, cur, e, hB, hc, hrest⟩
  · exact .inl h0
  · exact .inr ⟨g, cap, cur, e, hB, hb.blk hc (hS g (by injection e)), hrest⟩

end Go.Proofs.Ytpinjbnbpcmfbaa
