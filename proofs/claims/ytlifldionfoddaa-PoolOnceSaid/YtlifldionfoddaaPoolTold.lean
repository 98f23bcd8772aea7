/-
  A pool that is the caller's own: its calls, with what they tell and leave by name.
-/
import Derived.Test.YtlifldionfoddaaPoolAny
namespace Go.Proofs.Ytlifldionfoddaa
set_option maxRecDepth 10000
open Go.RowKit

/-- A pool all of whose blocks are from B on. -/
def POwn (B : Nat) (w : World) (g : Nat) (s : AP) : Prop := ∃ S, PoolAt w S g s ∧ ∀ k, S k → B ≤ k
def PDoes (B g : Nat) (s : AP) (v : Value) (w : World) (e : Ending) (w' : World) : Prop := e = .returned v ∧ POwn B w' g s ∧ Below B w w'
theorem POwn.below {B : Nat} {w w' : World} {g : Nat} {s : AP} (h : POwn B w g s) (hb : Below w.heap.size w w') : POwn B w' g s := by
  obtain ⟨S, hp, hS⟩ := h
  exact ⟨S, hp.below hb, hS⟩
theorem POwn.mono {B B' : Nat} {w : World} {g : Nat} {s : AP} (h : POwn B w g s) (hB : B' ≤ B) : POwn B' w g s := by
  obtain ⟨S, hp, hS⟩ := h
  exact ⟨S, hp, fun k hk => Nat.le_trans hB (hS k hk)⟩
theorem PDoes.of {B g : Nat} {s : AP} {v : Value} {w : World} {e : Ending} {w' : World} {S : Nat → Prop} (hS : ∀ k, S k → B ≤ k) (hB : B ≤ w.heap.size) (h : PoolDoes S g s v w e w') : PDoes B g s v w e w' := by
  obtain ⟨rfl, S', hp, hb, hs⟩ := h
  exact ⟨rfl, ⟨S', hp, fun k hk => by rcases hs k hk with h1 | h1; exact hS k h1; omega⟩, hb.below hS hB⟩
theorem take_own (B g : Nat) (s s' : AP) (t p x : Int) (w : World) (h : POwn B w g s) (hB : B ≤ w.heap.size) (ht : 0 ≤ t ∧ t < 18446744073709551616) (hp : takeP s t = p) (hx : takeE s t = x) (hs : takeA s t = s') :
    Calls Try.prog 13 #[.pointer (some ⟨g, 0, none⟩), .int .u64 t] w (PDoes B g s' (.tuple #[.int .u16 p, .int .i64 x]) w) := by
  obtain ⟨S, h1, hS⟩ := h
  subst hp; subst hx; subst hs
  exact (take_any s S g t w h1 ht).mono (fun e w' => PDoes.of hS hB)
theorem give_own (B g : Nat) (s s' : AP) (p t x : Int) (w : World) (h : POwn B w g s) (hB : B ≤ w.heap.size) (hp : 0 ≤ p ∧ p < 65536) (ht : 0 ≤ t ∧ t < 18446744073709551616) (hx : giveE s p t = x) (hs : giveA s p t = s') :
    Calls Try.prog 10 #[.pointer (some ⟨g, 0, none⟩), .int .u16 p, .int .u64 t] w (PDoes B g s' (.int .i64 x) w) := by
  obtain ⟨S, h1, hS⟩ := h
  subst hx; subst hs
  exact (give_any s S g p t w h1 hp ht).mono (fun e w' => PDoes.of hS hB)
theorem taken_own (B g : Nat) (s : AP) (p : Int) (x : Bool) (w : World) (h : POwn B w g s) (hB : B ≤ w.heap.size) (hp : 0 ≤ p ∧ p < 65536) (hx : takenA s p = x) :
    Calls Try.prog 14 #[.pointer (some ⟨g, 0, none⟩), .int .u16 p] w (PDoes B g s (.bool x) w) := by
  obtain ⟨S, h1, hS⟩ := h
  subst hx
  exact (taken_any s S g p w h1 hp).mono (fun e w' => PDoes.of hS hB)
theorem count_own (B g : Nat) (s : AP) (n : Nat) (w : World) (h : POwn B w g s) (hB : B ≤ w.heap.size) (hx : countA s = n) :
    Calls Try.prog 12 #[.pointer (some ⟨g, 0, none⟩)] w (PDoes B g s (.int .i64 (n : Int)) w) := by
  obtain ⟨S, h1, hS⟩ := h
  subst hx
  exact (count_any s S g w h1).mono (fun e w' => PDoes.of hS hB)
theorem free_own (B g : Nat) (s s' : AP) (t : Int) (n : Nat) (w : World) (h : POwn B w g s) (hB : B ≤ w.heap.size) (ht : 0 ≤ t ∧ t < 18446744073709551616) (hx : freeN s t = n) (hs : freeA s t = s') :
    Calls Try.prog 11 #[.pointer (some ⟨g, 0, none⟩), .int .u64 t] w (PDoes B g s' (.int .i64 (n : Int)) w) := by
  obtain ⟨S, h1, hS⟩ := h
  subst hx; subst hs
  exact (free_any s S g t w h1 ht).mono (fun e w' => PDoes.of hS hB)
def NewOwn (s : AP) (w : World) (e : Ending) (w' : World) : Prop := ∃ g, e = .returned (.tuple #[.pointer (some ⟨g, 0, none⟩), .int .i64 0]) ∧ POwn w.heap.size w' g s ∧ Below w.heap.size w w'
theorem new_own (lo hi rest : Int) (s : AP) (w : World) (h0 : 0 ≤ lo ∧ lo < 65536) (h1 : 0 ≤ hi ∧ hi < 65536) (h2 : 0 ≤ rest ∧ rest < 18446744073709551616) (hb : badA lo hi rest = false) (hs : newA lo hi rest = s) :
    Calls Try.prog 8 #[.int .u16 lo, .int .u16 hi, .int .u64 rest] w (NewOwn s w) := by
  subst hs
  refine (new_ok lo hi rest w h0 h1 h2 hb).mono ?_
  rintro e w' ⟨g, S, rfl, hp, hS, hb⟩
  exact ⟨g, rfl, ⟨S, hp, hS⟩, hb⟩
end Go.Proofs.Ytlifldionfoddaa
