/-
  Texts laid together: BlkRef, RefLay, RefNum, OptRead.
-/
import Derived.Test.YtoegfgbalcholaaZD15
import Derived.Test.YtoegfgbalcholaaZD12
import Derived.Test.YtoegfgbalcholaaZD13
import Derived.Test.YtoegfgbalcholaaZD14
import Derived.Test.YtoegfgbalcholaaZD10
import Derived.WalkMore

/-
  The contracts of culvertlaw05's sameBlocks and of culvertref05's WithScale.
-/
namespace Go.Proofs.Ytoegfgbalcholaa
set_option maxRecDepth 10000
open Go.RowKit

end Go.Proofs.Ytoegfgbalcholaa

/-
  The contracts of culvertref03's Lay (four bytes) and of culvertref05's WithSacks.
-/
namespace Go.Proofs.Ytoegfgbalcholaa
set_option maxRecDepth 10000
open Go.RowKit

theorem bytes_app_ {a b : List Int} (h : ∀ x ∈ a, 0 ≤ x ∧ x < 256) (k : ∀ x ∈ b, 0 ≤ x ∧ x < 256) : ∀ x ∈ a ++ b, 0 ≤ x ∧ x < 256 := fun x hx => by
  rcases List.mem_append.1 hx with h' | h'
  · exact h x h'
  · exact k x h'
theorem own_ne {w : World} {B n c g : Nat} {A : Option Addr} {l : List Int} {cs : Array Value} (h : OwnB w B A n c l) (hg : w.heap[g]? = some (.cells cs 133 (0, 0))) : ∀ k, A = some ⟨k, 0, none⟩ → k ≠ g := by
  intro k e he
  subst he
  rcases h.2 with ⟨e1, _⟩ | ⟨g', cap, cur, e1, _, hb, _⟩
  · injection e1 with e1 _ _; rw [e] at e1; cases e1
  · injection e1 with e1 _ _
    rw [e] at e1
    injection e1 with e1
    injection e1 with e1 _
    subst e1
    rw [hg] at hb
    injection hb with hb
    injection hb with _ hb _
    exact absurd hb (by decide)
theorem OwnB.butA {S : Nat → Prop} {w w' : World} {B : Nat} {A : Option Addr} {n c : Nat} {l : List Int} (h : OwnB w B A n c l) (hb : But S w w') (hS : ∀ k, A = some ⟨k, 0, none⟩ → ¬ S k) : OwnB w' B A n c l := by
  refine ⟨h.1, ?_⟩
  rcases h.2 with h0 | ⟨g, cap, cur, e, hB, hc, hrest⟩
  · exact .inl h0
  · exact .inr ⟨g, cap, cur, e, hB, hb.blk hc (hS g (by injection e)), hrest⟩

end Go.Proofs.Ytoegfgbalcholaa

/-
  The contracts of culvertref03's reader (take, Num of four bytes) and of culvertref05's Sacks.
-/
namespace Go.Proofs.Ytoegfgbalcholaa
set_option maxRecDepth 10000
open Go.RowKit

theorem OwnK.butA {S : Nat → Prop} {t : TypeId} {w w' : World} {B : Nat} {A : Option Addr} {n c : Nat} {l : List (Int × Int)} (h : OwnK t w B A n c l) (hb : But S w w') (hS : ∀ k, A = some ⟨k, 0, none⟩ → ¬ S k) : OwnK t w' B A n c l := by
  refine ⟨h.1, ?_⟩
  rcases h.2 with h0 | ⟨g, cap, cur, e, hB, hc, hrest⟩
  · exact .inl h0
  · exact .inr ⟨g, cap, cur, e, hB, hb.blk hc (hS g (by injection e)), hrest⟩
theorem OwnK.blk {t : TypeId} {w : World} {B n c : Nat} {A : Option Addr} {l : List (Int × Int)} (h : OwnK t w B A n c l) : ∀ k, Blk A k → B ≤ k ∧ A = some ⟨k, 0, none⟩ := by
  rintro k ⟨a, e, rfl⟩
  subst e
  rcases h.2 with ⟨e1, _⟩ | ⟨g', cap, cur, e1, hB, _⟩
  · injection e1 with e1 _ _; cases e1
  · injection e1 with e1 _ _
    injection e1 with e1
    subst e1
    exact ⟨hB, rfl⟩
end Go.Proofs.Ytoegfgbalcholaa

/-
  The contracts of package opts' Parse: filling, option, the closure that reads, Parse.
-/
namespace Go.Proofs.Ytoegfgbalcholaa
set_option maxRecDepth 10000
open Go.RowKit

theorem OwnB.at_ {w : World} {B : Nat} {A : Option Addr} {n c k : Nat} {l : List Int} (h : OwnB w B A n c l) (hA : A = some ⟨k, 0, none⟩) : B ≤ k ∧ k < w.heap.size := by
  rcases h.2 with ⟨e, _⟩ | ⟨g, cap, cur, e, hB, hg, _⟩
  · injection e with e _ _; rw [hA] at e; cases e
  · injection e with e _ _
    rw [hA] at e
    injection e with e
    injection e with e _
    subst e
    exact ⟨hB, lt_of_block hg⟩

/-- Options whose bytes lie in rows of the call's own, from block B on. -/
def OptOwn (w : World) (B : Nat) (o : OptV) (l : Int × List Int) : Prop := o.kind = l.1 ∧ (0 ≤ o.kind ∧ o.kind < 256) ∧ (∀ x ∈ l.2, 0 ≤ x ∧ x < 256) ∧ OwnB w B o.A o.n o.c l.2
def OwnL (w : World) (B : Nat) : List OptV → List (Int × List Int) → Prop
  | [], [] => True
  | o :: os, l :: ls => OptOwn w B o l ∧ OwnL w B os ls
  | _, _ => False
theorem OptOwn.at_ {w : World} {B : Nat} {o : OptV} {l : Int × List Int} (h : OptOwn w B o l) : OptAt w o l := ⟨h.1, h.2.1, h.2.2.2.cap, h.2.2.2.capMax, h.2.2.2.rd h.2.2.1⟩
theorem OwnL.reads {w : World} {B : Nat} : ∀ {os : List OptV} {ls : List (Int × List Int)}, OwnL w B os ls → Reads w os ls
  | [], [], _ => trivial
  | _ :: _, _ :: _, h => ⟨h.1.at_, OwnL.reads h.2⟩
theorem OwnL.mono {w w' : World} {B B' : Nat} (hm : ∀ o l, OptOwn w B o l → OptOwn w' B' o l) : ∀ {os : List OptV} {ls : List (Int × List Int)}, OwnL w B os ls → OwnL w' B' os ls
  | [], [], _ => trivial
  | _ :: _, _ :: _, h => ⟨hm _ _ h.1, OwnL.mono hm h.2⟩
theorem OwnL.but {S : Nat → Prop} {w w' : World} {B : Nat} {os : List OptV} {ls : List (Int × List Int)} (h : OwnL w B os ls) (hb : But S w w') (hS : ∀ n c l k, OwnB w B (some ⟨k, 0, none⟩) n c l → ¬ S k) : OwnL w' B os ls :=
  h.mono fun _ _ h => ⟨h.1, h.2.1, h.2.2.1, h.2.2.2.butA hb (fun k e => by have h2 := h.2.2.2; rw [e] at h2; exact hS _ _ _ k h2)⟩
theorem OwnL.on {w w' : World} {B : Nat} {os : List OptV} {ls : List (Int × List Int)} (h : OwnL w B os ls) (hb : Below w.heap.size w w') : OwnL w' B os ls := h.mono fun _ _ h => ⟨h.1, h.2.1, h.2.2.1, h.2.2.2.on hb⟩
theorem OwnL.low {w : World} {B B' : Nat} {os : List OptV} {ls : List (Int × List Int)} (h : OwnL w B os ls) (hB : B' ≤ B) : OwnL w B' os ls := h.mono fun _ _ h => ⟨h.1, h.2.1, h.2.2.1, h.2.2.2.mono hB⟩
/-- The options' own row is none of their bytes' rows. -/
theorem own_apart {w : World} {B B2 n c n2 c2 k : Nat} {l : List Int} {A2 : Option Addr} {os : List OptV} (h : OwnB w B (some ⟨k, 0, none⟩) n c l) (ho : OwnO w B2 A2 n2 c2 os) : ¬ Blk A2 k := by
  rintro ⟨a, rfl, rfl⟩
  rcases ho.2 with ⟨e, _⟩ | ⟨g, cap, cur, e, hB, hg, _⟩
  · injection e with e _ _; cases e
  · injection e with e _ _
    injection e with e
    subst e
    exact own_ne h hg _ rfl rfl
theorem OwnL.grown {w w' : World} {B B2 n2 c2 : Nat} {os os2 : List OptV} {ls : List (Int × List Int)} {A2 : Option Addr} (h : OwnL w B os ls) (ho : OwnO w B2 A2 n2 c2 os2) (hg : w.grownBy w' (Value.slice A2 n2 c2).ownBlock) : OwnL w' B os ls :=
  h.but (grown_but hg) (fun _ _ _ _ h2 => own_apart h2 ho)
/-- Options told, their bytes in rows of the call's own. -/
def ParseOwn (b : List Int) (w : World) (e : Ending) (w' : World) : Prop :=
  ∃ A m c os, e = .returned (.tuple #[.slice A m c, .int .i64 (parseO b).2]) ∧ OwnO w' w.heap.size A m c os ∧ OwnL w' w.heap.size os (parseO b).1 ∧ Below w.heap.size w w'
theorem ParseOwn.told {b : List Int} {w w' : World} {e : Ending} (h : ParseOwn b w e w') : ParseO b w e w' := by
  obtain ⟨A, m, c, os, h1, h2, h3, h4⟩ := h
  exact ⟨A, m, c, os, h1, h2, h3.reads, h4⟩

/-- What the closure that reads options leaves: in block p the options, or how it gave up. -/
def ParseR (p : Nat) (b : List Int) (w1 : World) (x : Int) (w' : World) : Prop :=
  x = (parseL b).2 ∧ (x = 0 → ∃ A m c os, Box w' p 44 (.slice A m c) ∧ OwnO w' w1.heap.size A m c os ∧ OwnL w' w1.heap.size os (parseL b).1)

theorem OwnO.at_ {w : World} {B : Nat} {A : Option Addr} {n c k : Nat} {os : List OptV} (h : OwnO w B A n c os) (hA : A = some ⟨k, 0, none⟩) : B ≤ k ∧ k < w.heap.size := by
  rcases h.2 with ⟨e, _⟩ | ⟨g, cap, cur, e, hB, hg, _⟩
  · injection e with e _ _; rw [hA] at e; cases e
  · injection e with e _ _
    rw [hA] at e
    injection e with e
    injection e with e _
    subst e
    exact ⟨hB, lt_of_block hg⟩

/-- What the reading of options has so far. -/
structure PHold (w : World) (g p : Nat) (A : Option Addr) (m c : Nat) (os : List OptV) (acc : List (Int × List Int)) (wr : World) : Prop where
  box : Box wr p 44 (.slice A m c)
  own : OwnO wr w.heap.size A m c os
  ownl : OwnL wr w.heap.size os acc
  but : But (fun k => k = p ∨ k = g) w wr
theorem PHold.drew {w : World} {g p : Nat} {A : Option Addr} {m c : Nat} {os : List OptV} {acc : List (Int × List Int)} {wr : World} (h : PHold w g p A m c os acc wr) : PHold w g p A m c os acc wr.drew :=
  ⟨h.box.but ((But.refl (fun _ => False) _).drew) (fun x => x), h.own.drew, h.ownl.on (Below.drew (Below.refl _ _)), h.but.drew⟩
theorem PHold.step {w : World} {g p : Nat} {A : Option Addr} {m c : Nat} {os : List OptV} {acc : List (Int × List Int)} {wr w' : World} (h : PHold w g p A m c os acc wr) (hg : g < w.heap.size) (hpg : p ≠ g) (hb : But (fun k => k = g) wr w') : PHold w g p A m c os acc w' :=
  ⟨h.box.but hb hpg, h.own.but hb (fun k e => by have := h.own.at_ e; omega), h.ownl.but hb (fun _ _ _ k h2 => by have := h2.at_ rfl; omega), h.but.trans (hb.mono (fun _ _ h => .inr h))⟩
theorem PHold.fin {w : World} {B g p : Nat} {A : Option Addr} {m c : Nat} {os : List OptV} {b l : List Int} {at_ : Int} {acc : List (Int × List Int)} {wr : World} (h : PHold w g p A m c os acc wr) (hR : Rdr wr B g l at_) (he : parseL b = (acc, 0)) : Did (fun k => k = p) g (ParseR p b w) w (.returned (.tuple #[])) wr := by
  obtain ⟨A', n', c', _, _, _, _, _, hg, _⟩ := hR
  exact ⟨0, A', n', c', _, .inl ⟨rfl, rfl⟩, hg, h.but, by rw [he], fun _ => ⟨A, m, c, os, h.box, h.own, by rw [he]; exact h.ownl⟩⟩
end Go.Proofs.Ytoegfgbalcholaa
