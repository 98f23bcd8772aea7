/-
  Texts laid together: TcpLaw, TcpBoth, Udp, UdpPut.
-/
import Derived.Test.YtoegfgbalcholaaZC21
import Derived.Test.YtoegfgbalcholaaZC14
import Derived.Test.YtoegfgbalcholaaZC17
import Derived.Test.YtoegfgbalcholaaZC04
import Derived.Test.YtoegfgbalcholaaZC09
import Derived.Test.YtoegfgbalcholaaZC06
import Derived.Test.YtoegfgbalcholaaZC13
import Derived.Deep.RegionHeld3
import Derived.Test.YtoegfgbalcholaaZC01
import Derived.Deep.CutRange

/-
  What the laws of tcp have in common: Parse's answer by name, the same segment, addresses' sums.
-/
namespace Go.Proofs.Ytoegfgbalcholaa
set_option maxRecDepth 10000
open Go.RowKit

end Go.Proofs.Ytoegfgbalcholaa

/-
  What package tcp and the document's own answers (culvertref06) both tell: Put's bytes or error, Parse's segment or error.
-/
namespace Go.Proofs.Ytoegfgbalcholaa
set_option maxRecDepth 10000
open Go.RowKit

/-- The bytes that are told: none where the segment may not be. -/
def toldB (src dst : Int) (s : Seg) : List Int := if errS s = 0 then segB src dst s else []
/-- What Parse told is written over: what is older than Bd stays; the segment itself, and its options' row. -/
structure SpoilT (w4 : World) (Bd : Nat) (AO : Option Addr) (nO cO : Nat) (os : List OptV) (AD : Option Addr) (nD cD : Nat) (q : Nat) (C : Array Value) (wr : World) : Prop where
  low : Below Bd w4 wr
  row : OwnO wr Bd AO nO cO os
  data : ∀ o ∈ os, ∃ l, OwnB wr Bd o.A o.n o.c l
  d : ∃ l, OwnB wr Bd AD nD cD l
  blk : wr.heap[q]? = some (.cells C 46 (0, 0))
theorem own_seg_apart {w : World} {B g n c q : Nat} {l : List Int} {C : Array Value} (h : OwnB w B (some ⟨g, 0, none⟩) n c l) (hq : w.heap[q]? = some (.cells C 46 (0, 0))) : g ≠ q := by
  rintro rfl
  rcases h.2 with ⟨e, _⟩ | ⟨g', cap, cur, e, _, hg, _⟩
  · injection e with e; cases e
  · injection e with e _ _
    injection e with e
    injection e with e
    subst e
    rw [hq] at hg
    injection hg with hg
    injection hg with _ hg _
    revert hg
    decide
theorem SpoilT.set_ {w4 : World} {Bd : Nat} {AO : Option Addr} {nO cO : Nat} {os : List OptV} {AD : Option Addr} {nD cD q : Nat} {C : Array Value} {wr : World} (h : SpoilT w4 Bd AO nO cO os AD nD cD q C wr) {g n c : Nat} {l : List Int} (ho : OwnB wr Bd (some ⟨g, 0, none⟩) n c l) (k : Nat) (y : Int) : SpoilT w4 Bd AO nO cO os AD nD cD q C (wr.setCell ⟨g, k, none⟩ (.int .u8 y)) := by
  have hset : But (fun x => x = g) wr (wr.setCell ⟨g, k, none⟩ (.int .u8 y)) := (But.refl (fun x => x = g) _).setCell (p := ⟨g, k, none⟩) rfl _
  have one : ∀ {A : Option Addr} {n c : Nat}, (∃ l, OwnB wr Bd A n c l) → ∃ l, OwnB (wr.setCell ⟨g, k, none⟩ (.int .u8 y)) Bd A n c l := by
    rintro A n c ⟨l', h'⟩
    by_cases hg : A = some ⟨g, 0, none⟩
    · rw [hg] at h' ⊢
      exact ⟨_, h'.set_ k y⟩
    · exact ⟨l', h'.butA hset (fun k' e he => hg (by rw [e, he]))⟩
  exact ⟨h.low.setCell (p := ⟨g, k, none⟩) (ho.at_ rfl).1 _, h.row.but hset (fun k' e he => own_apart ho h.row ⟨_, e, he⟩), fun o hm => one (h.data o hm), one h.d, hset.blk h.blk (fun e => own_seg_apart ho h.blk e.symm)⟩
end Go.Proofs.Ytoegfgbalcholaa

/-
  Package udp: what a datagram's bytes are; the contracts of word, fieldOf, and of the closure within Put.
-/
namespace Go.Proofs.Ytoegfgbalcholaa
set_option maxRecDepth 10000
open Go.RowKit

end Go.Proofs.Ytoegfgbalcholaa

/-
  The contract of package udp's Put.
-/
namespace Go.Proofs.Ytoegfgbalcholaa
set_option maxRecDepth 10000
open Go.RowKit

end Go.Proofs.Ytoegfgbalcholaa
