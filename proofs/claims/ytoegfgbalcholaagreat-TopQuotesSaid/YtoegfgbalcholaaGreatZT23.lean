/-
  Texts laid together: TcpLaw, TcpBoth, Ref03, UdpRef.
-/
import Derived.Test.YtoegfgbalcholaaGreatZT18
import Derived.Test.YtoegfgbalcholaaGreatZT22
import Derived.Test.YtoegfgbalcholaaGreatZT03
import Derived.Test.YtoegfgbalcholaaGreatZT06
import Derived.Lib.Hide
import Derived.IntWalk
import Derived.Deep.LoopGhost
import Derived.LoopTactic
import Derived.Outline
import Derived.Test.YtoegfgbalcholaaGreatZT08
import Derived.Deep.CutRange
import Derived.Laws.BitsLemmas

/-
  What the laws of tcp have in common: Parse's answer by name, the same segment, addresses' sums.
-/
namespace Go.Proofs.YtoegfgbalcholaaGreat
set_option maxRecDepth 10000
open Go.RowKit

theorem zero_rd (w : World) : SegRd w zeroSeg none 0 0 [] none 0 0 := ⟨⟨by decide, by decide, by decide, by decide, by decide, by decide, by decide⟩, ⟨Nat.le_refl _, by simp [maxLen]⟩, ⟨Nat.le_refl _, by simp [maxLen]⟩, RdO.nil _ _, trivial, Rd.nil _ _⟩
theorem segSame_self (s : Seg) : segSame s s = true := by unfold segSame; simp
theorem Good.few {s : Seg} (h : Good s) : s.os.length ≤ 20 := by
  have := bytesO_two s.os
  have := h.may.2.1
  omega

/-- Parse tells the segment S, in rows of the call's own. -/
def SegTold (S : Seg) (nD : Nat) (w : World) (e : Ending) (w' : World) : Prop :=
  ∃ AO nO cO os AD cD, e = .returned (.tuple #[.agg #[.int .u16 S.sp, .int .u16 S.dp, .int .u32 S.sq, .int .u32 S.ak, .int .u8 S.fl, .int .u16 S.wn, .int .u16 S.ug, .slice AO nO cO, .slice AD nD cD], .int .i64 0]) ∧ SegRd w' S AO nO cO os AD nD cD ∧ nO ≤ 20 ∧
    OwnO w' w.heap.size AO nO cO os ∧ OwnL w' w.heap.size os S.os ∧ OwnB w' w.heap.size AD nD cD S.d ∧ Below w.heap.size w w'
theorem tparse_told (src dst : Int) (A : Option Addr) (n c : Nat) (b : List Int) (S : Seg) (nD : Nat) (w : World) (hc : n ≤ c ∧ c ≤ maxLen) (hA : Rd w A n b) (hx : errSeg src dst b = 0) (hS : segOf b (offB b) = S) (hn : S.d.length = nD) :
    Calls Tryz.prog 72 #[.int .u32 src, .int .u32 dst, .slice A n c] w (SegTold S nD w) := by
  have hG := (segOf_good (src := src) (dst := dst) hA.byte hx).1
  refine (tparse_ok src dst A n c b w hc hA hx).mono ?_
  rintro e w' ⟨AO, nO, cO, os, AD, cD, rfl, ho, hl, hd, hb⟩
  have hd' : b.drop (offB b) = S.d := by rw [← hS]; rfl
  rw [hS] at hG hl
  have hnD : b.length - offB b = nD := by rw [← hn, ← hd', List.length_drop]
  rw [hd', hnD] at hd
  have hnO : nO ≤ 20 := by rw [← ho.len, hl.reads.len]; exact hG.few
  refine ⟨AO, nO, cO, os, AD, cD, by rw [hS, hnD]; rfl, ⟨hG.num, ⟨ho.cap, ho.capMax⟩, ⟨hd.cap, hd.capMax⟩, ho.rd, hl.reads, hd.rd hG.d⟩, hnO, ho, hl, hd, hb⟩

theorem own_seg {w : World} {B : Nat} {S : Seg} {AO : Option Addr} {nO cO : Nat} {os : List OptV} {AD : Option Addr} {nD cD : Nat} (hn : SegNum S) (ho : OwnO w B AO nO cO os) (hl : OwnL w B os S.os) (hd : OwnB w B AD nD cD S.d) (hby : ∀ x ∈ S.d, 0 ≤ x ∧ x < 256) : SegRd w S AO nO cO os AD nD cD :=
  ⟨hn, ⟨ho.cap, ho.capMax⟩, ⟨hd.cap, hd.capMax⟩, ho.rd, hl.reads, hd.rd hby⟩
end Go.Proofs.YtoegfgbalcholaaGreat

/-
  What package tcp and the document's own answers (culvertref06) both tell: Put's bytes or error, Parse's segment or error.
-/
namespace Go.Proofs.YtoegfgbalcholaaGreat
set_option maxRecDepth 10000
open Go.RowKit

/-- The bytes that are told: none where the segment may not be. -/
def toldB (src dst : Int) (s : Seg) : List Int := if errS s = 0 then segB src dst s else []
/-- What Parse told is written over: what is older than Bd stays; the segment itself, and its options' row. -/
structure SpoilT (w4 : World) (Bd : Nat) (AO : Option Addr) (nO cO : Nat) (os : List OptV) (AD : Option Addr) (nD cD : Nat) (q : Nat) (C : Array Value) (wr : World) : Prop where
  low : Below Bd w4 wr
  row : OwnO wr Bd AO nO cO os
  data : ∀ o ∈ os, ∃ l, OwnB wr Bd o.A o.n o.c l
  d : ∃ l, OwnB wr Bd AD nD cD l
  blk : wr.heap[q]? = some (.cells C 29 (0, 0))
theorem own_seg_apart {w : World} {B g n c q : Nat} {l : List Int} {C : Array Value} (h : OwnB w B (some ⟨g, 0, none⟩) n c l) (hq : w.heap[q]? = some (.cells C 29 (0, 0))) : g ≠ q := by
  rintro rfl
  rcases h.2 with ⟨e, _⟩ | ⟨g', cap, cur, e, _, hg, _⟩
  · injection e with e; cases e
  · injection e with e _ _
    injection e with e
    injection e with e
    subst e
    rw [hq] at hg
    injection hg with hg
    injection hg with _ hg _
    revert hg
    decide
theorem SpoilT.set_ {w4 : World} {Bd : Nat} {AO : Option Addr} {nO cO : Nat} {os : List OptV} {AD : Option Addr} {nD cD q : Nat} {C : Array Value} {wr : World} (h : SpoilT w4 Bd AO nO cO os AD nD cD q C wr) {g n c : Nat} {l : List Int} (ho : OwnB wr Bd (some ⟨g, 0, none⟩) n c l) (k : Nat) (y : Int) : SpoilT w4 Bd AO nO cO os AD nD cD q C (wr.setCell ⟨g, k, none⟩ (.int .u8 y)) := by
  have hset : But (fun x => x = g) wr (wr.setCell ⟨g, k, none⟩ (.int .u8 y)) := (But.refl (fun x => x = g) _).setCell (p := ⟨g, k, none⟩) rfl _
  have one : ∀ {A : Option Addr} {n c : Nat}, (∃ l, OwnB wr Bd A n c l) → ∃ l, OwnB (wr.setCell ⟨g, k, none⟩ (.int .u8 y)) Bd A n c l := by
    rintro A n c ⟨l', h'⟩
    by_cases hg : A = some ⟨g, 0, none⟩
    · rw [hg] at h' ⊢
      exact ⟨_, h'.set_ k y⟩
    · exact ⟨l', h'.butA hset (fun k' e he => hg (by rw [e, he]))⟩
  exact ⟨h.low.setCell (p := ⟨g, k, none⟩) (ho.at_ rfl).1 _, h.row.but hset (fun k' e he => own_apart ho h.row ⟨_, e, he⟩), fun o hm => one (h.data o hm), one h.d, hset.blk h.blk (fun e => own_seg_apart ho h.blk e.symm)⟩
end Go.Proofs.YtoegfgbalcholaaGreat

/-
  The document's own numbers in bytes (culvertref03): Own, Lay, and a reader's take and Num, of two bytes that are there.
-/
namespace Go.Proofs.YtoegfgbalcholaaGreat
set_option maxRecDepth 10000
open Go.RowKit
set_option linter.unusedSimpArgs false

end Go.Proofs.YtoegfgbalcholaaGreat

/-
  The document's own answers for datagrams (culvertref07): laid, Pseudo, Put.
-/
namespace Go.Proofs.YtoegfgbalcholaaGreat
set_option maxRecDepth 10000
open Go.RowKit

/-- A row that the call has made so far. -/
structure RowSo (w wr : World) (A : Option Addr) (m c : Nat) (l : List Int) : Prop where
  own : OwnB wr w.heap.size A m c l
  byte : ∀ x ∈ l, 0 ≤ x ∧ x < 256
  old : Below w.heap.size w wr
theorem RowSo.next {w wr w' : World} {A A' : Option Addr} {m c m' c' : Nat} {l l' : List Int} (h : RowSo w wr A m c l) (ho : OwnB w' wr.heap.size A' m' c' l') (hl : ∀ x ∈ l', 0 ≤ x ∧ x < 256) (hb : Below wr.heap.size wr w') : RowSo w w' A' m' c' l' :=
  ⟨ho.mono h.old.size, hl, below_trans h.old hb⟩
end Go.Proofs.YtoegfgbalcholaaGreat
