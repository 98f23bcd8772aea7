/-
  Texts laid together: TcpOpen, TcpLaw, TcpBoth, Ref03.
-/
import Derived.Test.YtoegfgbalcholaaZD13
import Derived.Test.YtoegfgbalcholaaZD20
import Derived.Lib.SmallJoins
import Derived.SizedLaws
import Derived.Test.YtoegfgbalcholaaZD19
import Derived.Test.YtoegfgbalcholaaZD02
import Derived.Test.YtoegfgbalcholaaZD06
import Derived.Lib.Hide
import Derived.IntWalk
import Derived.Deep.LoopGhost
import Derived.LoopTactic
import Derived.Outline

/-
  A segment (api.Segment) that comes in, opened: numbers within their bounds, a slice of options, a slice of bytes.
-/
namespace Go.Proofs.Ytoegfgbalcholaa
set_option maxRecDepth 10000
open Go.Joins Go.ChangeShapes Go.WideShapes Go.ChangeAt Go.RowKit Go.Deep

section
variable {H : Type} {enc : TypeId × Value → H} {P : Program} {w : World} {base : Nat} {spare : Nat → Bool} {held : Bool}
end

theorem opts_read {H : Type} {enc : TypeId × Value → H} {W : World} {n0 : Nat} {v : Value} {y : DataW H × List MemPlace}
    (hm : DataW.trod enc Try.prog W 0 (fun _ => true) true n0 44 [v] = some y) : ∃ A n c os ls, v = .slice A n c ∧ n ≤ c ∧ c ≤ maxLen ∧ RdO W A n os ∧ Reads W os ls ∧ LenOf y.1 n := by
  have hC : Try.prog.cellsOf 133 = 2 := by kernel_rfl
  have hC1 : Try.prog.cellsOf 5 = 1 := by kernel_rfl
  have hC2 : Try.prog.cellsOf 22 = 1 := by kernel_rfl
  rcases open_slice Try.underlying44 hm with ⟨hcs, _⟩ | ⟨x, len, cap, m, fu2, D, Pl, hcs, _, hl, hm', hmm, hX, hi⟩
  · simp at hcs
    exact ⟨Option.none, 0, 0, [], [], hcs, Nat.le_refl _, by simp [maxLen], RdO.nil _ _, trivial, .inl rfl⟩
  · simp at hcs
    simp only [if_true] at hmm
    subst hmm
    rw [hC] at hi
    have hP : ∀ i, i < len → ∃ o l, (W.cell? (x.add (i * 2)) = some (.int .u8 o.kind) ∧ W.cell? ((x.add (i * 2)).add 1) = some (.slice o.A o.n o.c)) ∧ OptAt W o l := by
      intro i hin
      obtain ⟨cs', hc, ht⟩ := hi i (by omega)
      obtain ⟨y0, y1, fu3, _, hlen, h0, h1⟩ := trod_struct2 Try.underlying133 ht
      rw [hC] at hlen
      obtain ⟨_, hcl, hat⟩ := World.cells?_some hc
      match cs', hlen with
      | [u0, u1], _ =>
        simp [hC1, hC2] at h0 h1
        obtain ⟨kd, e0, -, w0⟩ := DataW.trod_int Try.underlying5 h0
        obtain ⟨A, n, c, l, e1, hnc, hcm, hr⟩ := rd_open h1
        simp at e0
        subst e0 e1
        have b0 := bounds_u8 w0
        have c0 := hat 0 (by omega)
        have c1 := hat 1 (by omega)
        simp at c0 c1
        exact ⟨⟨kd, A, n, c⟩, (kd, l), ⟨by simpa [Addr.add] using c0, c1⟩, rfl, (show 0 ≤ kd ∧ kd < 256 by omega), hnc, hcm, hr⟩
    obtain ⟨os, ls, hlen, hp, hreads⟩ := lists_of len hP
    refine ⟨some x, len, _, os, ls, hcs, hl, hm', ⟨hlen, fun hn => ?_⟩, hreads, .inr ⟨_, _, by rw [hX], by simp⟩⟩
    obtain ⟨b, off, spot⟩ := x
    have hspot : spot = Option.none := by simpa [Addr.add] using World.cell?_spot (hp 0 hn).1
    subst hspot
    refine ⟨b, off, rfl, World.block_lt_of_cell? (w := W) (a := ⟨b, off, Option.none⟩) (by simpa [Addr.add] using (hp 0 hn).1), fun i hin => ?_⟩
    have := hp i hin
    rw [add_plain, add_plain, Nat.add_assoc] at this
    exact this

theorem bytes_opt : Try.prog.bytesOf 133 = 32 := by kernel_rfl
end Go.Proofs.Ytoegfgbalcholaa

/-
  What the laws of tcp have in common: Parse's answer by name, the same segment, addresses' sums.
-/
namespace Go.Proofs.Ytoegfgbalcholaa
set_option maxRecDepth 10000
open Go.RowKit

end Go.Proofs.Ytoegfgbalcholaa

/-
  What package tcp and the document's own answers (culvertref06) both tell: Put's bytes or error, Parse's segment or error.
-/
namespace Go.Proofs.Ytoegfgbalcholaa
set_option maxRecDepth 10000
open Go.RowKit

/-- The bytes that are told: none where the segment may not be. -/
def toldB (src dst : Int) (s : Seg) : List Int := if errS s = 0 then segB src dst s else []
/-- What Parse told is written over: what is older than Bd stays; the segment itself, and its options' row. -/
structure SpoilT (w4 : World) (Bd : Nat) (AO : Option Addr) (nO cO : Nat) (os : List OptV) (AD : Option Addr) (nD cD : Nat) (q : Nat) (C : Array Value) (wr : World) : Prop where
  low : Below Bd w4 wr
  row : OwnO wr Bd AO nO cO os
  data : ∀ o ∈ os, ∃ l, OwnB wr Bd o.A o.n o.c l
  d : ∃ l, OwnB wr Bd AD nD cD l
  blk : wr.heap[q]? = some (.cells C 46 (0, 0))
theorem own_seg_apart {w : World} {B g n c q : Nat} {l : List Int} {C : Array Value} (h : OwnB w B (some ⟨g, 0, none⟩) n c l) (hq : w.heap[q]? = some (.cells C 46 (0, 0))) : g ≠ q := by
  rintro rfl
  rcases h.2 with ⟨e, _⟩ | ⟨g', cap, cur, e, _, hg, _⟩
  · injection e with e; cases e
  · injection e with e _ _
    injection e with e
    injection e with e
    subst e
    rw [hq] at hg
    injection hg with hg
    injection hg with _ hg _
    revert hg
    decide
theorem SpoilT.set_ {w4 : World} {Bd : Nat} {AO : Option Addr} {nO cO : Nat} {os : List OptV} {AD : Option Addr} {nD cD q : Nat} {C : Array Value} {wr : World} (h : SpoilT w4 Bd AO nO cO os AD nD cD q C wr) {g n c : Nat} {l : List Int} (ho : OwnB wr Bd (some ⟨g, 0, none⟩) n c l) (k : Nat) (y : Int) : SpoilT w4 Bd AO nO cO os AD nD cD q C (wr.setCell ⟨g, k, none⟩ (.int .u8 y)) := by
  have hset : But (fun x => x = g) wr (wr.setCell ⟨g, k, none⟩ (.int .u8 y)) := (But.refl (fun x => x = g) _).setCell (p := ⟨g, k, none⟩) rfl _
  have one : ∀ {A : Option Addr} {n c : Nat}, (∃ l, OwnB wr Bd A n c l) → ∃ l, OwnB (wr.setCell ⟨g, k, none⟩ (.int .u8 y)) Bd A n c l := by
    rintro A n c ⟨l', h'⟩
    by_cases hg : A = some ⟨g, 0, none⟩
    · rw [hg] at h' ⊢
      exact ⟨_, h'.set_ k y⟩
    · exact ⟨l', h'.butA hset (fun k' e he => hg (by rw [e, he]))⟩
  exact ⟨h.low.setCell (p := ⟨g, k, none⟩) (ho.at_ rfl).1 _, h.row.but hset (fun k' e he => own_apart ho h.row ⟨_, e, he⟩), fun o hm => one (h.data o hm), one h.d, hset.blk h.blk (fun e => own_seg_apart ho h.blk e.symm)⟩
end Go.Proofs.Ytoegfgbalcholaa

/-
  The document's own numbers in bytes (culvertref03): Own, Lay, and a reader's take and Num, of two bytes that are there.
-/
namespace Go.Proofs.Ytoegfgbalcholaa
set_option maxRecDepth 10000
open Go.RowKit
set_option linter.unusedSimpArgs false

end Go.Proofs.Ytoegfgbalcholaa
