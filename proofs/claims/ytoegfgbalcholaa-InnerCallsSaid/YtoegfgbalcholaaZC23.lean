/-
  Texts laid together: Ref03, UdpRef, IcmpRefPut, IcmpRefRead.
-/
import Derived.Test.YtoegfgbalcholaaZC02
import Derived.Test.YtoegfgbalcholaaZC06
import Derived.Lib.Hide
import Derived.IntWalk
import Derived.Deep.LoopGhost
import Derived.LoopTactic
import Derived.Outline
import Derived.Test.YtoegfgbalcholaaZC22
import Derived.Deep.CutRange
import Derived.Laws.BitsLemmas
import Derived.Test.YtoegfgbalcholaaZC16

/-
  The document's own numbers in bytes (culvertref03): Own, Lay, and a reader's take and Num, of two bytes that are there.
-/
namespace Go.Proofs.Ytoegfgbalcholaa
set_option maxRecDepth 10000
open Go.RowKit
set_option linter.unusedSimpArgs false

end Go.Proofs.Ytoegfgbalcholaa

/-
  The document's own answers for datagrams (culvertref07): laid, Pseudo, Put.
-/
namespace Go.Proofs.Ytoegfgbalcholaa
set_option maxRecDepth 10000
open Go.RowKit

/-- A row that the call has made so far. -/
structure RowSo (w wr : World) (A : Option Addr) (m c : Nat) (l : List Int) : Prop where
  own : OwnB wr w.heap.size A m c l
  byte : ∀ x ∈ l, 0 ≤ x ∧ x < 256
  old : Below w.heap.size w wr
theorem RowSo.next {w wr w' : World} {A A' : Option Addr} {m c m' c' : Nat} {l l' : List Int} (h : RowSo w wr A m c l) (ho : OwnB w' wr.heap.size A' m' c' l') (hl : ∀ x ∈ l', 0 ≤ x ∧ x < 256) (hb : Below wr.heap.size wr w') : RowSo w w' A' m' c' l' :=
  ⟨ho.mono h.old.size, hl, below_trans h.old hb⟩
end Go.Proofs.Ytoegfgbalcholaa

/-
  The document's own answers for messages (culvertref08): Put, Exceeded.
-/
namespace Go.Proofs.Ytoegfgbalcholaa
set_option maxRecDepth 10000
open Go.RowKit

end Go.Proofs.Ytoegfgbalcholaa

/-
  The document's own answers for messages (culvertref08): Parse, Exceeded.
-/
namespace Go.Proofs.Ytoegfgbalcholaa
set_option maxRecDepth 10000
open Go.RowKit
set_option linter.unusedVariables false
set_option linter.unusedSimpArgs false

structure Pars (w : World) (z : Nat) (b0 b1 v : Int) (wr : World) : Prop where
  old : Below w.heap.size w wr
  res : wr.heap[z]? = some (.cells #[.int .u8 0, .int .u8 0, .int .u32 0, .slice none 0 0] 50 (0, 0))
  mine : wr.heap[z + 1]? = some (.cells #[.int .u8 b0, .int .u8 b1, .int .u32 v, .slice none 0 0] 50 (0, 0))
  size : wr.heap.size = z + 2
theorem Pars.step {w : World} {z : Nat} {b0 b1 v : Int} {wr : World} (h : Pars w z b0 b1 v wr) (hz : w.heap.size = z) (y : Int) : Pars w z b0 b1 y (wr.setCell ⟨z + 1, 2, none⟩ (.int .u32 y)) :=
  ⟨h.old.setCell (by simp <;> omega) _, other_blk h.res (by omega) _, set_cell4 h.mine _, by simpa using h.size⟩
theorem Pars.drew {w : World} {z : Nat} {b0 b1 v : Int} {wr : World} (h : Pars w z b0 b1 v wr) : Pars w z b0 b1 v wr.drew := ⟨h.old.drew, h.res, h.mine, h.size⟩
theorem own_store {w : World} {B p i : Nat} {A : Option Addr} {n c : Nat} {l : List Int} (h : OwnB w B A n c l) (hp : p < B) (v : Value) : OwnB (w.setCell ⟨p, i, none⟩ v) B A n c l :=
  h.but ((But.refl (fun k => k = p) _).setCell (p := ⟨p, i, none⟩) rfl v) (fun k hk e => by omega)
theorem set_cell4d {w : World} {q : Nat} {u0 u1 u2 u3 : Value} {t : TypeId} (h : w.heap[q]? = some (.cells #[u0, u1, u2, u3] t (0, 0))) (v : Value) : (w.setCell ⟨q, 3, none⟩ v).heap[q]? = some (.cells #[u0, u1, u2, v] t (0, 0)) := by
  simp [World.setCell, Array.getElem?_modify, h]
structure Overs (w : World) (z : Nat) (l : List Int) (j : Nat) (Aj : Option Addr) (cj : Nat) (wr : World) : Prop where
  old : Below w.heap.size w wr
  res : wr.heap[z]? = some (.cells #[.int .u8 0, .int .u8 0, .int .u32 0, .slice none 0 0] 50 (0, 0))
  mine : wr.heap[z + 1]? = some (.cells #[.int .u8 11, .int .u8 0, .int .u32 0, .slice Aj j cj] 50 (0, 0))
  row : OwnB wr (z + 2) Aj j cj (l.take j)
  size : z + 2 ≤ wr.heap.size
theorem Overs.drew {w : World} {z : Nat} {l : List Int} {j : Nat} {Aj : Option Addr} {cj : Nat} {wr : World} (h : Overs w z l j Aj cj wr) : Overs w z l j Aj cj wr.drew := ⟨h.old.drew, h.res, h.mine, h.row.on (Below.drew (Below.refl _ _)), h.size⟩
theorem Overs.step {w : World} {z : Nat} {l : List Int} {j : Nat} {Aj : Option Addr} {cj : Nat} {wr : World} (h : Overs w z l j Aj cj wr) (hz : w.heap.size = z) {w1 : World} {A1 : Option Addr} {c1 : Nat} (ho : OwnB w1 (z + 2) A1 (j + 1) c1 (l.take (j + 1))) (hb : Below (z + 2) wr w1) :
    Overs w z l (j + 1) A1 c1 (w1.setCell ⟨z + 1, 3, none⟩ (.slice A1 (j + 1) c1)) := by
  have hm : w1.heap[z + 1]? = some (.cells #[.int .u8 11, .int .u8 0, .int .u32 0, .slice Aj j cj] 50 (0, 0)) := (hb.block _ (by omega)).trans h.mine
  have hr : w1.heap[z]? = some (.cells #[.int .u8 0, .int .u8 0, .int .u32 0, .slice none 0 0] 50 (0, 0)) := (hb.block _ (by omega)).trans h.res
  refine ⟨(h.old.trans (hb.mono (by omega))).setCell (p := ⟨z + 1, 3, none⟩) (by simp <;> omega) _, other_blk hr (by omega) _, set_cell4d hm _, own_store ho (by omega) _, ?_⟩
  have := hb.size
  have := h.size
  simp <;> omega

end Go.Proofs.Ytoegfgbalcholaa
