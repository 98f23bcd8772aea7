/-
  Texts laid together: RowInt, CmpOr, Tup, TupVal.
-/
import Derived.Test.YtheknmihnkennaaGreatZB02
import Derived.Deep.CutRange
import Derived.RegionTactic
import Derived.BigRegion
import Derived.Test.YtheknmihnkennaaGreatZB01
import Derived.Test.YtheknmihnkennaaGreatZB05
import Derived.Test.YtheknmihnkennaaGreatZB03
import Derived.Test.YtheknmihnkennaaGreatZB24
import Derived.Laws.StructEq

/-
  A slice of ints that reads as a list.
-/
namespace Go.Proofs.YtheknmihnkennaaGreat
set_option maxRecDepth 10000
open Go.RowKit

/-- A slice of ints. -/
structure RdI (w : World) (A : Option Addr) (n : Nat) (l : List Int) : Prop where
  len : l.length = n
  at_ : 0 < n → ∃ b o, A = some ⟨b, o, none⟩ ∧ b < w.heap.size ∧ ∀ i, i < n → w.cell? ⟨b, o + i, none⟩ = some (.int .i64 (l.getD i 0))
theorem RdI.below {w w' : World} {A : Option Addr} {n : Nat} {l : List Int} (h : RdI w A n l) (hb : Below w.heap.size w w') : RdI w' A n l :=
  ⟨h.len, fun hn => by
    obtain ⟨b, o, e, hlt, hc⟩ := h.at_ hn
    exact ⟨b, o, e, Nat.lt_of_lt_of_le hlt hb.size, fun i hi => by rw [hb.cell (p := ⟨b, o + i, none⟩) hlt]; exact hc i hi⟩⟩
theorem RdI.const (w : World) (g : Nat) (hg : w.heap.size = g) (l : List Int) (t : TypeId) (fr : Nat × Nat) : RdI (w.alloc (.cells (l.map (Value.int .i64)).toArray t fr)) (some ⟨g, 0, none⟩) l.length l := by
  subst hg
  refine ⟨rfl, fun _ => ⟨w.heap.size, 0, rfl, by simp, fun i hi => ?_⟩⟩
  rw [World.cell?_alloc_mark]
  simp [List.getD, List.getElem?_eq_getElem hi]
end Go.Proofs.YtheknmihnkennaaGreat

/-
  The contracts of cmp.Compare and cmp.Or.
-/
namespace Go.Proofs.YtheknmihnkennaaGreat
set_option maxRecDepth 10000
open Go.RowKit
set_option linter.unusedSimpArgs false
set_option linter.unusedVariables false

def two (a b : Int) (z : Int) : Int := if a < b then -1 else if b < a then 1 else z
end Go.Proofs.YtheknmihnkennaaGreat

/-
  Tuples (api.Tuple) as numbers: bytes, order, the other way round. Nothing of the program.
-/
namespace Go.Proofs.YtheknmihnkennaaGreat
set_option maxRecDepth 10000
open Go.RowKit

structure Tu where
  pr : Int
  sr : Int
  ds : Int
  sp : Int
  dp : Int
structure TuNum (t : Tu) : Prop where
  pr : 0 ≤ t.pr ∧ t.pr < 256
  sr : 0 ≤ t.sr ∧ t.sr < 4294967296
  ds : 0 ≤ t.ds ∧ t.ds < 4294967296
  sp : 0 ≤ t.sp ∧ t.sp < 65536
  dp : 0 ≤ t.dp ∧ t.dp < 65536
end Go.Proofs.YtheknmihnkennaaGreat

/-
  Tuples (api.Tuple) as values: their cells, how the run holds one against another; two results of which the first is a tuple.
-/
namespace Go.Proofs.YtheknmihnkennaaGreat
set_option maxRecDepth 10000
open Go.RowKit
set_option linter.unusedSimpArgs false
set_option linter.unusedVariables false

theorem cells5 {w : World} {g : Nat} {u0 u1 u2 u3 u4 : Value} {t : TypeId} (h : w.heap[g]? = some (.cells #[u0, u1, u2, u3, u4] t (0, 0))) : w.cell? ⟨g, 0, none⟩ = some u0 ∧ w.cell? ⟨g, 1, none⟩ = some u1 ∧ w.cell? ⟨g, 2, none⟩ = some u2 ∧ w.cell? ⟨g, 3, none⟩ = some u3 ∧ w.cell? ⟨g, 4, none⟩ = some u4 := ⟨by rw [blk_cell h]; rfl, by rw [blk_cell h]; rfl, by rw [blk_cell h]; rfl, by rw [blk_cell h]; rfl, by rw [blk_cell h]; rfl⟩
theorem set5_blk {w : World} {q : Nat} {u0 u1 u2 u3 u4 : Value} {t : TypeId} (h : w.heap[q]? = some (.cells #[u0, u1, u2, u3, u4] t (0, 0))) (v0 v1 v2 v3 v4 : Value) :
    (((((w.setCell ⟨q, 0, none⟩ v0).setCell ⟨q, 1, none⟩ v1).setCell ⟨q, 2, none⟩ v2).setCell ⟨q, 3, none⟩ v3).setCell ⟨q, 4, none⟩ v4).heap[q]? = some (.cells #[v0, v1, v2, v3, v4] t (0, 0)) := by
  simp [World.setCell, Array.getElem?_modify, h]
theorem keep_blk {w : World} {q p i : Nat} {o : Obj} (h : w.heap[q]? = some o) (hn : p ≠ q) (v : Value) : (w.setCell ⟨p, i, none⟩ v).heap[q]? = some o := by
  simp [World.setCell, Array.getElem?_modify, h, hn]
theorem set5_below {B : Nat} {w0 w : World} {q : Nat} (h : Below B w0 w) (hq : B ≤ q) (v0 v1 v2 v3 v4 : Value) :
    Below B w0 (((((w.setCell ⟨q, 0, none⟩ v0).setCell ⟨q, 1, none⟩ v1).setCell ⟨q, 2, none⟩ v2).setCell ⟨q, 3, none⟩ v3).setCell ⟨q, 4, none⟩ v4) :=
  ((((h.setCell (p := ⟨q, 0, none⟩) hq v0).setCell (p := ⟨q, 1, none⟩) hq v1).setCell (p := ⟨q, 2, none⟩) hq v2).setCell (p := ⟨q, 3, none⟩) hq v3).setCell (p := ⟨q, 4, none⟩) hq v4
theorem set_blk {w : World} {q i : Nat} {C : Array Value} {t : TypeId} {fr : Nat × Nat} (h : w.heap[q]? = some (.cells C t fr)) (v : Value) : (w.setCell ⟨q, i, none⟩ v).heap[q]? = some (.cells (C.set! i v) t fr) := by
  simp [World.setCell, Array.getElem?_modify, h]
theorem keep_cell {w : World} {q p i j : Nat} {v : Option Value} (h : w.cell? ⟨q, i, none⟩ = v) (hn : p ≠ q) (u : Value) : (w.setCell ⟨p, j, none⟩ u).cell? ⟨q, i, none⟩ = v := by
  rw [← h]
  unfold World.cell?
  rw [Below.heap_setCell _ ⟨p, j, none⟩ _ q (fun e => hn e.symm)]
end Go.Proofs.YtheknmihnkennaaGreat
