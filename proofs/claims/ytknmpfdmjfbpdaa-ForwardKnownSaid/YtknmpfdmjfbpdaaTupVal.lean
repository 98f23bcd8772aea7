/-
  Tuples (api.Tuple) as values: their cells, how the run holds one against another; two results of which the first is a tuple.
-/
import Derived.Test.YtknmpfdmjfbpdaaTup
import Derived.Test.YtknmpfdmjfbpdaaBut
import Derived.Test.YtknmpfdmjfbpdaaSumAny
import Derived.Test.YtknmpfdmjfbpdaaWhole
import Derived.Laws.StructEq
namespace Go.Proofs.Ytknmpfdmjfbpdaa
set_option maxRecDepth 10000
open Go.RowKit
set_option linter.unusedSimpArgs false
set_option linter.unusedVariables false

def tuSame (t u : Tu) : Bool := t.pr == u.pr && (t.sr == u.sr && (t.ds == u.ds && (t.sp == u.sp && t.dp == u.dp)))
theorem tuSame_iff (t u : Tu) : tuSame t u = true ↔ t = u := by
  obtain ⟨a, b, c, d, e⟩ := t
  obtain ⟨a', b', c', d', e'⟩ := u
  simp [tuSame]
theorem tuSame_self (t : Tu) : tuSame t t = true := (tuSame_iff t t).2 rfl
theorem tu_eql (t u : Tu) (w : World) : (binOp .eql 31 (.agg #[.int .u8 t.pr, .int .u32 t.sr, .int .u32 t.ds, .int .u16 t.sp, .int .u16 t.dp]) (.agg #[.int .u8 u.pr, .int .u32 u.sr, .int .u32 u.ds, .int .u16 u.sp, .int .u16 u.dp])).run Try.prog w = .ok (.bool (tuSame t u)) w := by
  rw [run_eql_struct, run_equalIn_struct w 9999 31 _ _ (by kernel_rfl) (by kernel_rfl)]
  unfold tuSame
  obtain ⟨a, b, c, d, e⟩ := t
  obtain ⟨a', b', c', d', e'⟩ := u
  go_simp
  repeat' split
  all_goals simp_all
theorem cells5 {w : World} {g : Nat} {u0 u1 u2 u3 u4 : Value} {t : TypeId} (h : w.heap[g]? = some (.cells #[u0, u1, u2, u3, u4] t (0, 0))) : w.cell? ⟨g, 0, none⟩ = some u0 ∧ w.cell? ⟨g, 1, none⟩ = some u1 ∧ w.cell? ⟨g, 2, none⟩ = some u2 ∧ w.cell? ⟨g, 3, none⟩ = some u3 ∧ w.cell? ⟨g, 4, none⟩ = some u4 := ⟨by rw [blk_cell h]; rfl, by rw [blk_cell h]; rfl, by rw [blk_cell h]; rfl, by rw [blk_cell h]; rfl, by rw [blk_cell h]; rfl⟩
theorem set5_blk {w : World} {q : Nat} {u0 u1 u2 u3 u4 : Value} {t : TypeId} (h : w.heap[q]? = some (.cells #[u0, u1, u2, u3, u4] t (0, 0))) (v0 v1 v2 v3 v4 : Value) :
    (((((w.setCell ⟨q, 0, none⟩ v0).setCell ⟨q, 1, none⟩ v1).setCell ⟨q, 2, none⟩ v2).setCell ⟨q, 3, none⟩ v3).setCell ⟨q, 4, none⟩ v4).heap[q]? = some (.cells #[v0, v1, v2, v3, v4] t (0, 0)) := by
  simp [World.setCell, Array.getElem?_modify, h]
theorem keep_blk {w : World} {q p i : Nat} {o : Obj} (h : w.heap[q]? = some o) (hn : p ≠ q) (v : Value) : (w.setCell ⟨p, i, none⟩ v).heap[q]? = some o := by
  simp [World.setCell, Array.getElem?_modify, h, hn]
theorem set5_below {B : Nat} {w0 w : World} {q : Nat} (h : Below B w0 w) (hq : B ≤ q) (v0 v1 v2 v3 v4 : Value) :
    Below B w0 (((((w.setCell ⟨q, 0, none⟩ v0).setCell ⟨q, 1, none⟩ v1).setCell ⟨q, 2, none⟩ v2).setCell ⟨q, 3, none⟩ v3).setCell ⟨q, 4, none⟩ v4) :=
  ((((h.setCell (p := ⟨q, 0, none⟩) hq v0).setCell (p := ⟨q, 1, none⟩) hq v1).setCell (p := ⟨q, 2, none⟩) hq v2).setCell (p := ⟨q, 3, none⟩) hq v3).setCell (p := ⟨q, 4, none⟩) hq v4
theorem set_below {B : Nat} {w0 w : World} {q i : Nat} (h : Below B w0 w) (hq : B ≤ q) (v : Value) : Below B w0 (w.setCell ⟨q, i, none⟩ v) := h.setCell (p := ⟨q, i, none⟩) hq v
theorem set_blk {w : World} {q i : Nat} {C : Array Value} {t : TypeId} {fr : Nat × Nat} (h : w.heap[q]? = some (.cells C t fr)) (v : Value) : (w.setCell ⟨q, i, none⟩ v).heap[q]? = some (.cells (C.set! i v) t fr) := by
  simp [World.setCell, Array.getElem?_modify, h]
theorem keep_cell {w : World} {q p i j : Nat} {v : Option Value} (h : w.cell? ⟨q, i, none⟩ = v) (hn : p ≠ q) (u : Value) : (w.setCell ⟨p, j, none⟩ u).cell? ⟨q, i, none⟩ = v := by
  rw [← h]
  unfold World.cell?
  rw [Below.heap_setCell _ ⟨p, j, none⟩ _ q (fun e => hn e.symm)]
end Go.Proofs.Ytknmpfdmjfbpdaa
