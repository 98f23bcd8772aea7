/-
  Texts laid together: IpRefPut, Whole, PkRef, PkMap.
-/
import Derived.Test.YtkooehejdfaekaaZK21
import Derived.Test.YtkooehejdfaekaaZK12
import Derived.Test.YtkooehejdfaekaaZK07
import Derived.Test.YtkooehejdfaekaaZK08
import Derived.RegionTactic
import Derived.BigRegion
import Derived.Deep.DeepCutAuto
import Derived.Deep.CutRange
import Derived.Deep.RegionHeld3
import Derived.Test.YtkooehejdfaekaaZK01
import Derived.Deep.WholeRow
import Derived.Test.YtkooehejdfaekaaZK04
import Derived.WideMake

/-
  The document's own answers for heads (culvertref04): Put.
-/
namespace Go.Proofs.Ytkooehejdfaekaa
set_option maxRecDepth 10000
open Go.RowKit
set_option linter.unusedSimpArgs false
set_option linter.unusedVariables false

theorem cells8 {w : World} {g : Nat} {u0 u1 u2 u3 u4 u5 u6 u7 : Value} {t : TypeId} (h : w.heap[g]? = some (.cells #[u0, u1, u2, u3, u4, u5, u6, u7] t (0, 0))) : w.cell? ⟨g, 0, none⟩ = some u0 ∧ w.cell? ⟨g, 1, none⟩ = some u1 ∧ w.cell? ⟨g, 2, none⟩ = some u2 ∧ w.cell? ⟨g, 3, none⟩ = some u3 ∧ w.cell? ⟨g, 4, none⟩ = some u4 ∧ w.cell? ⟨g, 5, none⟩ = some u5 ∧ w.cell? ⟨g, 6, none⟩ = some u6 ∧ w.cell? ⟨g, 7, none⟩ = some u7 := by
  refine ⟨?_, ?_, ?_, ?_, ?_, ?_, ?_, ?_⟩ <;> (rw [blk_cell h]; rfl)
/-- A row being laid beside a block that stays. -/
structure Lay4 (w : World) (z g : Nat) (hc : Array Value) (L : List Int) (w' : World) : Prop where
  own : OwnB w' g (some ⟨g, 0, none⟩) 20 20 L
  blk : w'.heap[z]? = some (.cells hc 26 (0, 0))
  low : Below g w w'
theorem Lay4.set_ {w : World} {z g : Nat} {hc : Array Value} {L : List Int} {w' : World} (h : Lay4 w z g hc L w') (hz : z ≠ g) (i : Nat) (x : Int) : Lay4 w z g hc (L.set i x) (w'.setCell ⟨g, i, none⟩ (.int .u8 x)) :=
  ⟨h.own.set_ i x, (Below.heap_setCell _ _ _ _ (by simpa using hz)).trans h.blk, h.low.setCell (p := ⟨g, i, none⟩) (Nat.le_refl _) _⟩
theorem Lay4.drew {w : World} {z g : Nat} {hc : Array Value} {L : List Int} {w' : World} (h : Lay4 w z g hc L w') : Lay4 w z g hc L w'.drew := ⟨h.own, h.blk, h.low.drew⟩
end Go.Proofs.Ytkooehejdfaekaa

/-
  A whole struct of many cells into the block that was made last, as one operation of a walk (cell by cell it is more than the kernel's memory from some 20 cells on). No function of the program.
-/
namespace Go.Proofs.Ytkooehejdfaekaa
set_option maxRecDepth 10000
open Go.RowKit

theorem wp_store_new {P : Program} {o : Oper} {a : Act} {K : Act → World → Prop} {Q : Exit → Act → World → Prop} (t : TypeId) (p x : Operand) (ho : o.op = .store t p x) (hd : o.dst = none) (W : World) (c c' : Array Value)
    (hp : a.eval p = .pointer (some ⟨W.heap.size, 0, none⟩)) (hx : a.eval x = .agg c') (hi : (P.info? t).map (·.size) = some c'.size) (hs : c.size = c'.size) (h1 : c'.all (·.oneCell') = true)
    (h : K a (W.alloc (.cells c' t))) : o.wp P a (W.alloc (.cells c t)) K Q := by
  unfold Oper.wp execOp
  simp only [ho, hp, hx, Sem.run_bind, run_storeAt_new W t c c' hi hs h1, Result.andThen_ok, Sem.run_pure]
  rw [Oper.upon_skip, hd]
  exact h
/-- A whole struct out of its block. -/
theorem wp_load_row {P : Program} {o : Oper} {a : Act} {w : World} {K : Act → World → Prop} {Q : Exit → Act → World → Prop} (t : TypeId) (p : Operand) (ho : o.op = .load t p) (g : Nat) (cs : Array Value) (ty : TypeId) (fr : Nat × Nat) (d : TypeDesc)
    (hg : w.heap[g]? = some (.cells cs ty fr)) (hp : a.eval p = .pointer (some ⟨g, 0, none⟩)) (hu : P.underlying t = some d) (hd : (match d with | .struct _ | .array _ _ => true | _ => false) = true) (hi : (P.info? t).map (·.size) = some cs.size)
    (h : K (a.put o.dst (.agg cs)) w) : o.wp P a w K Q := by
  unfold Oper.wp execOp
  simp only [ho, hp, Instr.loadAt, Instr.sureAddr, Sem.run_bind, Sem.run_pure, Result.andThen, run_loadVar_row w g ty t cs fr d hg hu hd hi]
  rw [Oper.upon_value]
  exact h
end Go.Proofs.Ytkooehejdfaekaa

/-
  The document's own answers for packets (culvertref09): Same, May, Put, Own.
-/
namespace Go.Proofs.Ytkooehejdfaekaa
set_option maxRecDepth 10000
open Go.RowKit
set_option linter.unusedSimpArgs false
set_option linter.unusedVariables false

theorem cells24 {w : World} {g : Nat} {v0 v1 v2 v3 v4 v5 v6 v7 v8 v9 v10 v11 v12 v13 v14 v15 v16 v17 v18 v19 v20 v21 v22 v23 : Value} {t : TypeId} (h : w.heap[g]? = some (.cells #[v0, v1, v2, v3, v4, v5, v6, v7, v8, v9, v10, v11, v12, v13, v14, v15, v16, v17, v18, v19, v20, v21, v22, v23] t (0, 0))) : w.cell? ⟨g, 0, none⟩ = some v0 ∧ w.cell? ⟨g, 1, none⟩ = some v1 ∧ w.cell? ⟨g, 2, none⟩ = some v2 ∧ w.cell? ⟨g, 3, none⟩ = some v3 ∧ w.cell? ⟨g, 4, none⟩ = some v4 ∧ w.cell? ⟨g, 5, none⟩ = some v5 ∧ w.cell? ⟨g, 6, none⟩ = some v6 ∧ w.cell? ⟨g, 7, none⟩ = some v7 ∧ w.cell? ⟨g, 8, none⟩ = some v8 ∧ w.cell? ⟨g, 9, none⟩ = some v9 ∧ w.cell? ⟨g, 10, none⟩ = some v10 ∧ w.cell? ⟨g, 11, none⟩ = some v11 ∧ w.cell? ⟨g, 12, none⟩ = some v12 ∧ w.cell? ⟨g, 13, none⟩ = some v13 ∧ w.cell? ⟨g, 14, none⟩ = some v14 ∧ w.cell? ⟨g, 15, none⟩ = some v15 ∧ w.cell? ⟨g, 16, none⟩ = some v16 ∧ w.cell? ⟨g, 17, none⟩ = some v17 ∧ w.cell? ⟨g, 18, none⟩ = some v18 ∧ w.cell? ⟨g, 19, none⟩ = some v19 ∧ w.cell? ⟨g, 20, none⟩ = some v20 ∧ w.cell? ⟨g, 21, none⟩ = some v21 ∧ w.cell? ⟨g, 22, none⟩ = some v22 ∧ w.cell? ⟨g, 23, none⟩ = some v23 := by
  refine ⟨?_, ?_, ?_, ?_, ?_, ?_, ?_, ?_, ?_, ?_, ?_, ?_, ?_, ?_, ?_, ?_, ?_, ?_, ?_, ?_, ?_, ?_, ?_, ?_⟩ <;> (rw [blk_cell h]; rfl)
theorem set9_24 {w : World} {q : Nat} {v0 v1 v2 v3 v4 v5 v6 v7 v8 v9 v10 v11 v12 v13 v14 v15 v16 v17 v18 v19 v20 v21 v22 v23 : Value} {t : TypeId} (h : w.heap[q]? = some (.cells #[v0, v1, v2, v3, v4, v5, v6, v7, v8, v9, v10, v11, v12, v13, v14, v15, v16, v17, v18, v19, v20, v21, v22, v23] t (0, 0))) (u0 u1 u2 u3 u4 u5 u6 u7 u8 : Value) : (((((((((w.setCell ⟨q, 8, none⟩ u0).setCell ⟨q, 9, none⟩ u1).setCell ⟨q, 10, none⟩ u2).setCell ⟨q, 11, none⟩ u3).setCell ⟨q, 12, none⟩ u4).setCell ⟨q, 13, none⟩ u5).setCell ⟨q, 14, none⟩ u6).setCell ⟨q, 15, none⟩ u7).setCell ⟨q, 16, none⟩ u8).heap[q]? = some (.cells #[v0, v1, v2, v3, v4, v5, v6, v7, u0, u1, u2, u3, u4, u5, u6, u7, u8, v17, v18, v19, v20, v21, v22, v23] t (0, 0)) := by
  have h0 := setCell_block (i := 8) h u0
  simp only [Array.set!, List.setIfInBounds_toArray, List.set_cons_succ, List.set_cons_zero] at h0
  have h1 := setCell_block (i := 9) h0 u1
  simp only [Array.set!, List.setIfInBounds_toArray, List.set_cons_succ, List.set_cons_zero] at h1
  have h2 := setCell_block (i := 10) h1 u2
  simp only [Array.set!, List.setIfInBounds_toArray, List.set_cons_succ, List.set_cons_zero] at h2
  have h3 := setCell_block (i := 11) h2 u3
  simp only [Array.set!, List.setIfInBounds_toArray, List.set_cons_succ, List.set_cons_zero] at h3
  have h4 := setCell_block (i := 12) h3 u4
  simp only [Array.set!, List.setIfInBounds_toArray, List.set_cons_succ, List.set_cons_zero] at h4
  have h5 := setCell_block (i := 13) h4 u5
  simp only [Array.set!, List.setIfInBounds_toArray, List.set_cons_succ, List.set_cons_zero] at h5
  have h6 := setCell_block (i := 14) h5 u6
  simp only [Array.set!, List.setIfInBounds_toArray, List.set_cons_succ, List.set_cons_zero] at h6
  have h7 := setCell_block (i := 15) h6 u7
  simp only [Array.set!, List.setIfInBounds_toArray, List.set_cons_succ, List.set_cons_zero] at h7
  have h8 := setCell_block (i := 16) h7 u8
  simp only [Array.set!, List.setIfInBounds_toArray, List.set_cons_succ, List.set_cons_zero] at h8
  exact h8
theorem zeroDg_num : DgNum zeroDg := ⟨by decide, by decide⟩
theorem zeroM_num : MsgNum zeroM := ⟨by decide, by decide, by decide⟩
end Go.Proofs.Ytkooehejdfaekaa

/-
  Maps of function values by a Proto, as package packet's payloads and readings make them: how the run puts in and looks up; the contract of payloads.
-/
namespace Go.Proofs.Ytkooehejdfaekaa
set_option maxRecDepth 10000
open Go.RowKit
set_option linter.unusedSimpArgs false
set_option linter.unusedVariables false

theorem put_payload (w : World) (b : Nat) (es : Array MapEntry) (clock : Nat) (k : Int) (v : Value) (hb : w.heap[b]? = some (.map es clock)) (hf : Instr.findNow (.int .u8) (.int .u8 k) es.toList 0 = some none) :
    (Instr.mapUpdate 54 (.map (some b)) (.int .u8 k) v).run Try.prog w = .ok () (setO w b (.map (es.push ⟨.int .u8 k, v, clock⟩) (clock + 1))) := by
  simp [setO, Instr.mapUpdate, run_underlying Try.underlying54, MapKept.run_getObj_map hb, check_u8 k w, MapKept.run_findKey Try.underlying5 hf, MapKept.run_setObj_map _ hb, Result.andThen]
theorem info_payload : (Try.prog.info? 53).map (·.zero) = some (some .nilFunc) := by kernel_rfl
theorem zero_payload (w : World) : (zeroValue 53).run Try.prog w = .ok .nilFunc w := by
  have h := info_payload
  cases hi : Try.prog.info? 53 with
  | none => rw [hi] at h; simp at h
  | some i =>
    rw [hi] at h
    simp at h
    simp [zeroValue, typeInfo, hi, h, go_sem]
theorem look2_payload (w : World) (b : Nat) (es : Array MapEntry) (clock : Nat) (k : Int) (x : Value) (ok : Bool) (hb : w.heap[b]? = some (.map es clock))
    (hf : Instr.findNow (.int .u8) (.int .u8 k) es.toList 0 = some none ∧ x = .nilFunc ∧ ok = false ∨ ∃ i, Instr.findNow (.int .u8) (.int .u8 k) es.toList 0 = some (some (i, x)) ∧ ok = true) :
    (Instr.lookup 54 (.map (some b)) (.int .u8 k) true).run Try.prog w = .ok (.tuple #[x, .bool ok]) w := by
  rcases hf with ⟨hf, rfl, rfl⟩ | ⟨i, hf, rfl⟩
  · simp [Instr.lookup, run_underlying Try.underlying54, MapKept.run_getObj_map hb, check_u8 k w, MapKept.run_findKey Try.underlying5 hf, zero_payload, Result.andThen]
  · simp [Instr.lookup, run_underlying Try.underlying54, MapKept.run_getObj_map hb, check_u8 k w, MapKept.run_findKey Try.underlying5 hf, Result.andThen]
theorem look1_payload (w : World) (b : Nat) (es : Array MapEntry) (clock i : Nat) (k : Int) (x : Value) (hb : w.heap[b]? = some (.map es clock))
    (hf : Instr.findNow (.int .u8) (.int .u8 k) es.toList 0 = some (some (i, x))) :
    (Instr.lookup 54 (.map (some b)) (.int .u8 k) false).run Try.prog w = .ok x w := by
  simp [Instr.lookup, run_underlying Try.underlying54, MapKept.run_getObj_map hb, check_u8 k w, MapKept.run_findKey Try.underlying5 hf, Result.andThen]
theorem put_reading (w : World) (b : Nat) (es : Array MapEntry) (clock : Nat) (k : Int) (v : Value) (hb : w.heap[b]? = some (.map es clock)) (hf : Instr.findNow (.int .u8) (.int .u8 k) es.toList 0 = some none) :
    (Instr.mapUpdate 70 (.map (some b)) (.int .u8 k) v).run Try.prog w = .ok () (setO w b (.map (es.push ⟨.int .u8 k, v, clock⟩) (clock + 1))) := by
  simp [setO, Instr.mapUpdate, run_underlying Try.underlying70, MapKept.run_getObj_map hb, check_u8 k w, MapKept.run_findKey Try.underlying5 hf, MapKept.run_setObj_map _ hb, Result.andThen]
theorem info_reading : (Try.prog.info? 68).map (·.zero) = some (some .nilFunc) := by kernel_rfl
theorem zero_reading (w : World) : (zeroValue 68).run Try.prog w = .ok .nilFunc w := by
  have h := info_reading
  cases hi : Try.prog.info? 68 with
  | none => rw [hi] at h; simp at h
  | some i =>
    rw [hi] at h
    simp at h
    simp [zeroValue, typeInfo, hi, h, go_sem]
theorem look2_reading (w : World) (b : Nat) (es : Array MapEntry) (clock : Nat) (k : Int) (x : Value) (ok : Bool) (hb : w.heap[b]? = some (.map es clock))
    (hf : Instr.findNow (.int .u8) (.int .u8 k) es.toList 0 = some none ∧ x = .nilFunc ∧ ok = false ∨ ∃ i, Instr.findNow (.int .u8) (.int .u8 k) es.toList 0 = some (some (i, x)) ∧ ok = true) :
    (Instr.lookup 70 (.map (some b)) (.int .u8 k) true).run Try.prog w = .ok (.tuple #[x, .bool ok]) w := by
  rcases hf with ⟨hf, rfl, rfl⟩ | ⟨i, hf, rfl⟩
  · simp [Instr.lookup, run_underlying Try.underlying70, MapKept.run_getObj_map hb, check_u8 k w, MapKept.run_findKey Try.underlying5 hf, zero_reading, Result.andThen]
  · simp [Instr.lookup, run_underlying Try.underlying70, MapKept.run_getObj_map hb, check_u8 k w, MapKept.run_findKey Try.underlying5 hf, Result.andThen]
/-- A map of three by the Protos. -/
def threeO (f6 f17 f1 : Value) : Obj := .map #[⟨.int .u8 6, f6, 0⟩, ⟨.int .u8 17, f17, 1⟩, ⟨.int .u8 1, f1, 2⟩] 3
theorem three_6 (f6 f17 f1 : Value) : Instr.findNow (.int .u8) (.int .u8 6) [⟨.int .u8 6, f6, 0⟩, ⟨.int .u8 17, f17, 1⟩, ⟨.int .u8 1, f1, 2⟩] 0 = some (some (0, f6)) := rfl
theorem three_17 (f6 f17 f1 : Value) : Instr.findNow (.int .u8) (.int .u8 17) [⟨.int .u8 6, f6, 0⟩, ⟨.int .u8 17, f17, 1⟩, ⟨.int .u8 1, f1, 2⟩] 0 = some (some (1, f17)) := rfl
theorem three_1 (f6 f17 f1 : Value) : Instr.findNow (.int .u8) (.int .u8 1) [⟨.int .u8 6, f6, 0⟩, ⟨.int .u8 17, f17, 1⟩, ⟨.int .u8 1, f1, 2⟩] 0 = some (some (2, f1)) := rfl
theorem three_no (f6 f17 f1 : Value) (k : Int) (h6 : k ≠ 6) (h17 : k ≠ 17) (h1 : k ≠ 1) : Instr.findNow (.int .u8) (.int .u8 k) [⟨.int .u8 6, f6, 0⟩, ⟨.int .u8 17, f17, 1⟩, ⟨.int .u8 1, f1, 2⟩] 0 = some none :=
  findU8 _ _ _ (by simp [h6, h17, h1])
/-- What stands at a Proto. -/
def atP (f6 f17 f1 : Value) (k : Int) : Value := if k = 6 then f6 else if k = 17 then f17 else if k = 1 then f1 else .nilFunc
def knownP (k : Int) : Bool := decide (k = 6) || (decide (k = 17) || decide (k = 1))
theorem look3_payload (w : World) (g : Nat) (f6 f17 f1 : Value) (k : Int) (x : Value) (ok : Bool) (hg : w.heap[g]? = some (threeO f6 f17 f1)) (hx : atP f6 f17 f1 k = x) (hk : knownP k = ok) :
    (Instr.lookup 54 (.map (some g)) (.int .u8 k) true).run Try.prog w = .ok (.tuple #[x, .bool ok]) w := by
  subst hx; subst hk
  refine look2_payload w g _ _ k _ _ hg ?_
  by_cases h6 : k = 6
  · subst h6; exact .inr ⟨0, three_6 _ _ _, rfl⟩
  by_cases h17 : k = 17
  · subst h17; exact .inr ⟨1, three_17 _ _ _, rfl⟩
  by_cases h1 : k = 1
  · subst h1; exact .inr ⟨2, three_1 _ _ _, rfl⟩
  exact .inl ⟨three_no _ _ _ _ h6 h17 h1, by unfold atP; rw [if_neg h6, if_neg h17, if_neg h1], by simp [knownP, h6, h17, h1]⟩
theorem look3_reading (w : World) (g : Nat) (f6 f17 f1 : Value) (k : Int) (x : Value) (ok : Bool) (hg : w.heap[g]? = some (threeO f6 f17 f1)) (hx : atP f6 f17 f1 k = x) (hk : knownP k = ok) :
    (Instr.lookup 70 (.map (some g)) (.int .u8 k) true).run Try.prog w = .ok (.tuple #[x, .bool ok]) w := by
  subst hx; subst hk
  refine look2_reading w g _ _ k _ _ hg ?_
  by_cases h6 : k = 6
  · subst h6; exact .inr ⟨0, three_6 _ _ _, rfl⟩
  by_cases h17 : k = 17
  · subst h17; exact .inr ⟨1, three_17 _ _ _, rfl⟩
  by_cases h1 : k = 1
  · subst h1; exact .inr ⟨2, three_1 _ _ _, rfl⟩
  exact .inl ⟨three_no _ _ _ _ h6 h17 h1, by unfold atP; rw [if_neg h6, if_neg h17, if_neg h1], by simp [knownP, h6, h17, h1]⟩
theorem at_payload (w : World) (g : Nat) (f6 f17 f1 : Value) (k : Int) (x : Value) (hg : w.heap[g]? = some (threeO f6 f17 f1)) (hx : atP f6 f17 f1 k = x) (hk : knownP k = true) :
    (Instr.lookup 54 (.map (some g)) (.int .u8 k) false).run Try.prog w = .ok x w := by
  subst hx
  unfold knownP at hk
  simp at hk
  rcases hk with rfl | rfl | rfl
  · exact look1_payload w g _ _ _ 6 _ hg (three_6 _ _ _)
  · exact look1_payload w g _ _ _ 17 _ hg (three_17 _ _ _)
  · exact look1_payload w g _ _ _ 1 _ hg (three_1 _ _ _)

theorem runs_payload {W w0 : World} {g : Nat} (f6 f17 f1 : Value) (b0 : Below W.heap.size W w0) (hg : W.heap.size ≤ g) (k0 : w0.heap[g]? = some (.map #[] 0)) :
    ∃ w1 w2 w3, (Instr.mapUpdate 54 (.map (some g)) (.int .u8 6) f6).run Try.prog w0 = .ok () w1 ∧ (Instr.mapUpdate 54 (.map (some g)) (.int .u8 17) f17).run Try.prog w1 = .ok () w2 ∧
      (Instr.mapUpdate 54 (.map (some g)) (.int .u8 1) f1).run Try.prog w2 = .ok () w3 ∧ w3.heap[g]? = some (threeO f6 f17 f1) ∧ Below W.heap.size W w3 := by
  have r1 := put_payload w0 g _ _ 6 f6 k0 (findU8 _ _ _ (by simp))
  have k1 := setO_at (.map (#[].push ⟨.int .u8 6, f6, 0⟩) 1) k0
  have b1 := setO_below (o := .map (#[].push ⟨.int .u8 6, f6, 0⟩) 1) b0 hg
  simp only [List.push_toArray, List.nil_append, List.cons_append, Nat.reduceAdd] at r1 k1 b1
  obtain ⟨w1, e1⟩ : ∃ v, setO w0 g (.map #[⟨.int .u8 6, f6, 0⟩] 1) = v := ⟨_, rfl⟩
  rw [e1] at r1 k1 b1
  clear e1
  have r2 := put_payload w1 g _ _ 17 f17 k1 (findU8 _ _ _ (by simp))
  have k2 := setO_at (.map (#[⟨.int .u8 6, f6, 0⟩].push ⟨.int .u8 17, f17, 1⟩) 2) k1
  have b2 := setO_below (o := .map (#[⟨.int .u8 6, f6, 0⟩].push ⟨.int .u8 17, f17, 1⟩) 2) b1 hg
  simp only [List.push_toArray, List.nil_append, List.cons_append, Nat.reduceAdd] at r2 k2 b2
  obtain ⟨w2, e2⟩ : ∃ v, setO w1 g (.map #[⟨.int .u8 6, f6, 0⟩, ⟨.int .u8 17, f17, 1⟩] 2) = v := ⟨_, rfl⟩
  rw [e2] at r2 k2 b2
  clear e2
  have r3 := put_payload w2 g _ _ 1 f1 k2 (findU8 _ _ _ (by simp))
  have k3 := setO_at (.map (#[⟨.int .u8 6, f6, 0⟩, ⟨.int .u8 17, f17, 1⟩].push ⟨.int .u8 1, f1, 2⟩) 3) k2
  have b3 := setO_below (o := .map (#[⟨.int .u8 6, f6, 0⟩, ⟨.int .u8 17, f17, 1⟩].push ⟨.int .u8 1, f1, 2⟩) 3) b2 hg
  simp only [List.push_toArray, List.nil_append, List.cons_append, Nat.reduceAdd] at r3 k3 b3
  exact ⟨w1, w2, _, r1, r2, r3, k3, b3⟩
theorem runs_reading {W w0 : World} {g : Nat} (f6 f17 f1 : Value) (b0 : Below W.heap.size W w0) (hg : W.heap.size ≤ g) (k0 : w0.heap[g]? = some (.map #[] 0)) :
    ∃ w1 w2 w3, (Instr.mapUpdate 70 (.map (some g)) (.int .u8 6) f6).run Try.prog w0 = .ok () w1 ∧ (Instr.mapUpdate 70 (.map (some g)) (.int .u8 17) f17).run Try.prog w1 = .ok () w2 ∧
      (Instr.mapUpdate 70 (.map (some g)) (.int .u8 1) f1).run Try.prog w2 = .ok () w3 ∧ w3.heap[g]? = some (threeO f6 f17 f1) ∧ Below W.heap.size W w3 := by
  have r1 := put_reading w0 g _ _ 6 f6 k0 (findU8 _ _ _ (by simp))
  have k1 := setO_at (.map (#[].push ⟨.int .u8 6, f6, 0⟩) 1) k0
  have b1 := setO_below (o := .map (#[].push ⟨.int .u8 6, f6, 0⟩) 1) b0 hg
  simp only [List.push_toArray, List.nil_append, List.cons_append, Nat.reduceAdd] at r1 k1 b1
  obtain ⟨w1, e1⟩ : ∃ v, setO w0 g (.map #[⟨.int .u8 6, f6, 0⟩] 1) = v := ⟨_, rfl⟩
  rw [e1] at r1 k1 b1
  clear e1
  have r2 := put_reading w1 g _ _ 17 f17 k1 (findU8 _ _ _ (by simp))
  have k2 := setO_at (.map (#[⟨.int .u8 6, f6, 0⟩].push ⟨.int .u8 17, f17, 1⟩) 2) k1
  have b2 := setO_below (o := .map (#[⟨.int .u8 6, f6, 0⟩].push ⟨.int .u8 17, f17, 1⟩) 2) b1 hg
  simp only [List.push_toArray, List.nil_append, List.cons_append, Nat.reduceAdd] at r2 k2 b2
  obtain ⟨w2, e2⟩ : ∃ v, setO w1 g (.map #[⟨.int .u8 6, f6, 0⟩, ⟨.int .u8 17, f17, 1⟩] 2) = v := ⟨_, rfl⟩
  rw [e2] at r2 k2 b2
  clear e2
  have r3 := put_reading w2 g _ _ 1 f1 k2 (findU8 _ _ _ (by simp))
  have k3 := setO_at (.map (#[⟨.int .u8 6, f6, 0⟩, ⟨.int .u8 17, f17, 1⟩].push ⟨.int .u8 1, f1, 2⟩) 3) k2
  have b3 := setO_below (o := .map (#[⟨.int .u8 6, f6, 0⟩, ⟨.int .u8 17, f17, 1⟩].push ⟨.int .u8 1, f1, 2⟩) 3) b2 hg
  simp only [List.push_toArray, List.nil_append, List.cons_append, Nat.reduceAdd] at r3 k3 b3
  exact ⟨w1, w2, _, r1, r2, r3, k3, b3⟩
end Go.Proofs.Ytkooehejdfaekaa
