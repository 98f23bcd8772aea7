/-
  Texts laid together: Whole, PkRef, PkMap, PkPay.
-/
import Derived.Test.YtheknmihnkennaaGreatZB02
import Derived.Deep.WholeRow
import Derived.Test.YtheknmihnkennaaGreatZB23
import Derived.RegionTactic
import Derived.BigRegion
import Derived.Deep.DeepCutAuto
import Derived.Deep.CutRange
import Derived.Test.YtheknmihnkennaaGreatZB06
import Derived.WideMake
import Derived.Deep.RegionHeld3
import Derived.Test.YtheknmihnkennaaGreatZB22

/-
  A whole struct of many cells into the block that was made last, as one operation of a walk (cell by cell it is more than the kernel's memory from some 20 cells on). No function of the program.
-/
namespace Go.Proofs.YtheknmihnkennaaGreat
set_option maxRecDepth 10000
open Go.RowKit

theorem wp_store_new {P : Program} {o : Oper} {a : Act} {K : Act → World → Prop} {Q : Exit → Act → World → Prop} (t : TypeId) (p x : Operand) (ho : o.op = .store t p x) (hd : o.dst = none) (W : World) (c c' : Array Value)
    (hp : a.eval p = .pointer (some ⟨W.heap.size, 0, none⟩)) (hx : a.eval x = .agg c') (hi : (P.info? t).map (·.size) = some c'.size) (hs : c.size = c'.size) (h1 : c'.all (·.oneCell') = true)
    (h : K a (W.alloc (.cells c' t))) : o.wp P a (W.alloc (.cells c t)) K Q := by
  unfold Oper.wp execOp
  simp only [ho, hp, hx, Sem.run_bind, run_storeAt_new W t c c' hi hs h1, Result.andThen_ok, Sem.run_pure]
  rw [Oper.upon_skip, hd]
  exact h
/-- A whole struct out of its block. -/
theorem wp_load_row {P : Program} {o : Oper} {a : Act} {w : World} {K : Act → World → Prop} {Q : Exit → Act → World → Prop} (t : TypeId) (p : Operand) (ho : o.op = .load t p) (g : Nat) (cs : Array Value) (ty : TypeId) (fr : Nat × Nat) (d : TypeDesc)
    (hg : w.heap[g]? = some (.cells cs ty fr)) (hp : a.eval p = .pointer (some ⟨g, 0, none⟩)) (hu : P.underlying t = some d) (hd : (match d with | .struct _ | .array _ _ => true | _ => false) = true) (hi : (P.info? t).map (·.size) = some cs.size)
    (h : K (a.put o.dst (.agg cs)) w) : o.wp P a w K Q := by
  unfold Oper.wp execOp
  simp only [ho, hp, Instr.loadAt, Instr.sureAddr, Sem.run_bind, Sem.run_pure, Result.andThen, run_loadVar_row w g ty t cs fr d hg hu hd hi]
  rw [Oper.upon_value]
  exact h
theorem results_row_tmp {P : Program} {fn : Func} {p q : Tmp} {ty : TypeId} (h : fn.results = #[.cell p ty, .tmp q]) (tmps : Array Value) (w : World) (g : Nat) (t : TypeId) (cs : Array Value) (fr : Nat × Nat) (d : TypeDesc) (v : Value)
    (hp : tmps.getD p undef = .pointer (some ⟨g, 0, none⟩)) (hv : tmps.getD q undef = v) (hg : w.heap[g]? = some (.cells cs t fr))
    (hu : P.underlying ty = some d) (hd : (match d with | .struct _ | .array _ _ => true | _ => false) = true) (hi : (P.info? ty).map (·.size) = some cs.size) :
    (results fn tmps).run P w = .ok (.tuple #[.agg cs, v]) w := by
  have hp' : tmps[p]?.getD undef = .pointer (some ⟨g, 0, none⟩) := by simpa using hp
  have hv' : tmps[q]?.getD undef = v := by simpa using hv
  simp [results, h, hp', hv', asAddr, run_loadVar_row w g t ty cs fr d hg hu hd hi]
theorem exec_row {P : Program} {o : Oper} {a : Act} {w : World} (t : TypeId) (p : Operand) (ho : o.op = .load t p) (g : Nat) (cs : Array Value) (ty : TypeId) (fr : Nat × Nat) (d : TypeDesc)
    (hg : w.heap[g]? = some (.cells cs ty fr)) (hp : a.eval p = .pointer (some ⟨g, 0, none⟩)) (hu : P.underlying t = some d) (hd : (match d with | .struct _ | .array _ _ => true | _ => false) = true) (hi : (P.info? t).map (·.size) = some cs.size) :
    (execOp a.eval o).run P w = .ok (.value (.agg cs)) w := by
  unfold execOp
  simp only [ho, hp, Instr.loadAt, Instr.sureAddr, Sem.run_bind, Sem.run_pure, Result.andThen, run_loadVar_row w g ty t cs fr d hg hu hd hi]
/-- A whole struct into a block, at a step of a region that draws its order. -/
theorem step_row {P : Program} {ops : Array Oper} {o : Oper} {a : Act} {w : World} {K : Act → World → Prop} {Q : Exit → Act → World → Prop} {E : Prop} (hgd : o.guard = none) (ty : TypeId) (x y : Operand) (ho : o.op = .store ty x y)
    (g : Nat) (cells : Array Value) (hx : a.eval x = .pointer (some ⟨g, 0, none⟩)) (hy : a.eval y = .agg cells) (t : TypeId) (old : Array Value) (hg : w.heap[g]? = some (.cells old t (0, 0))) (hi : (P.info? ty).map (·.size) = some cells.size)
    (hold : old.size = cells.size) (h1 : cells.all (·.oneCell') = true) (h : K (a.put o.dst undef) (w.setRow g cells)) : if Region.wanted o (yielded ops a.tmps) = true then o.wp P a w K Q else E := by
  rw [if_pos (by simp [Region.wanted, hgd])]
  exact wp_store_row ty x y ho g cells hx hy t old hg hi hold h1 h
/-- A whole struct out of its block, at an operation of a walk (guarded or not). -/
theorem wpList_row {P : Program} {ops : Array Oper} {rest : List Oper} {o : Oper} {a : Act} {w : World} {Q : Exit → Act → World → Prop} (t : TypeId) (p : Operand) (ho : o.op = .load t p) (hw : Region.wanted o (yielded ops a.tmps) = true) (g : Nat) (cs : Array Value) (ty : TypeId) (fr : Nat × Nat) (d : TypeDesc)
    (hg : w.heap[g]? = some (.cells cs ty fr)) (hp : a.eval p = .pointer (some ⟨g, 0, none⟩)) (hu : P.underlying t = some d) (hd : (match d with | .struct _ | .array _ _ => true | _ => false) = true) (hi : (P.info? t).map (·.size) = some cs.size)
    (h : wpList P ops Q rest (a.put o.dst (.agg cs)) w) : wpList P ops Q (o :: rest) a w := by
  refine wpList_step (fun K hK => ?_)
  rw [if_pos hw]
  exact wp_load_row t p ho g cs ty fr d hg hp hu hd hi (hK _ _ h)
end Go.Proofs.YtheknmihnkennaaGreat

/-
  The document's own answers for packets (culvertref09): Same, May, Put, Own.
-/
namespace Go.Proofs.YtheknmihnkennaaGreat
set_option maxRecDepth 10000
open Go.RowKit
set_option linter.unusedSimpArgs false
set_option linter.unusedVariables false

theorem set9_24 {w : World} {q : Nat} {v0 v1 v2 v3 v4 v5 v6 v7 v8 v9 v10 v11 v12 v13 v14 v15 v16 v17 v18 v19 v20 v21 v22 v23 : Value} {t : TypeId} (h : w.heap[q]? = some (.cells #[v0, v1, v2, v3, v4, v5, v6, v7, v8, v9, v10, v11, v12, v13, v14, v15, v16, v17, v18, v19, v20, v21, v22, v23] t (0, 0))) (u0 u1 u2 u3 u4 u5 u6 u7 u8 : Value) : (((((((((w.setCell ⟨q, 8, none⟩ u0).setCell ⟨q, 9, none⟩ u1).setCell ⟨q, 10, none⟩ u2).setCell ⟨q, 11, none⟩ u3).setCell ⟨q, 12, none⟩ u4).setCell ⟨q, 13, none⟩ u5).setCell ⟨q, 14, none⟩ u6).setCell ⟨q, 15, none⟩ u7).setCell ⟨q, 16, none⟩ u8).heap[q]? = some (.cells #[v0, v1, v2, v3, v4, v5, v6, v7, u0, u1, u2, u3, u4, u5, u6, u7, u8, v17, v18, v19, v20, v21, v22, v23] t (0, 0)) := by
  have h0 := setCell_block (i := 8) h u0
  simp only [Array.set!, List.setIfInBounds_toArray, List.set_cons_succ, List.set_cons_zero] at h0
  have h1 := setCell_block (i := 9) h0 u1
  simp only [Array.set!, List.setIfInBounds_toArray, List.set_cons_succ, List.set_cons_zero] at h1
  have h2 := setCell_block (i := 10) h1 u2
  simp only [Array.set!, List.setIfInBounds_toArray, List.set_cons_succ, List.set_cons_zero] at h2
  have h3 := setCell_block (i := 11) h2 u3
  simp only [Array.set!, List.setIfInBounds_toArray, List.set_cons_succ, List.set_cons_zero] at h3
  have h4 := setCell_block (i := 12) h3 u4
  simp only [Array.set!, List.setIfInBounds_toArray, List.set_cons_succ, List.set_cons_zero] at h4
  have h5 := setCell_block (i := 13) h4 u5
  simp only [Array.set!, List.setIfInBounds_toArray, List.set_cons_succ, List.set_cons_zero] at h5
  have h6 := setCell_block (i := 14) h5 u6
  simp only [Array.set!, List.setIfInBounds_toArray, List.set_cons_succ, List.set_cons_zero] at h6
  have h7 := setCell_block (i := 15) h6 u7
  simp only [Array.set!, List.setIfInBounds_toArray, List.set_cons_succ, List.set_cons_zero] at h7
  have h8 := setCell_block (i := 16) h7 u8
  simp only [Array.set!, List.setIfInBounds_toArray, List.set_cons_succ, List.set_cons_zero] at h8
  exact h8
theorem set3_24 {w : World} {q : Nat} {v0 v1 v2 v3 v4 v5 v6 v7 v8 v9 v10 v11 v12 v13 v14 v15 v16 v17 v18 v19 v20 v21 v22 v23 : Value} {t : TypeId} (h : w.heap[q]? = some (.cells #[v0, v1, v2, v3, v4, v5, v6, v7, v8, v9, v10, v11, v12, v13, v14, v15, v16, v17, v18, v19, v20, v21, v22, v23] t (0, 0))) (u0 u1 u2 : Value) : (((w.setCell ⟨q, 17, none⟩ u0).setCell ⟨q, 18, none⟩ u1).setCell ⟨q, 19, none⟩ u2).heap[q]? = some (.cells #[v0, v1, v2, v3, v4, v5, v6, v7, v8, v9, v10, v11, v12, v13, v14, v15, v16, u0, u1, u2, v20, v21, v22, v23] t (0, 0)) := by
  have h0 := setCell_block (i := 17) h u0
  simp only [Array.set!, List.setIfInBounds_toArray, List.set_cons_succ, List.set_cons_zero] at h0
  have h1 := setCell_block (i := 18) h0 u1
  simp only [Array.set!, List.setIfInBounds_toArray, List.set_cons_succ, List.set_cons_zero] at h1
  have h2 := setCell_block (i := 19) h1 u2
  simp only [Array.set!, List.setIfInBounds_toArray, List.set_cons_succ, List.set_cons_zero] at h2
  exact h2
theorem set4_24 {w : World} {q : Nat} {v0 v1 v2 v3 v4 v5 v6 v7 v8 v9 v10 v11 v12 v13 v14 v15 v16 v17 v18 v19 v20 v21 v22 v23 : Value} {t : TypeId} (h : w.heap[q]? = some (.cells #[v0, v1, v2, v3, v4, v5, v6, v7, v8, v9, v10, v11, v12, v13, v14, v15, v16, v17, v18, v19, v20, v21, v22, v23] t (0, 0))) (u0 u1 u2 u3 : Value) : ((((w.setCell ⟨q, 20, none⟩ u0).setCell ⟨q, 21, none⟩ u1).setCell ⟨q, 22, none⟩ u2).setCell ⟨q, 23, none⟩ u3).heap[q]? = some (.cells #[v0, v1, v2, v3, v4, v5, v6, v7, v8, v9, v10, v11, v12, v13, v14, v15, v16, v17, v18, v19, u0, u1, u2, u3] t (0, 0)) := by
  have h0 := setCell_block (i := 20) h u0
  simp only [Array.set!, List.setIfInBounds_toArray, List.set_cons_succ, List.set_cons_zero] at h0
  have h1 := setCell_block (i := 21) h0 u1
  simp only [Array.set!, List.setIfInBounds_toArray, List.set_cons_succ, List.set_cons_zero] at h1
  have h2 := setCell_block (i := 22) h1 u2
  simp only [Array.set!, List.setIfInBounds_toArray, List.set_cons_succ, List.set_cons_zero] at h2
  have h3 := setCell_block (i := 23) h2 u3
  simp only [Array.set!, List.setIfInBounds_toArray, List.set_cons_succ, List.set_cons_zero] at h3
  exact h3
theorem zeroDg_num : DgNum zeroDg := ⟨by decide, by decide⟩
theorem zeroM_num : MsgNum zeroM := ⟨by decide, by decide, by decide⟩
end Go.Proofs.YtheknmihnkennaaGreat

/-
  Maps of function values by a Proto, as package packet's payloads and readings make them: how the run puts in and looks up; the contract of payloads.
-/
namespace Go.Proofs.YtheknmihnkennaaGreat
set_option maxRecDepth 10000
open Go.RowKit
set_option linter.unusedSimpArgs false
set_option linter.unusedVariables false

end Go.Proofs.YtheknmihnkennaaGreat

/-
  Package packet's payloads: a map of closures that tell a Proto's part as bytes; what each tells.
-/
namespace Go.Proofs.YtheknmihnkennaaGreat
set_option maxRecDepth 10000
open Go.RowKit
set_option linter.unusedSimpArgs false
set_option linter.unusedVariables false

def payF6 (q r b : Nat) : Value := .func (.func 60) #[] #[.pointer (some ⟨q, 0, none⟩), .pointer (some ⟨r, 0, none⟩), .pointer (some ⟨b, 0, none⟩)]
def payF17 (q r b : Nat) : Value := .func (.func 62) #[] #[.pointer (some ⟨q, 0, none⟩), .pointer (some ⟨r, 0, none⟩), .pointer (some ⟨b, 0, none⟩)]
def payF1 (b : Nat) : Value := .func (.func 64) #[] #[.pointer (some ⟨b, 0, none⟩)]
/-- Where payloads' closures find what they took. -/
structure PayAt (p : Pk) (a : PkA) (q r b B : Nat) (w : World) : Prop where
  src : Box w q 24 (.int .u32 p.h.sr)
  dst : Box w r 24 (.int .u32 p.h.ds)
  pkt : w.heap[b]? = some (.cells #[.int .u8 p.h.to, .int .u16 p.h.id, .bool p.h.df, .int .u8 p.h.tt, .int .u8 p.h.pr, .int .u32 p.h.sr, .int .u32 p.h.ds, .slice a.AH a.nH a.cH, .int .u16 p.s.sp, .int .u16 p.s.dp, .int .u32 p.s.sq, .int .u32 p.s.ak, .int .u8 p.s.fl, .int .u16 p.s.wn, .int .u16 p.s.ug, .slice a.AO a.nO a.cO, .slice a.AD a.nD a.cD, .int .u16 p.u.sp, .int .u16 p.u.dp, .slice a.AU a.nU a.cU, .int .u8 p.m.ty, .int .u8 p.m.cd, .int .u32 p.m.rs, .slice a.AM a.nM a.cM] 35 (0, 0))
  at_ : B ≤ q ∧ B ≤ r ∧ B ≤ b
theorem PayAt.on {p : Pk} {a : PkA} {q r b B : Nat} {w w' : World} (h : PayAt p a q r b B w) (hb : Below w.heap.size w w') : PayAt p a q r b B w' :=
  ⟨blk_on h.src hb, blk_on h.dst hb, blk_on h.pkt hb, h.at_⟩
def PayIs (p : Pk) (a : PkA) (w : World) (e : Ending) (w' : World) : Prop :=
  ∃ g q r b, e = .returned (.map (some g)) ∧ w'.heap[g]? = some (threeO (payF6 q r b) (payF17 q r b) (payF1 b)) ∧ PayAt p a q r b w.heap.size w' ∧ Below w.heap.size w w'
theorem box_two (w : World) (v u : Value) (t : TypeId) : Box ((w.alloc (.cells #[v] t)).alloc (.cells #[u] t)).drew w.heap.size t v ∧ Box ((w.alloc (.cells #[v] t)).alloc (.cells #[u] t)).drew (w.heap.size + 1) t u ∧
    Below w.heap.size w ((w.alloc (.cells #[v] t)).alloc (.cells #[u] t)).drew := by
  refine ⟨?_, ?_, Below.drew (((Below.refl _ _).alloc (Nat.le_refl _) _).alloc (by simp) _)⟩
  · exact (Below.heap_alloc _ _ _ (by simp)).trans (heap_alloc_new w _)
  · have := heap_alloc_new (w.alloc (.cells #[v] t)) (.cells #[u] t)
    rw [show (w.alloc (.cells #[v] t)).heap.size = w.heap.size + 1 by simp] at this
    exact this
set_option maxHeartbeats 2000000 in
theorem payloads_any (p : Pk) (a : PkA) (w : World) :
    Calls Tryz.prog 29 #[.agg #[.int .u8 p.h.to, .int .u16 p.h.id, .bool p.h.df, .int .u8 p.h.tt, .int .u8 p.h.pr, .int .u32 p.h.sr, .int .u32 p.h.ds, .slice a.AH a.nH a.cH, .int .u16 p.s.sp, .int .u16 p.s.dp, .int .u32 p.s.sq, .int .u32 p.s.ak, .int .u8 p.s.fl, .int .u16 p.s.wn, .int .u16 p.s.ug, .slice a.AO a.nO a.cO, .slice a.AD a.nD a.cD, .int .u16 p.u.sp, .int .u16 p.u.dp, .slice a.AU a.nU a.cU, .int .u8 p.m.ty, .int .u8 p.m.cd, .int .u32 p.m.rs, .slice a.AM a.nM a.cM]] w (PayIs p a w) := by
  have hmf : ∀ (fn : Fn) (first cap : Array Value) (w : World), (Instr.makeFunc fn first cap).run Tryz.prog w = .ok (.func fn first cap) w := fun _ _ _ _ => rfl
  obtain ⟨z, hz⟩ : ∃ z, w.heap.size = z := ⟨_, rfl⟩
  obtain ⟨w0, ew⟩ : ∃ w0, w.alloc (.cells #[.int .u8 p.h.to, .int .u16 p.h.id, .bool p.h.df, .int .u8 p.h.tt, .int .u8 p.h.pr, .int .u32 p.h.sr, .int .u32 p.h.ds, .slice a.AH a.nH a.cH, .int .u16 p.s.sp, .int .u16 p.s.dp, .int .u32 p.s.sq, .int .u32 p.s.ak, .int .u8 p.s.fl, .int .u16 p.s.wn, .int .u16 p.s.ug, .slice a.AO a.nO a.cO, .slice a.AD a.nD a.cD, .int .u16 p.u.sp, .int .u16 p.u.dp, .slice a.AU a.nU a.cU, .int .u8 p.m.ty, .int .u8 p.m.cd, .int .u32 p.m.rs, .slice a.AM a.nM a.cM] 35) = w0 := ⟨_, rfl⟩
  have hb0 : Below w.heap.size w w0 := by rw [← ew]; exact (Below.refl _ _).alloc (Nat.le_refl _) _
  have hk0 : w0.heap[z]? = some (.cells #[.int .u8 p.h.to, .int .u16 p.h.id, .bool p.h.df, .int .u8 p.h.tt, .int .u8 p.h.pr, .int .u32 p.h.sr, .int .u32 p.h.ds, .slice a.AH a.nH a.cH, .int .u16 p.s.sp, .int .u16 p.s.dp, .int .u32 p.s.sq, .int .u32 p.s.ak, .int .u8 p.s.fl, .int .u16 p.s.wn, .int .u16 p.s.ug, .slice a.AO a.nO a.cO, .slice a.AD a.nD a.cD, .int .u16 p.u.sp, .int .u16 p.u.dp, .slice a.AU a.nU a.cU, .int .u8 p.m.ty, .int .u8 p.m.cd, .int .u32 p.m.rs, .slice a.AM a.nM a.cM] 35 (0, 0)) := by rw [← ew, ← hz]; exact heap_alloc_new w _
  have Hb0 := Lib.hid hb0
  have Ew := Lib.hid ew
  have Hz := Lib.hid hz
  have HK0 := Lib.hid hk0
  clear hz ew hb0 hk0
  go_enter Tryz.func29, Tryz.ntmps29
  go_upto_region 1 with (fail)
  rw [Ew.out]
  try rw [Hz.out]
  go_cut [3, 4] (fun s3 s4 wx => ∃ (q r : Nat), s3 = .pointer (some ⟨q, 0, none⟩) ∧ s4 = .pointer (some ⟨r, 0, none⟩) ∧ Hid (PayAt p a q r z w.heap.size wx) ∧ Hid (Below w.heap.size w wx))
  case first =>
    obtain ⟨k0, k1, k2, k3, k4, k5, k6, k7, k8, k9, k10, k11, k12, k13, k14, k15, k16, k17, k18, k19, k20, k21, k22, k23⟩ := cells24 HK0.out
    have HS := Lib.hid (show ∀ w', Below w0.heap.size w0 w' → w'.cell? ⟨z, 5, none⟩ = some (.int .u32 p.h.sr) ∧ w'.cell? ⟨z, 6, none⟩ = some (.int .u32 p.h.ds) from
      fun w' hb => ⟨by rw [blk_cell (blk_on HK0.out hb)]; rfl, by rw [blk_cell (blk_on HK0.out hb)]; rfl⟩)
    clear k0 k1 k2 k3 k4 k5 k6 k7 k8 k9 k10 k11 k12 k13 k14 k15 k16 k17 k18 k19 k20 k21 k22 k23
    go_region_held3 (fun w' => w'.cell? ⟨z, 5, none⟩ = some (.int .u32 p.h.sr) ∧ w'.cell? ⟨z, 6, none⟩ = some (.int .u32 p.h.ds)) (exact HS.out _ (by repeat (first | exact Below.refl _ _ | refine Below.drew ?_ | (refine Below.alloc ?_ (by simp) _) | (refine Below.setCell ?_ (by simp) _)))) (fail)
    · go_wp2_with fail
      obtain ⟨h1, h2, h3⟩ := box_two w0 (.int .u32 p.h.sr) (.int .u32 p.h.ds) 24
      have hs := below_trans Hb0.out h3
      have hsz := Hb0.out.size
      have hz := Hz.out
      go_meet
      exact ⟨_, _, rfl, rfl, Lib.hid ⟨h1, h2, blk_on HK0.out h3, ⟨by omega, by omega, by omega⟩⟩, Lib.hid hs⟩
    · go_wp2_with fail
      obtain ⟨h1, h2, h3⟩ := box_two w0 (.int .u32 p.h.ds) (.int .u32 p.h.sr) 24
      have hs := below_trans Hb0.out h3
      have hsz := Hb0.out.size
      have hz := Hz.out
      go_meet
      exact ⟨_, _, rfl, rfl, Lib.hid ⟨h2, h1, blk_on HK0.out h3, ⟨by omega, by omega, by omega⟩⟩, Lib.hid hs⟩
  case rest =>
    obtain ⟨q, r, rfl, rfl, HP, HB⟩ := hcut
    clear HK0 Hb0 Ew
    obtain ⟨w2, e2⟩ : ∃ v, wc.alloc (.map #[] 0) = v := ⟨_, rfl⟩
    have k2 : w2.heap[wc.heap.size]? = some (.map #[] 0) := by rw [← e2]; exact heap_alloc_new wc _
    have b2 : Below wc.heap.size wc w2 := by rw [← e2]; exact (Below.refl _ _).alloc (Nat.le_refl _) _
    obtain ⟨w3, w4, w5, r1, r2, r3, hg, hb⟩ := runs_payload (payF6 q r z) (payF17 q r z) (payF1 z) b2 (Nat.le_refl _) k2
    have hmk := run_makeMap_plain (P := Tryz.prog) wc 83
    rw [e2] at hmk
    have Hg := Lib.hid hg
    have Hb := Lib.hid hb
    clear k2 b2 hg hb e2
    unfold payF6 at r1
    unfold payF17 at r2
    unfold payF1 at r3
    go_wp2_with fail
    go_ret
    exact ⟨_, q, r, z, rfl, Hg.out, HP.out.on Hb.out, HB.out.trans (Hb.out.mono HB.out.size)⟩

set_option maxHeartbeats 2000000 in
theorem pay_6 (p : Pk) (a : PkA) (q r b B : Nat) (w : World) (L : List Int) (m : Nat) (x : Int) (hp : PkRd w p a) (hn : a.nO ≤ 2000000) (hnD : a.nD ≤ 140737488355328) (h : PayAt p a q r b B w) (hx : errS p.s = x) (hL : toldB p.h.sr p.h.ds p.s = L) (hlm : L.length = m) :
    Calls Tryz.prog 60 #[.pointer (some ⟨q, 0, none⟩), .pointer (some ⟨r, 0, none⟩), .pointer (some ⟨b, 0, none⟩)] w (PutGot L m x w) := by
  have HC := Lib.hid (put6_got p.h.sr p.h.ds p.s a.AO a.nO a.cO a.os a.AD a.nD a.cD w L m x (by omega) hnD hp.sr hx hL hlm)
  have H1 := Lib.hid h.pkt
  have c1 := h.src.cell
  have c2 := h.dst.cell
  clear hp hx hL h
  obtain ⟨k0, k1, k2, k3, k4, k5, k6, k7, k8, k9, k10, k11, k12, k13, k14, k15, k16, k17, k18, k19, k20, k21, k22, k23⟩ := cells24 H1.out
  go_enter Tryz.func60, Tryz.ntmps60
  go_wp2_with fail
  refine HC.out.mono ?_
  rintro e w2 ⟨A2, c2, rfl, hc2, hr2, hb2⟩
  have HR := Lib.hid hr2
  have HC2 := Lib.hid hc2
  have HB := Lib.hid hb2
  clear hr2 hc2 hb2
  clear k0 k1 k2 k3 k4 k5 k6 k7 k8 k9 k10 k11 k12 k13 k14 k15 k16 k17 k18 k19 k20 k21 k22 k23
  clear c1 
  go_wp2_with fail
  go_ret2
  exact ⟨A2, c2, rfl, HC2.out, HR.out, HB.out⟩
set_option maxHeartbeats 2000000 in
theorem pay_17 (p : Pk) (a : PkA) (q r b B : Nat) (w : World) (L : List Int) (m : Nat) (x : Int) (hp : PkRd w p a) (hn : a.nO ≤ 2000000) (hnD : a.nD ≤ 140737488355328) (h : PayAt p a q r b B w) (hx : errUP p.u = x) (hL : toldU p.h.sr p.h.ds p.u = L) (hlm : L.length = m) :
    Calls Tryz.prog 62 #[.pointer (some ⟨q, 0, none⟩), .pointer (some ⟨r, 0, none⟩), .pointer (some ⟨b, 0, none⟩)] w (PutGot L m x w) := by
  have HC := Lib.hid (put7_got p.h.sr p.h.ds p.u a.AU a.nU a.cU w L m x hp.un hp.uc hp.ur hx hL hlm)
  have H1 := Lib.hid h.pkt
  have c1 := h.src.cell
  have c2 := h.dst.cell
  clear hp hx hL h
  obtain ⟨k0, k1, k2, k3, k4, k5, k6, k7, k8, k9, k10, k11, k12, k13, k14, k15, k16, k17, k18, k19, k20, k21, k22, k23⟩ := cells24 H1.out
  go_enter Tryz.func62, Tryz.ntmps62
  go_wp2_with fail
  refine HC.out.mono ?_
  rintro e w2 ⟨A2, c2, rfl, hc2, hr2, hb2⟩
  have HR := Lib.hid hr2
  have HC2 := Lib.hid hc2
  have HB := Lib.hid hb2
  clear hr2 hc2 hb2
  clear k0 k1 k2 k3 k4 k5 k6 k7 k8 k9 k10 k11 k12 k13 k14 k15 k16 k17 k18 k19 k20 k21 k22 k23
  clear c1 
  go_wp2_with fail
  go_ret2
  exact ⟨A2, c2, rfl, HC2.out, HR.out, HB.out⟩
set_option maxHeartbeats 2000000 in
theorem pay_1 (p : Pk) (a : PkA) (q r b B : Nat) (w : World) (L : List Int) (m : Nat) (x : Int) (hp : PkRd w p a) (hn : a.nO ≤ 2000000) (hnD : a.nD ≤ 140737488355328) (h : PayAt p a q r b B w) (hx : errP p.m = x) (hL : toldM p.m = L) (hlm : L.length = m) :
    Calls Tryz.prog 64 #[.pointer (some ⟨b, 0, none⟩)] w (PutGot L m x w) := by
  have HC := Lib.hid (put8_got p.m a.AM a.nM a.cM w L m x hp.mn hp.mc hp.mr hx hL hlm)
  have H1 := Lib.hid h.pkt
  have c1 := h.src.cell
  have c2 := h.dst.cell
  clear hp hx hL h
  obtain ⟨k0, k1, k2, k3, k4, k5, k6, k7, k8, k9, k10, k11, k12, k13, k14, k15, k16, k17, k18, k19, k20, k21, k22, k23⟩ := cells24 H1.out
  go_enter Tryz.func64, Tryz.ntmps64
  go_wp2_with fail
  refine HC.out.mono ?_
  rintro e w2 ⟨A2, c2, rfl, hc2, hr2, hb2⟩
  have HR := Lib.hid hr2
  have HC2 := Lib.hid hc2
  have HB := Lib.hid hb2
  clear hr2 hc2 hb2
  clear k0 k1 k2 k3 k4 k5 k6 k7 k8 k9 k10 k11 k12 k13 k14 k15 k16 k17 k18 k19 k20 k21 k22 k23
  clear c1 
  go_wp2_with fail
  go_ret2
  exact ⟨A2, c2, rfl, HC2.out, HR.out, HB.out⟩
end Go.Proofs.YtheknmihnkennaaGreat
