/-
  Law 17's 'may': what may be said.
-/
import Derived.Test.YtgcliijngaohdaaDoorCkFace
namespace Go.Proofs.YtgcliijngaohdaaDoor
set_option maxRecDepth 10000
open Go.RowKit
set_option linter.unusedSimpArgs false
set_option linter.unusedVariables false

theorem results_rowC {P : Program} {fn : Func} {p : Tmp} {ty : TypeId} (h : fn.results = #[.cell p ty]) (tmps : Array Value) (w : World) (g : Nat) (t : TypeId) (cs : Array Value) (fr : Nat × Nat) (d : TypeDesc)
    (hp : tmps.getD p undef = .pointer (some ⟨g, 0, none⟩)) (hg : w.heap[g]? = some (.cells cs t fr))
    (hu : P.underlying ty = some d) (hd : (match d with | .struct _ | .array _ _ => true | _ => false) = true) (hi : (P.info? ty).map (·.size) = some cs.size) :
    (results fn tmps).run P w = .ok (.agg cs) w := by
  have hp' : tmps[p]?.getD undef = .pointer (some ⟨g, 0, none⟩) := by simpa using hp
  simp [results, h, hp', asAddr, run_loadVar_row w g t ty cs fr d hg hu hd hi]
set_option maxHeartbeats 2000000 in
theorem may17_any (c : Int) (k : Bool) (s c2 s2 : Int) (w : World) (hc : c % 8 = c2) (hs : s % 16 - 1 = s2) :
    Calls Tryd.prog 20 #[.agg #[.int .i64 c, .bool k, .int .i64 s]] w (TellsC (.agg #[.int .i64 c2, .bool k, .int .i64 s2]) w) := by
  obtain ⟨z, hz⟩ : ∃ z, w.heap.size = z := ⟨_, rfl⟩
  obtain ⟨w0, ew⟩ : ∃ v, (w.alloc (.cells #[.int .i64 c, .bool k, .int .i64 s] 30)).alloc (.cells #[.int .i64 0, .bool false, .int .i64 0] 30) = v := ⟨_, rfl⟩
  have hb0 : Below w.heap.size w w0 := by rw [← ew]; exact ((Below.refl _ _).alloc (Nat.le_refl _) _).alloc (by simp) _
  have hk0 : w0.heap[z]? = some (.cells #[.int .i64 c, .bool k, .int .i64 s] 30 (0, 0)) := by rw [← ew, Below.heap_alloc _ _ _ (by simp [hz]), ← hz]; exact heap_alloc_new w _
  have hk1 : w0.heap[z + 1]? = some (.cells #[.int .i64 0, .bool false, .int .i64 0] 30 (0, 0)) := by rw [← ew, ← hz]; simpa using heap_alloc_new (w.alloc (.cells #[.int .i64 c, .bool k, .int .i64 s] 30)) (.cells #[.int .i64 0, .bool false, .int .i64 0] 30)
  obtain ⟨cu, ecu⟩ : ∃ x, IntKind.u64.wrap c = x := ⟨_, rfl⟩
  obtain ⟨su, esu⟩ : ∃ x, IntKind.u64.wrap s = x := ⟨_, rfl⟩
  obtain ⟨sm, esm⟩ : ∃ x, s % 16 = x := ⟨_, rfl⟩
  have bc := ecu
  have bs := esu
  rw [IntKind.wrap_u64] at bc bs
  have q1 : Int.tmod cu 8 = c2 := by rw [Int.tmod_eq_emod_of_nonneg (by omega)]; omega
  have q2 : IntKind.u64.wrap c2 = c2 := by rw [IntKind.wrap_u64]; omega
  have q3 : wrap64 c2 = c2 := IntWalk.wrap64_in _ (by omega)
  have q4 : Int.tmod su 16 = sm := by rw [Int.tmod_eq_emod_of_nonneg (by omega)]; omega
  have q5 : IntKind.u64.wrap sm = sm := by rw [IntKind.wrap_u64]; omega
  have q6 : wrap64 sm = sm := IntWalk.wrap64_in _ (by omega)
  have q7 : wrap64 (sm - 1) = s2 := by rw [show sm - 1 = s2 by omega]; exact IntWalk.wrap64_in _ (by omega)
  have Ew := Lib.hid ew
  have Hz := Lib.hid hz
  have HB := Lib.hid hb0
  have H0 := Lib.hid hk0
  have H1 := Lib.hid hk1
  clear ew hz hb0 hk0 hk1 bc bs hc hs esm
  go_enter Tryd.func20, Tryd.ntmps20
  go_upto_region 1 with (fail)
  rw [Ew.out]
  try rw [Hz.out]
  obtain ⟨a0, a1, a2⟩ := cells3C H0.out
  have fz := fun i => blk_free H0.out i
  go_upto_region 2 with (fail)
  obtain ⟨w1, ev⟩ : ∃ v, w0.setCell ⟨z, 0, none⟩ (.int .i64 c2) = v := ⟨_, rfl⟩
  have h0 : w1.heap[z]? = some (.cells #[.int .i64 c2, .bool k, .int .i64 s] 30 (0, 0)) := by rw [← ev]; simp [World.setCell, Array.getElem?_modify, H0.out]
  have h1 : w1.heap[z + 1]? = some (.cells #[.int .i64 0, .bool false, .int .i64 0] 30 (0, 0)) := by rw [← ev]; exact ((But.refl (fun g => g = z) w0).setCell (p := ⟨z, 0, none⟩) rfl (.int .i64 c2)).blk H1.out (fun e => by omega)
  have hb : Below w.heap.size w w1 := by rw [← ev]; exact HB.out.setCell (p := ⟨z, 0, none⟩) (by have := Hz.out; simp only; omega) (.int .i64 c2)
  try rw [ev]
  have H0 := Lib.hid h0
  have H1 := Lib.hid h1
  have HB := Lib.hid hb
  clear ev h0 h1 hb a0 a1 a2 fz
  obtain ⟨a0, a1, a2⟩ := cells3C H0.out
  have fz := fun i => blk_free H0.out i
  go_upto_region 3 with (fail)
  obtain ⟨w2, ev⟩ : ∃ v, w1.setCell ⟨z, 2, none⟩ (.int .i64 s2) = v := ⟨_, rfl⟩
  have h0 : w2.heap[z]? = some (.cells #[.int .i64 c2, .bool k, .int .i64 s2] 30 (0, 0)) := by rw [← ev]; simp [World.setCell, Array.getElem?_modify, H0.out]
  have h1 : w2.heap[z + 1]? = some (.cells #[.int .i64 0, .bool false, .int .i64 0] 30 (0, 0)) := by rw [← ev]; exact ((But.refl (fun g => g = z) w1).setCell (p := ⟨z, 2, none⟩) rfl (.int .i64 s2)).blk H1.out (fun e => by omega)
  have hb : Below w.heap.size w w2 := by rw [← ev]; exact HB.out.setCell (p := ⟨z, 2, none⟩) (by have := Hz.out; simp only; omega) (.int .i64 s2)
  try rw [ev]
  have H0 := Lib.hid h0
  have H1 := Lib.hid h1
  have HB := Lib.hid hb
  clear ev h0 h1 hb a0 a1 a2 fz
  obtain ⟨a0, a1, a2⟩ := cells3C H0.out
  obtain ⟨b0, b1, b2⟩ := cells3C H1.out
  have fy := fun i => blk_free H1.out i
  go_wp2_with fail
  exact bodyPost_ret (v := .agg #[.int .i64 c2, .bool k, .int .i64 s2]) (results_rowC rfl _ _ (z + 1) _ _ _ _ rfl (set3C H1.out _ _ _) Tryd.underlying30 rfl (by kernel_rfl)) rfl ⟨rfl, set3C_below HB.out (by have := Hz.out; omega) _ _ _⟩
end Go.Proofs.YtgcliijngaohdaaDoor
