/-
  Calls of no buffer of the program's, or of one that New did not make.
-/
import Derived.Test.YtncbkgcblmohoaaRxMem
import Derived.Test.YtncbkgcblmohoaaRxMany
namespace Go.Proofs.Ytncbkgcblmohoaa
set_option maxRecDepth 10000
open Go.RowKit
set_option linter.unusedSimpArgs false
set_option linter.unusedVariables false

/-- Whatever is laid meanwhile: none of New's. -/
def NoX (pa : Option Addr) (w : World) : Prop := ∀ W, Below w.heap.size w W → Calls Try.prog 40 #[.pointer pa] W (JustB (.bool true) W)
theorem NoX.nil (w : World) : NoX none w := fun W _ => xnone_nil W
theorem NoX.zero {w : World} {z : Nat} {C : Array Value} {T : TypeId} {fr : Nat × Nat} (h : w.heap[z]? = some (.cells C T fr)) (h0 : C[0]? = some (.pointer none)) : NoX (some ⟨z, 0, none⟩) w := fun W hW => xnone_zero z W (by rw [blk_cell (blk_on h hW)]; exact h0)
theorem results_rowN {P : Program} {fn : Func} {p q r : Tmp} {ty : TypeId} (h : fn.results = #[.cell p ty, .tmp q, .tmp r]) (tmps : Array Value) (w : World) (g : Nat) (t : TypeId) (cs : Array Value) (fr : Nat × Nat) (d : TypeDesc) (v u : Value)
    (hp : tmps.getD p undef = .pointer (some ⟨g, 0, none⟩)) (hv : tmps.getD q undef = v) (hu' : tmps.getD r undef = u) (hg : w.heap[g]? = some (.cells cs t fr))
    (hu : P.underlying ty = some d) (hd : (match d with | .struct _ | .array _ _ => true | _ => false) = true) (hi : (P.info? ty).map (·.size) = some cs.size) :
    (results fn tmps).run P w = .ok (.tuple #[.agg cs, v, u]) w := by
  have hp' : tmps[p]?.getD undef = .pointer (some ⟨g, 0, none⟩) := by simpa using hp
  have hv' : tmps[q]?.getD undef = v := by simpa using hv
  have hu'' : tmps[r]?.getD undef = u := by simpa using hu'
  simp [results, h, hp', hv', hu'', asAddr, run_loadVar_row w g t ty cs fr d hg hu hd hi]
section
variable {pa : Option Addr} {w : World} (h : NoX pa w)
include h
theorem xwrite_none (s : Value) (now : Int) : Calls Try.prog 12 #[.pointer pa, s, .int .u64 now] w (JustB (.int .i64 2) w) := by
  have H := Lib.hid (h w (Below.refl _ _))
  clear h
  go_enter Try.func12, Try.ntmps12
  go_wp2_with (go_at_call 40; refine H.out.mono ?_; rintro e w' ⟨rfl, rfl⟩)
  go_ret
  exact ⟨rfl, rfl⟩
theorem xack_none (a b now : Int) : Calls Try.prog 20 #[.pointer pa, .int .u32 a, .int .u32 b, .int .u64 now] w (JustB (.tuple #[.int .i64 0, .int .i64 2]) w) := by
  have H := Lib.hid (h w (Below.refl _ _))
  clear h
  go_enter Try.func20, Try.ntmps20
  go_wp2_with (go_at_call 40; refine H.out.mono ?_; rintro e w' ⟨rfl, rfl⟩)
  go_ret2
  exact ⟨rfl, rfl⟩
theorem xalarm_none : Calls Try.prog 25 #[.pointer pa] w (JustB (.tuple #[.int .u64 0, .bool false]) w) := by
  have H := Lib.hid (h w (Below.refl _ _))
  clear h
  go_enter Try.func25, Try.ntmps25
  go_wp2_with (go_at_call 40; refine H.out.mono ?_; rintro e w' ⟨rfl, rfl⟩)
  go_ret2
  exact ⟨rfl, rfl⟩
theorem xuna_none : Calls Try.prog 26 #[.pointer pa] w (JustB (.int .u32 0) w) := by
  have H := Lib.hid (h w (Below.refl _ _))
  clear h
  go_enter Try.func26, Try.ntmps26
  go_wp2_with (go_at_call 40; refine H.out.mono ?_; rintro e w' ⟨rfl, rfl⟩)
  go_ret
  exact ⟨rfl, rfl⟩
theorem xnxt_none : Calls Try.prog 27 #[.pointer pa] w (JustB (.int .u32 0) w) := by
  have H := Lib.hid (h w (Below.refl _ _))
  clear h
  go_enter Try.func27, Try.ntmps27
  go_wp2_with (go_at_call 40; refine H.out.mono ?_; rintro e w' ⟨rfl, rfl⟩)
  go_ret
  exact ⟨rfl, rfl⟩
theorem xend_none : Calls Try.prog 13 #[.pointer pa] w (JustB (.int .u32 0) w) := by
  have H := Lib.hid (h w (Below.refl _ _))
  clear h
  go_enter Try.func13, Try.ntmps13
  go_wp2_with (go_at_call 40; refine H.out.mono ?_; rintro e w' ⟨rfl, rfl⟩)
  go_ret
  exact ⟨rfl, rfl⟩
theorem xwin_none : Calls Try.prog 30 #[.pointer pa] w (JustB (.int .u32 0) w) := by
  have H := Lib.hid (h w (Below.refl _ _))
  clear h
  go_enter Try.func30, Try.ntmps30
  go_wp2_with (go_at_call 40; refine H.out.mono ?_; rintro e w' ⟨rfl, rfl⟩)
  go_ret
  exact ⟨rfl, rfl⟩
theorem xcopy_none : Calls Try.prog 24 #[.pointer pa] w (JustB (.pointer none) w) := by
  have H := Lib.hid (h w (Below.refl _ _))
  clear h
  go_enter Try.func24, Try.ntmps24
  go_wp2_with (go_at_call 40; refine H.out.mono ?_; rintro e w' ⟨rfl, rfl⟩)
  go_ret
  exact ⟨rfl, rfl⟩
theorem xtick_none (m now : Int) : Calls Try.prog 22 #[.pointer pa, .int .i64 m, .int .u64 now] w (fun e w' => e = .returned (.tuple #[.agg #[.int .u32 0, .slice none 0 0], .bool false, .int .i64 2]) ∧ Below w.heap.size w w') := by
  obtain ⟨z, ez⟩ : ∃ z, w.heap.size = z := ⟨_, rfl⟩
  obtain ⟨w1, ew1⟩ : ∃ v, w.alloc (.cells #[.int .u32 0, .slice none 0 0] 54) = v := ⟨_, rfl⟩
  have hB1 : Below w.heap.size w w1 := by rw [← ew1]; exact (Below.refl _ _).alloc (Nat.le_refl _) _
  have hZ1 : w1.heap[z]? = some (.cells #[.int .u32 0, .slice none 0 0] 54 (0, 0)) := by rw [← ew1, ← ez]; exact heap_alloc_new w _
  have z0 : w1.cell? ⟨z, 0, none⟩ = some (.int .u32 0) := by rw [blk_cell hZ1]; rfl
  have z1 : w1.cell? ⟨z, 1, none⟩ = some (.slice none 0 0) := by rw [blk_cell hZ1]; rfl
  have zf0 := blk_free hZ1 0
  have zf1 := blk_free hZ1 1
  have H := Lib.hid (h w1 hB1)
  have HB1 := Lib.hid hB1
  have HZ1 := Lib.hid hZ1
  have Ew1 := Lib.hid ew1
  clear h hB1 hZ1 ew1
  go_enter Try.func22, Try.ntmps22
  go_upto_region 1 with (fail)
  rw [Ew1.out]
  go_wp2_with (go_at_call 40; refine H.out.mono ?_; rintro e w' ⟨rfl, rfl⟩)
  have hb2 : Below w.heap.size w ((w1.setCell ⟨z, 0, none⟩ (.int .u32 0)).setCell ⟨z, 1, none⟩ (.slice none 0 0)) := (HB1.out.setCell (by simp; omega) _).setCell (by simp; omega) _
  have hz2 : ((w1.setCell ⟨z, 0, none⟩ (.int .u32 0)).setCell ⟨z, 1, none⟩ (.slice none 0 0)).heap[z]? = some (.cells #[.int .u32 0, .slice none 0 0] 54 (0, 0)) := by
    have := HZ1.out
    simp [World.setCell, Array.getElem?_modify, this]
  exact bodyPost_ret (v := .tuple #[.agg #[.int .u32 0, .slice none 0 0], .bool false, .int .i64 2]) (results_rowN rfl _ _ z _ _ _ _ (.bool false) (.int .i64 2) rfl rfl rfl hz2 Try.underlying54 rfl (by kernel_rfl)) rfl ⟨rfl, hb2⟩
end
end Go.Proofs.Ytncbkgcblmohoaa
