/-
  A wheel of the program's in memory ('WMem'), and the contracts of none and place.
-/
import Derived.Test.YtlpgabbnldalhaaAlmFind
import Derived.Test.YtlpgabbnldalhaaMapU
import Derived.Test.YtlpgabbnldalhaaWhFace
import Derived.LaidEqlPtr
namespace Go.Proofs.Ytlpgabbnldalhaa
set_option maxRecDepth 10000
open Go.RowKit
set_option linter.unusedSimpArgs false
set_option linter.unusedVariables false

/-- The wheel in block g: its cells C, its map's block m, its lists hs, and what they hold. -/
structure WMem (w : World) (S : Nat → Prop) (g m : Nat) (C : Array Value) (hs : Nat → Value) (ck : Int) (sl : Nat → AL) (K : Int → Prop) (R : Int → Value) : Prop where
  box : w.heap[g]? = some (.cells C 60 (0, 0))
  size : C.size = 67
  c0 : C[0]? = some (.pointer (some ⟨g, 0, none⟩))
  c1 : C[1]? = some (.int .u64 ck)
  c2 : C[2]? = some (.map (some m))
  cs : ∀ j, j < 64 → C[3 + j]? = some (hs j)
  map : MUP w m K R
  row : ∀ j, j < 64 → SlV w 65 2 (hs j) (sl j).length (flatA (sl j))
  apart : ∀ i j b, i < 64 → j < 64 → (hs i).ownBlock = some b → (hs j).ownBlock = some b → i = j
  sg : S g
  sm : S m
  sr : ∀ j b, j < 64 → (hs j).ownBlock = some b → S b
  lt : ∀ k, S k → k < w.heap.size
section
variable {w w' : World} {S T : Nat → Prop} {g m : Nat} {C : Array Value} {hs : Nat → Value} {ck : Int} {sl : Nat → AL} {K : Int → Prop} {R : Int → Value}
theorem WMem.but (h : WMem w S g m C hs ck sl K R) (hb : But T w w') (hT : ∀ k, S k → ¬ T k) : WMem w' S g m C hs ck sl K R :=
  ⟨hb.blk h.box (hT _ h.sg), h.size, h.c0, h.c1, h.c2, h.cs, h.map.but hb (hT _ h.sm), fun j hj => (h.row j hj).but hb (fun b e => hT _ (h.sr j b hj e)), h.apart, h.sg, h.sm, h.sr, fun k hk => hb.lt (h.lt k hk)⟩
theorem WMem.below (h : WMem w S g m C hs ck sl K R) (hb : Below w.heap.size w w') : WMem w' S g m C hs ck sl K R := h.but (But.of (S := fun _ => False) hb) (fun _ _ h => h)
theorem WMem.drewN (h : WMem w S g m C hs ck sl K R) (n : Nat) : WMem (w.drewN n) S g m C hs ck sl K R := h.but (T := fun _ => False) ((But.refl _ _).drewN n) (fun _ _ h => h)
theorem WMem.cell (h : WMem w S g m C hs ck sl K R) (i : Nat) : w.cell? ⟨g, i, none⟩ = C[i]? := blk_cell h.box i
theorem WMem.k0 (h : WMem w S g m C hs ck sl K R) : w.cell? ⟨g, 0, none⟩ = some (.pointer (some ⟨g, 0, none⟩)) := (h.cell 0).trans h.c0
theorem WMem.k1 (h : WMem w S g m C hs ck sl K R) : w.cell? ⟨g, 1, none⟩ = some (.int .u64 ck) := (h.cell 1).trans h.c1
theorem WMem.k2 (h : WMem w S g m C hs ck sl K R) : w.cell? ⟨g, 2, none⟩ = some (.map (some m)) := (h.cell 2).trans h.c2
theorem WMem.kj (h : WMem w S g m C hs ck sl K R) {j : Nat} (hj : j < 64) : w.cell? ⟨g, 3 + j, none⟩ = some (hs j) := (h.cell (3 + j)).trans (h.cs j hj)
theorem WMem.free (h : WMem w S g m C hs ck sl K R) (i : Nat) : w.frozen? ⟨g, i, none⟩ = false := blk_free h.box i
theorem WMem.gm (h : WMem w S g m C hs ck sl K R) : g ≠ m := by
  rintro rfl
  obtain ⟨es, clock, hm⟩ := h.map
  have := h.box.symm.trans hm.at_
  cases this
theorem SlV.blk {w : World} {T : TypeId} {sz : Nat} {v : Value} {n : Nat} {vs : List Value} (h : SlV w T sz v n vs) {b : Nat} (hb : v.ownBlock = some b) : ∃ C, w.heap[b]? = some (.cells C T (0, 0)) := by
  rcases h with ⟨rfl, _⟩ | ⟨g', o, c, rfl, C, h, _⟩
  · cases hb
  · injection hb with e
    subst e
    exact ⟨C, h⟩
theorem WMem.gr (h : WMem w S g m C hs ck sl K R) {j b : Nat} (hj : j < 64) (hb : (hs j).ownBlock = some b) : g ≠ b := by
  rintro rfl
  obtain ⟨C', hC⟩ := (h.row j hj).blk hb
  have := h.box.symm.trans hC
  injection this with e
  injection e with _ e
  revert e
  decide
theorem WMem.mr (h : WMem w S g m C hs ck sl K R) {j b : Nat} (hj : j < 64) (hb : (hs j).ownBlock = some b) : m ≠ b := by
  rintro rfl
  obtain ⟨C', hC⟩ := (h.row j hj).blk hb
  obtain ⟨es, clock, hm⟩ := h.map
  have := hm.at_.symm.trans hC
  cases this
end
theorem info_wheel : (Try.prog.info? 60).isSome = true := by kernel_rfl
theorem weql_same (a : Addr) (w : World) : (binOp .eql 24 (.pointer (some a)) (.pointer (some a))).run Try.prog w = .ok (.bool true) w := by
  obtain ⟨j, hj⟩ := Option.isSome_iff_exists.1 info_wheel
  exact run_eql_ptr_same w a Try.underlying24 hj
theorem wneq_same (a : Addr) (w : World) : (binOp .neq 24 (.pointer (some a)) (.pointer (some a))).run Try.prog w = .ok (.bool false) w := by
  obtain ⟨j, hj⟩ := Option.isSome_iff_exists.1 info_wheel
  have h : ∀ d : Nat, (Op.equalIn (d + 1) 24 (.pointer (some a)) (.pointer (some a))).run Try.prog w = .ok true w := fun d => by
    simp [Op.equalIn, run_underlying Try.underlying24, sizeOf, typeInfo, hj, run_sameAddr_same]
  simp only [binOp]
  simp [Op.equal, Op.maxDepth, h 9999]
theorem wneq_none (a : Addr) (w : World) : (binOp .neq 24 (.pointer none) (.pointer (some a))).run Try.prog w = .ok (.bool true) w := by
  have h : ∀ d : Nat, (Op.equalIn (d + 1) 24 (.pointer none) (.pointer (some a))).run Try.prog w = .ok false w := fun d => by
    simp [Op.equalIn, run_underlying Try.underlying24]
  simp only [binOp]
  simp [Op.equal, Op.maxDepth, h 9999]
theorem wnone_nil (w : World) : Calls Try.prog 25 #[.pointer none] w (JustIs (.bool true) w) := by
  go_enter Try.func25, Try.ntmps25
  go_wp2_with fail
  go_ret
  exact ⟨rfl, rfl⟩
theorem wnone_no (g : Nat) (w : World) (h : w.cell? ⟨g, 0, none⟩ = some (.pointer (some ⟨g, 0, none⟩))) : Calls Try.prog 25 #[.pointer (some ⟨g, 0, none⟩)] w (JustIs (.bool false) w) := by
  have hq := wneq_same ⟨g, 0, none⟩ w
  go_enter Try.func25, Try.ntmps25
  go_wp2_with fail
  go_ret
  exact ⟨rfl, rfl⟩
theorem wnone_zero (g : Nat) (w : World) (h : w.cell? ⟨g, 0, none⟩ = some (.pointer none)) : Calls Try.prog 25 #[.pointer (some ⟨g, 0, none⟩)] w (JustIs (.bool true) w) := by
  have hq := wneq_none ⟨g, 0, none⟩ w
  go_enter Try.func25, Try.ntmps25
  go_wp2_with fail
  go_ret
  exact ⟨rfl, rfl⟩
end Go.Proofs.Ytlpgabbnldalhaa
