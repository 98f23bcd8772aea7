/-
  A pool in memory ('MemAt'), and the contracts of the calls that only read: none, has, Taken, Count, least.
-/
import Derived.Test.YtlifldionfoddaaPool
import Derived.Test.YtlifldionfoddaaMapRow
import Derived.Test.YtlifldionfoddaaSumAny
import Derived.Deep.RegionHeld3
import Derived.RegionTactic
import Derived.LaidEqlPtr
namespace Go.Proofs.Ytlifldionfoddaa
set_option maxRecDepth 10000
open Go.RowKit
set_option linter.unusedSimpArgs false
set_option linter.unusedVariables false

/-- A pool as the program keeps it: each port's state; the ends of the rests, rising, each with its ports. -/
structure PS where
  lo : Int
  rest : Int
  now : Int
  st : List Int
  L : List (Int × List Nat)
def cntS (l : List Int) (k : Int) : Int := ((l.count k : Nat) : Int)
def portsOf (lo : Int) (ps : List Nat) : List Int := ps.map fun (i : Nat) => lo + (i : Int)
def poolC (g : Nat) (q : PS) (gp cp gm : Nat) (vE : Value) : Array Value :=
  #[.pointer (some ⟨g, 0, none⟩), .int .u16 q.lo, .int .u64 q.rest, .int .u64 q.now, .slice (some ⟨gp, 0, none⟩) q.st.length cp, .int .i64 (cntS q.st 0), .int .i64 (cntS q.st 1), .int .i64 (cntS q.st 2), .map (some gm), vE]
structure MemAt (w : World) (S : Nat → Prop) (g gp cp gm : Nat) (vE : Value) (R : Int → Value) (q : PS) : Prop where
  box : w.heap[g]? = some (.cells (poolC g q gp cp gm vE) 52 (0, 0))
  row : Row w 53 .u8 gp 0 q.st cp
  map : MapIs w gm (fun e => ∃ ps, (e, ps) ∈ q.L) R
  ends : Sl w 23 .u64 vE (q.L.map Prod.fst)
  rows : ∀ e ps, (e, ps) ∈ q.L → Sl w 22 .u16 (R e) (portsOf q.lo ps)
  apart : ∀ e ps e' ps' b, (e, ps) ∈ q.L → (e', ps') ∈ q.L → (R e).ownBlock = some b → (R e').ownBlock = some b → e = e'
  sg : S g
  sp : S gp
  sm : S gm
  se : ∀ b, vE.ownBlock = some b → S b
  sr : ∀ e ps b, (e, ps) ∈ q.L → (R e).ownBlock = some b → S b
  lt : ∀ k, S k → k < w.heap.size
theorem MemAt.but {w w' : World} {S T : Nat → Prop} {g gp cp gm : Nat} {vE : Value} {R : Int → Value} {q : PS} (h : MemAt w S g gp cp gm vE R q) (hb : But T w w') (hT : ∀ k, S k → ¬ T k) : MemAt w' S g gp cp gm vE R q :=
  ⟨hb.blk h.box (hT _ h.sg), h.row.but hb (hT _ h.sp), h.map.but hb (hT _ h.sm), h.ends.but hb (fun b e => hT _ (h.se b e)), fun e ps hm => (h.rows e ps hm).but hb (fun b x => hT _ (h.sr e ps b hm x)), h.apart, h.sg, h.sp, h.sm, h.se, h.sr, fun k hk => hb.lt (h.lt k hk)⟩
theorem MemAt.below {w w' : World} {S : Nat → Prop} {g gp cp gm : Nat} {vE : Value} {R : Int → Value} {q : PS} (h : MemAt w S g gp cp gm vE R q) (hb : Below w.heap.size w w') : MemAt w' S g gp cp gm vE R q :=
  h.but (But.of (S := fun _ => False) hb) (fun _ _ h => h)
/-- The pool's own cells. -/
theorem cells10 {w : World} {g : Nat} {c0 c1 c2 c3 c4 c5 c6 c7 c8 c9 : Value} {T : TypeId} (h : w.heap[g]? = some (.cells #[c0, c1, c2, c3, c4, c5, c6, c7, c8, c9] T (0, 0))) :
    w.cell? ⟨g, 0, none⟩ = some c0 ∧ w.cell? ⟨g, 1, none⟩ = some c1 ∧ w.cell? ⟨g, 2, none⟩ = some c2 ∧ w.cell? ⟨g, 3, none⟩ = some c3 ∧ w.cell? ⟨g, 4, none⟩ = some c4 ∧ w.cell? ⟨g, 5, none⟩ = some c5 ∧ w.cell? ⟨g, 6, none⟩ = some c6 ∧ w.cell? ⟨g, 7, none⟩ = some c7 ∧ w.cell? ⟨g, 8, none⟩ = some c8 ∧ w.cell? ⟨g, 9, none⟩ = some c9 :=
  ⟨blk_cell h 0, blk_cell h 1, blk_cell h 2, blk_cell h 3, blk_cell h 4, blk_cell h 5, blk_cell h 6, blk_cell h 7, blk_cell h 8, blk_cell h 9⟩
def RetIs (v : Value) (w : World) (e : Ending) (w' : World) : Prop := e = .returned v ∧ Below w.heap.size w w'

theorem info_pool : (Try.prog.info? 52).isSome = true := by kernel_rfl
theorem eql_same (a : Addr) (w : World) : (binOp .eql 28 (.pointer (some a)) (.pointer (some a))).run Try.prog w = .ok (.bool true) w := by
  obtain ⟨j, hj⟩ := Option.isSome_iff_exists.1 info_pool
  exact run_eql_ptr_same w a Try.underlying28 hj
theorem neq_same (a : Addr) (w : World) : (binOp .neq 28 (.pointer (some a)) (.pointer (some a))).run Try.prog w = .ok (.bool false) w := by
  obtain ⟨j, hj⟩ := Option.isSome_iff_exists.1 info_pool
  have h : ∀ d : Nat, (Op.equalIn (d + 1) 28 (.pointer (some a)) (.pointer (some a))).run Try.prog w = .ok true w := fun d => by
    simp [Op.equalIn, run_underlying Try.underlying28, sizeOf, typeInfo, hj, run_sameAddr_same]
  simp only [binOp]
  simp [Op.equal, Op.maxDepth, h 9999]
theorem neq_none (a : Addr) (w : World) : (binOp .neq 28 (.pointer none) (.pointer (some a))).run Try.prog w = .ok (.bool true) w := by
  have h : ∀ d : Nat, (Op.equalIn (d + 1) 28 (.pointer none) (.pointer (some a))).run Try.prog w = .ok false w := fun d => by
    simp [Op.equalIn, run_underlying Try.underlying28]
  simp only [binOp]
  simp [Op.equal, Op.maxDepth, h 9999]

theorem none_nil (w : World) : Calls Try.prog 16 #[.pointer none] w (RetIs (.bool true) w) := by
  go_enter Try.func16, Try.ntmps16
  go_wp2_with fail
  go_ret
  exact ⟨rfl, Below.refl _ _⟩
theorem none_no (g : Nat) (w : World) (h : w.cell? ⟨g, 0, none⟩ = some (.pointer (some ⟨g, 0, none⟩))) : Calls Try.prog 16 #[.pointer (some ⟨g, 0, none⟩)] w (RetIs (.bool false) w) := by
  have hq := neq_same ⟨g, 0, none⟩ w
  go_enter Try.func16, Try.ntmps16
  go_wp2_with fail
  go_ret
  exact ⟨rfl, Below.refl _ _⟩
theorem none_zero (g : Nat) (w : World) (h : w.cell? ⟨g, 0, none⟩ = some (.pointer none)) : Calls Try.prog 16 #[.pointer (some ⟨g, 0, none⟩)] w (RetIs (.bool true) w) := by
  have hq := neq_none ⟨g, 0, none⟩ w
  go_enter Try.func16, Try.ntmps16
  go_wp2_with fail
  go_ret
  exact ⟨rfl, Below.refl _ _⟩
end Go.Proofs.Ytlifldionfoddaa
