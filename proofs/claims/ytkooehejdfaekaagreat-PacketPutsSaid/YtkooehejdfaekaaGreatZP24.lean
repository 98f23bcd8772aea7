/-
  Texts laid together: PkMap, PkPay, PkOff.
-/
import Derived.Test.YtkooehejdfaekaaGreatZP04
import Derived.Test.YtkooehejdfaekaaGreatZP23
import Derived.WideMake
import Derived.Deep.RegionHeld3
import Derived.Deep.DeepCutAuto
import Derived.Deep.CutRange
import Derived.Test.YtkooehejdfaekaaGreatZP20
import Derived.Test.YtkooehejdfaekaaGreatZP11

/-
  Maps of function values by a Proto, as package packet's payloads and readings make them: how the run puts in and looks up; the contract of payloads.
-/
namespace Go.Proofs.YtkooehejdfaekaaGreat
set_option maxRecDepth 10000
open Go.RowKit
set_option linter.unusedSimpArgs false
set_option linter.unusedVariables false

theorem put_payload (w : World) (b : Nat) (es : Array MapEntry) (clock : Nat) (k : Int) (v : Value) (hb : w.heap[b]? = some (.map es clock)) (hf : Instr.findNow (.int .u8) (.int .u8 k) es.toList 0 = some none) :
    (Instr.mapUpdate 55 (.map (some b)) (.int .u8 k) v).run Tryz.prog w = .ok () (setO w b (.map (es.push ⟨.int .u8 k, v, clock⟩) (clock + 1))) := by
  simp [setO, Instr.mapUpdate, run_underlying Tryz.underlying55, MapKept.run_getObj_map hb, check_u8 k w, MapKept.run_findKey Tryz.underlying5 hf, MapKept.run_setObj_map _ hb, Result.andThen]
theorem info_payload : (Tryz.prog.info? 54).map (·.zero) = some (some .nilFunc) := by kernel_rfl
theorem zero_payload (w : World) : (zeroValue 54).run Tryz.prog w = .ok .nilFunc w := by
  have h := info_payload
  cases hi : Tryz.prog.info? 54 with
  | none => rw [hi] at h; simp at h
  | some i =>
    rw [hi] at h
    simp at h
    simp [zeroValue, typeInfo, hi, h, go_sem]
theorem look2_payload (w : World) (b : Nat) (es : Array MapEntry) (clock : Nat) (k : Int) (x : Value) (ok : Bool) (hb : w.heap[b]? = some (.map es clock))
    (hf : Instr.findNow (.int .u8) (.int .u8 k) es.toList 0 = some none ∧ x = .nilFunc ∧ ok = false ∨ ∃ i, Instr.findNow (.int .u8) (.int .u8 k) es.toList 0 = some (some (i, x)) ∧ ok = true) :
    (Instr.lookup 55 (.map (some b)) (.int .u8 k) true).run Tryz.prog w = .ok (.tuple #[x, .bool ok]) w := by
  rcases hf with ⟨hf, rfl, rfl⟩ | ⟨i, hf, rfl⟩
  · simp [Instr.lookup, run_underlying Tryz.underlying55, MapKept.run_getObj_map hb, check_u8 k w, MapKept.run_findKey Tryz.underlying5 hf, zero_payload, Result.andThen]
  · simp [Instr.lookup, run_underlying Tryz.underlying55, MapKept.run_getObj_map hb, check_u8 k w, MapKept.run_findKey Tryz.underlying5 hf, Result.andThen]
theorem look1_payload (w : World) (b : Nat) (es : Array MapEntry) (clock i : Nat) (k : Int) (x : Value) (hb : w.heap[b]? = some (.map es clock))
    (hf : Instr.findNow (.int .u8) (.int .u8 k) es.toList 0 = some (some (i, x))) :
    (Instr.lookup 55 (.map (some b)) (.int .u8 k) false).run Tryz.prog w = .ok x w := by
  simp [Instr.lookup, run_underlying Tryz.underlying55, MapKept.run_getObj_map hb, check_u8 k w, MapKept.run_findKey Tryz.underlying5 hf, Result.andThen]
theorem put_reading (w : World) (b : Nat) (es : Array MapEntry) (clock : Nat) (k : Int) (v : Value) (hb : w.heap[b]? = some (.map es clock)) (hf : Instr.findNow (.int .u8) (.int .u8 k) es.toList 0 = some none) :
    (Instr.mapUpdate 93 (.map (some b)) (.int .u8 k) v).run Tryz.prog w = .ok () (setO w b (.map (es.push ⟨.int .u8 k, v, clock⟩) (clock + 1))) := by
  simp [setO, Instr.mapUpdate, run_underlying Tryz.underlying93, MapKept.run_getObj_map hb, check_u8 k w, MapKept.run_findKey Tryz.underlying5 hf, MapKept.run_setObj_map _ hb, Result.andThen]
theorem info_reading : (Tryz.prog.info? 91).map (·.zero) = some (some .nilFunc) := by kernel_rfl
theorem zero_reading (w : World) : (zeroValue 91).run Tryz.prog w = .ok .nilFunc w := by
  have h := info_reading
  cases hi : Tryz.prog.info? 91 with
  | none => rw [hi] at h; simp at h
  | some i =>
    rw [hi] at h
    simp at h
    simp [zeroValue, typeInfo, hi, h, go_sem]
theorem look2_reading (w : World) (b : Nat) (es : Array MapEntry) (clock : Nat) (k : Int) (x : Value) (ok : Bool) (hb : w.heap[b]? = some (.map es clock))
    (hf : Instr.findNow (.int .u8) (.int .u8 k) es.toList 0 = some none ∧ x = .nilFunc ∧ ok = false ∨ ∃ i, Instr.findNow (.int .u8) (.int .u8 k) es.toList 0 = some (some (i, x)) ∧ ok = true) :
    (Instr.lookup 93 (.map (some b)) (.int .u8 k) true).run Tryz.prog w = .ok (.tuple #[x, .bool ok]) w := by
  rcases hf with ⟨hf, rfl, rfl⟩ | ⟨i, hf, rfl⟩
  · simp [Instr.lookup, run_underlying Tryz.underlying93, MapKept.run_getObj_map hb, check_u8 k w, MapKept.run_findKey Tryz.underlying5 hf, zero_reading, Result.andThen]
  · simp [Instr.lookup, run_underlying Tryz.underlying93, MapKept.run_getObj_map hb, check_u8 k w, MapKept.run_findKey Tryz.underlying5 hf, Result.andThen]
/-- A map of three by the Protos. -/
def threeO (f6 f17 f1 : Value) : Obj := .map #[⟨.int .u8 6, f6, 0⟩, ⟨.int .u8 17, f17, 1⟩, ⟨.int .u8 1, f1, 2⟩] 3
theorem three_6 (f6 f17 f1 : Value) : Instr.findNow (.int .u8) (.int .u8 6) [⟨.int .u8 6, f6, 0⟩, ⟨.int .u8 17, f17, 1⟩, ⟨.int .u8 1, f1, 2⟩] 0 = some (some (0, f6)) := rfl
theorem three_17 (f6 f17 f1 : Value) : Instr.findNow (.int .u8) (.int .u8 17) [⟨.int .u8 6, f6, 0⟩, ⟨.int .u8 17, f17, 1⟩, ⟨.int .u8 1, f1, 2⟩] 0 = some (some (1, f17)) := rfl
theorem three_1 (f6 f17 f1 : Value) : Instr.findNow (.int .u8) (.int .u8 1) [⟨.int .u8 6, f6, 0⟩, ⟨.int .u8 17, f17, 1⟩, ⟨.int .u8 1, f1, 2⟩] 0 = some (some (2, f1)) := rfl
theorem three_no (f6 f17 f1 : Value) (k : Int) (h6 : k ≠ 6) (h17 : k ≠ 17) (h1 : k ≠ 1) : Instr.findNow (.int .u8) (.int .u8 k) [⟨.int .u8 6, f6, 0⟩, ⟨.int .u8 17, f17, 1⟩, ⟨.int .u8 1, f1, 2⟩] 0 = some none :=
  findU8 _ _ _ (by simp [h6, h17, h1])
/-- What stands at a Proto. -/
def atP (f6 f17 f1 : Value) (k : Int) : Value := if k = 6 then f6 else if k = 17 then f17 else if k = 1 then f1 else .nilFunc
def knownP (k : Int) : Bool := decide (k = 6) || (decide (k = 17) || decide (k = 1))
theorem look3_payload (w : World) (g : Nat) (f6 f17 f1 : Value) (k : Int) (x : Value) (ok : Bool) (hg : w.heap[g]? = some (threeO f6 f17 f1)) (hx : atP f6 f17 f1 k = x) (hk : knownP k = ok) :
    (Instr.lookup 55 (.map (some g)) (.int .u8 k) true).run Tryz.prog w = .ok (.tuple #[x, .bool ok]) w := by
  subst hx; subst hk
  refine look2_payload w g _ _ k _ _ hg ?_
  by_cases h6 : k = 6
  · subst h6; exact .inr ⟨0, three_6 _ _ _, rfl⟩
  by_cases h17 : k = 17
  · subst h17; exact .inr ⟨1, three_17 _ _ _, rfl⟩
  by_cases h1 : k = 1
  · subst h1; exact .inr ⟨2, three_1 _ _ _, rfl⟩
  exact .inl ⟨three_no _ _ _ _ h6 h17 h1, by unfold atP; rw [if_neg h6, if_neg h17, if_neg h1], by simp [knownP, h6, h17, h1]⟩
theorem look3_reading (w : World) (g : Nat) (f6 f17 f1 : Value) (k : Int) (x : Value) (ok : Bool) (hg : w.heap[g]? = some (threeO f6 f17 f1)) (hx : atP f6 f17 f1 k = x) (hk : knownP k = ok) :
    (Instr.lookup 93 (.map (some g)) (.int .u8 k) true).run Tryz.prog w = .ok (.tuple #[x, .bool ok]) w := by
  subst hx; subst hk
  refine look2_reading w g _ _ k _ _ hg ?_
  by_cases h6 : k = 6
  · subst h6; exact .inr ⟨0, three_6 _ _ _, rfl⟩
  by_cases h17 : k = 17
  · subst h17; exact .inr ⟨1, three_17 _ _ _, rfl⟩
  by_cases h1 : k = 1
  · subst h1; exact .inr ⟨2, three_1 _ _ _, rfl⟩
  exact .inl ⟨three_no _ _ _ _ h6 h17 h1, by unfold atP; rw [if_neg h6, if_neg h17, if_neg h1], by simp [knownP, h6, h17, h1]⟩
theorem at_payload (w : World) (g : Nat) (f6 f17 f1 : Value) (k : Int) (x : Value) (hg : w.heap[g]? = some (threeO f6 f17 f1)) (hx : atP f6 f17 f1 k = x) (hk : knownP k = true) :
    (Instr.lookup 55 (.map (some g)) (.int .u8 k) false).run Tryz.prog w = .ok x w := by
  subst hx
  unfold knownP at hk
  simp at hk
  rcases hk with rfl | rfl | rfl
  · exact look1_payload w g _ _ _ 6 _ hg (three_6 _ _ _)
  · exact look1_payload w g _ _ _ 17 _ hg (three_17 _ _ _)
  · exact look1_payload w g _ _ _ 1 _ hg (three_1 _ _ _)

theorem runs_payload {W w0 : World} {g : Nat} (f6 f17 f1 : Value) (b0 : Below W.heap.size W w0) (hg : W.heap.size ≤ g) (k0 : w0.heap[g]? = some (.map #[] 0)) :
    ∃ w1 w2 w3, (Instr.mapUpdate 55 (.map (some g)) (.int .u8 6) f6).run Tryz.prog w0 = .ok () w1 ∧ (Instr.mapUpdate 55 (.map (some g)) (.int .u8 17) f17).run Tryz.prog w1 = .ok () w2 ∧
      (Instr.mapUpdate 55 (.map (some g)) (.int .u8 1) f1).run Tryz.prog w2 = .ok () w3 ∧ w3.heap[g]? = some (threeO f6 f17 f1) ∧ Below W.heap.size W w3 := by
  have r1 := put_payload w0 g _ _ 6 f6 k0 (findU8 _ _ _ (by simp))
  have k1 := setO_at (.map (#[].push ⟨.int .u8 6, f6, 0⟩) 1) k0
  have b1 := setO_below (o := .map (#[].push ⟨.int .u8 6, f6, 0⟩) 1) b0 hg
  simp only [List.push_toArray, List.nil_append, List.cons_append, Nat.reduceAdd] at r1 k1 b1
  obtain ⟨w1, e1⟩ : ∃ v, setO w0 g (.map #[⟨.int .u8 6, f6, 0⟩] 1) = v := ⟨_, rfl⟩
  rw [e1] at r1 k1 b1
  clear e1
  have r2 := put_payload w1 g _ _ 17 f17 k1 (findU8 _ _ _ (by simp))
  have k2 := setO_at (.map (#[⟨.int .u8 6, f6, 0⟩].push ⟨.int .u8 17, f17, 1⟩) 2) k1
  have b2 := setO_below (o := .map (#[⟨.int .u8 6, f6, 0⟩].push ⟨.int .u8 17, f17, 1⟩) 2) b1 hg
  simp only [List.push_toArray, List.nil_append, List.cons_append, Nat.reduceAdd] at r2 k2 b2
  obtain ⟨w2, e2⟩ : ∃ v, setO w1 g (.map #[⟨.int .u8 6, f6, 0⟩, ⟨.int .u8 17, f17, 1⟩] 2) = v := ⟨_, rfl⟩
  rw [e2] at r2 k2 b2
  clear e2
  have r3 := put_payload w2 g _ _ 1 f1 k2 (findU8 _ _ _ (by simp))
  have k3 := setO_at (.map (#[⟨.int .u8 6, f6, 0⟩, ⟨.int .u8 17, f17, 1⟩].push ⟨.int .u8 1, f1, 2⟩) 3) k2
  have b3 := setO_below (o := .map (#[⟨.int .u8 6, f6, 0⟩, ⟨.int .u8 17, f17, 1⟩].push ⟨.int .u8 1, f1, 2⟩) 3) b2 hg
  simp only [List.push_toArray, List.nil_append, List.cons_append, Nat.reduceAdd] at r3 k3 b3
  exact ⟨w1, w2, _, r1, r2, r3, k3, b3⟩
theorem runs_reading {W w0 : World} {g : Nat} (f6 f17 f1 : Value) (b0 : Below W.heap.size W w0) (hg : W.heap.size ≤ g) (k0 : w0.heap[g]? = some (.map #[] 0)) :
    ∃ w1 w2 w3, (Instr.mapUpdate 93 (.map (some g)) (.int .u8 6) f6).run Tryz.prog w0 = .ok () w1 ∧ (Instr.mapUpdate 93 (.map (some g)) (.int .u8 17) f17).run Tryz.prog w1 = .ok () w2 ∧
      (Instr.mapUpdate 93 (.map (some g)) (.int .u8 1) f1).run Tryz.prog w2 = .ok () w3 ∧ w3.heap[g]? = some (threeO f6 f17 f1) ∧ Below W.heap.size W w3 := by
  have r1 := put_reading w0 g _ _ 6 f6 k0 (findU8 _ _ _ (by simp))
  have k1 := setO_at (.map (#[].push ⟨.int .u8 6, f6, 0⟩) 1) k0
  have b1 := setO_below (o := .map (#[].push ⟨.int .u8 6, f6, 0⟩) 1) b0 hg
  simp only [List.push_toArray, List.nil_append, List.cons_append, Nat.reduceAdd] at r1 k1 b1
  obtain ⟨w1, e1⟩ : ∃ v, setO w0 g (.map #[⟨.int .u8 6, f6, 0⟩] 1) = v := ⟨_, rfl⟩
  rw [e1] at r1 k1 b1
  clear e1
  have r2 := put_reading w1 g _ _ 17 f17 k1 (findU8 _ _ _ (by simp))
  have k2 := setO_at (.map (#[⟨.int .u8 6, f6, 0⟩].push ⟨.int .u8 17, f17, 1⟩) 2) k1
  have b2 := setO_below (o := .map (#[⟨.int .u8 6, f6, 0⟩].push ⟨.int .u8 17, f17, 1⟩) 2) b1 hg
  simp only [List.push_toArray, List.nil_append, List.cons_append, Nat.reduceAdd] at r2 k2 b2
  obtain ⟨w2, e2⟩ : ∃ v, setO w1 g (.map #[⟨.int .u8 6, f6, 0⟩, ⟨.int .u8 17, f17, 1⟩] 2) = v := ⟨_, rfl⟩
  rw [e2] at r2 k2 b2
  clear e2
  have r3 := put_reading w2 g _ _ 1 f1 k2 (findU8 _ _ _ (by simp))
  have k3 := setO_at (.map (#[⟨.int .u8 6, f6, 0⟩, ⟨.int .u8 17, f17, 1⟩].push ⟨.int .u8 1, f1, 2⟩) 3) k2
  have b3 := setO_below (o := .map (#[⟨.int .u8 6, f6, 0⟩, ⟨.int .u8 17, f17, 1⟩].push ⟨.int .u8 1, f1, 2⟩) 3) b2 hg
  simp only [List.push_toArray, List.nil_append, List.cons_append, Nat.reduceAdd] at r3 k3 b3
  exact ⟨w1, w2, _, r1, r2, r3, k3, b3⟩
end Go.Proofs.YtkooehejdfaekaaGreat

/-
  Package packet's payloads: a map of closures that tell a Proto's part as bytes; what each tells.
-/
namespace Go.Proofs.YtkooehejdfaekaaGreat
set_option maxRecDepth 10000
open Go.RowKit
set_option linter.unusedSimpArgs false
set_option linter.unusedVariables false

def payF6 (q r b : Nat) : Value := .func (.func 39) #[] #[.pointer (some ⟨q, 0, none⟩), .pointer (some ⟨r, 0, none⟩), .pointer (some ⟨b, 0, none⟩)]
def payF17 (q r b : Nat) : Value := .func (.func 41) #[] #[.pointer (some ⟨q, 0, none⟩), .pointer (some ⟨r, 0, none⟩), .pointer (some ⟨b, 0, none⟩)]
def payF1 (b : Nat) : Value := .func (.func 43) #[] #[.pointer (some ⟨b, 0, none⟩)]
/-- Where payloads' closures find what they took. -/
structure PayAt (p : Pk) (a : PkA) (q r b B : Nat) (w : World) : Prop where
  src : Box w q 23 (.int .u32 p.h.sr)
  dst : Box w r 23 (.int .u32 p.h.ds)
  pkt : w.heap[b]? = some (.cells #[.int .u8 p.h.to, .int .u16 p.h.id, .bool p.h.df, .int .u8 p.h.tt, .int .u8 p.h.pr, .int .u32 p.h.sr, .int .u32 p.h.ds, .slice a.AH a.nH a.cH, .int .u16 p.s.sp, .int .u16 p.s.dp, .int .u32 p.s.sq, .int .u32 p.s.ak, .int .u8 p.s.fl, .int .u16 p.s.wn, .int .u16 p.s.ug, .slice a.AO a.nO a.cO, .slice a.AD a.nD a.cD, .int .u16 p.u.sp, .int .u16 p.u.dp, .slice a.AU a.nU a.cU, .int .u8 p.m.ty, .int .u8 p.m.cd, .int .u32 p.m.rs, .slice a.AM a.nM a.cM] 35 (0, 0))
  at_ : B ≤ q ∧ B ≤ r ∧ B ≤ b
theorem PayAt.on {p : Pk} {a : PkA} {q r b B : Nat} {w w' : World} (h : PayAt p a q r b B w) (hb : Below w.heap.size w w') : PayAt p a q r b B w' :=
  ⟨blk_on h.src hb, blk_on h.dst hb, blk_on h.pkt hb, h.at_⟩
def PayIs (p : Pk) (a : PkA) (w : World) (e : Ending) (w' : World) : Prop :=
  ∃ g q r b, e = .returned (.map (some g)) ∧ w'.heap[g]? = some (threeO (payF6 q r b) (payF17 q r b) (payF1 b)) ∧ PayAt p a q r b w.heap.size w' ∧ Below w.heap.size w w'
theorem box_two (w : World) (v u : Value) (t : TypeId) : Box ((w.alloc (.cells #[v] t)).alloc (.cells #[u] t)).drew w.heap.size t v ∧ Box ((w.alloc (.cells #[v] t)).alloc (.cells #[u] t)).drew (w.heap.size + 1) t u ∧
    Below w.heap.size w ((w.alloc (.cells #[v] t)).alloc (.cells #[u] t)).drew := by
  refine ⟨?_, ?_, Below.drew (((Below.refl _ _).alloc (Nat.le_refl _) _).alloc (by simp) _)⟩
  · exact (Below.heap_alloc _ _ _ (by simp)).trans (heap_alloc_new w _)
  · have := heap_alloc_new (w.alloc (.cells #[v] t)) (.cells #[u] t)
    rw [show (w.alloc (.cells #[v] t)).heap.size = w.heap.size + 1 by simp] at this
    exact this
set_option maxHeartbeats 2000000 in
theorem payloads_any (p : Pk) (a : PkA) (w : World) :
    Calls Tryz.prog 18 #[.agg #[.int .u8 p.h.to, .int .u16 p.h.id, .bool p.h.df, .int .u8 p.h.tt, .int .u8 p.h.pr, .int .u32 p.h.sr, .int .u32 p.h.ds, .slice a.AH a.nH a.cH, .int .u16 p.s.sp, .int .u16 p.s.dp, .int .u32 p.s.sq, .int .u32 p.s.ak, .int .u8 p.s.fl, .int .u16 p.s.wn, .int .u16 p.s.ug, .slice a.AO a.nO a.cO, .slice a.AD a.nD a.cD, .int .u16 p.u.sp, .int .u16 p.u.dp, .slice a.AU a.nU a.cU, .int .u8 p.m.ty, .int .u8 p.m.cd, .int .u32 p.m.rs, .slice a.AM a.nM a.cM]] w (PayIs p a w) := by
  have hmf : ∀ (fn : Fn) (first cap : Array Value) (w : World), (Instr.makeFunc fn first cap).run Tryz.prog w = .ok (.func fn first cap) w := fun _ _ _ _ => rfl
  obtain ⟨z, hz⟩ : ∃ z, w.heap.size = z := ⟨_, rfl⟩
  obtain ⟨w0, ew⟩ : ∃ w0, w.alloc (.cells #[.int .u8 p.h.to, .int .u16 p.h.id, .bool p.h.df, .int .u8 p.h.tt, .int .u8 p.h.pr, .int .u32 p.h.sr, .int .u32 p.h.ds, .slice a.AH a.nH a.cH, .int .u16 p.s.sp, .int .u16 p.s.dp, .int .u32 p.s.sq, .int .u32 p.s.ak, .int .u8 p.s.fl, .int .u16 p.s.wn, .int .u16 p.s.ug, .slice a.AO a.nO a.cO, .slice a.AD a.nD a.cD, .int .u16 p.u.sp, .int .u16 p.u.dp, .slice a.AU a.nU a.cU, .int .u8 p.m.ty, .int .u8 p.m.cd, .int .u32 p.m.rs, .slice a.AM a.nM a.cM] 35) = w0 := ⟨_, rfl⟩
  have hb0 : Below w.heap.size w w0 := by rw [← ew]; exact (Below.refl _ _).alloc (Nat.le_refl _) _
  have hk0 : w0.heap[z]? = some (.cells #[.int .u8 p.h.to, .int .u16 p.h.id, .bool p.h.df, .int .u8 p.h.tt, .int .u8 p.h.pr, .int .u32 p.h.sr, .int .u32 p.h.ds, .slice a.AH a.nH a.cH, .int .u16 p.s.sp, .int .u16 p.s.dp, .int .u32 p.s.sq, .int .u32 p.s.ak, .int .u8 p.s.fl, .int .u16 p.s.wn, .int .u16 p.s.ug, .slice a.AO a.nO a.cO, .slice a.AD a.nD a.cD, .int .u16 p.u.sp, .int .u16 p.u.dp, .slice a.AU a.nU a.cU, .int .u8 p.m.ty, .int .u8 p.m.cd, .int .u32 p.m.rs, .slice a.AM a.nM a.cM] 35 (0, 0)) := by rw [← ew, ← hz]; exact heap_alloc_new w _
  have Hb0 := Lib.hid hb0
  have Ew := Lib.hid ew
  have Hz := Lib.hid hz
  have HK0 := Lib.hid hk0
  clear hz ew hb0 hk0
  go_enter Tryz.func18, Tryz.ntmps18
  go_upto_region 1 with (fail)
  rw [Ew.out]
  try rw [Hz.out]
  go_cut [3, 4] (fun s3 s4 wx => ∃ (q r : Nat), s3 = .pointer (some ⟨q, 0, none⟩) ∧ s4 = .pointer (some ⟨r, 0, none⟩) ∧ Hid (PayAt p a q r z w.heap.size wx) ∧ Hid (Below w.heap.size w wx))
  case first =>
    obtain ⟨k0, k1, k2, k3, k4, k5, k6, k7, k8, k9, k10, k11, k12, k13, k14, k15, k16, k17, k18, k19, k20, k21, k22, k23⟩ := cells24 HK0.out
    have HS := Lib.hid (show ∀ w', Below w0.heap.size w0 w' → w'.cell? ⟨z, 5, none⟩ = some (.int .u32 p.h.sr) ∧ w'.cell? ⟨z, 6, none⟩ = some (.int .u32 p.h.ds) from
      fun w' hb => ⟨by rw [blk_cell (blk_on HK0.out hb)]; rfl, by rw [blk_cell (blk_on HK0.out hb)]; rfl⟩)
    clear k0 k1 k2 k3 k4 k5 k6 k7 k8 k9 k10 k11 k12 k13 k14 k15 k16 k17 k18 k19 k20 k21 k22 k23
    go_region_held3 (fun w' => w'.cell? ⟨z, 5, none⟩ = some (.int .u32 p.h.sr) ∧ w'.cell? ⟨z, 6, none⟩ = some (.int .u32 p.h.ds)) (exact HS.out _ (by repeat (first | exact Below.refl _ _ | refine Below.drew ?_ | (refine Below.alloc ?_ (by simp) _) | (refine Below.setCell ?_ (by simp) _)))) (fail)
    · go_wp2_with fail
      obtain ⟨h1, h2, h3⟩ := box_two w0 (.int .u32 p.h.sr) (.int .u32 p.h.ds) 23
      have hs := below_trans Hb0.out h3
      have hsz := Hb0.out.size
      have hz := Hz.out
      go_meet
      exact ⟨_, _, rfl, rfl, Lib.hid ⟨h1, h2, blk_on HK0.out h3, ⟨by omega, by omega, by omega⟩⟩, Lib.hid hs⟩
    · go_wp2_with fail
      obtain ⟨h1, h2, h3⟩ := box_two w0 (.int .u32 p.h.ds) (.int .u32 p.h.sr) 23
      have hs := below_trans Hb0.out h3
      have hsz := Hb0.out.size
      have hz := Hz.out
      go_meet
      exact ⟨_, _, rfl, rfl, Lib.hid ⟨h2, h1, blk_on HK0.out h3, ⟨by omega, by omega, by omega⟩⟩, Lib.hid hs⟩
  case rest =>
    obtain ⟨q, r, rfl, rfl, HP, HB⟩ := hcut
    clear HK0 Hb0 Ew
    obtain ⟨w2, e2⟩ : ∃ v, wc.alloc (.map #[] 0) = v := ⟨_, rfl⟩
    have k2 : w2.heap[wc.heap.size]? = some (.map #[] 0) := by rw [← e2]; exact heap_alloc_new wc _
    have b2 : Below wc.heap.size wc w2 := by rw [← e2]; exact (Below.refl _ _).alloc (Nat.le_refl _) _
    obtain ⟨w3, w4, w5, r1, r2, r3, hg, hb⟩ := runs_payload (payF6 q r z) (payF17 q r z) (payF1 z) b2 (Nat.le_refl _) k2
    have hmk := run_makeMap_plain (P := Tryz.prog) wc 55
    rw [e2] at hmk
    have Hg := Lib.hid hg
    have Hb := Lib.hid hb
    clear k2 b2 hg hb e2
    unfold payF6 at r1
    unfold payF17 at r2
    unfold payF1 at r3
    go_wp2_with fail
    go_ret
    exact ⟨_, q, r, z, rfl, Hg.out, HP.out.on Hb.out, HB.out.trans (Hb.out.mono HB.out.size)⟩

set_option maxHeartbeats 2000000 in
theorem pay_6 (p : Pk) (a : PkA) (q r b B : Nat) (w : World) (L : List Int) (m : Nat) (x : Int) (hp : PkRd w p a) (hn : a.nO ≤ 2000000) (hnD : a.nD ≤ 140737488355328) (h : PayAt p a q r b B w) (hx : errS p.s = x) (hL : toldB p.h.sr p.h.ds p.s = L) (hlm : L.length = m) :
    Calls Tryz.prog 39 #[.pointer (some ⟨q, 0, none⟩), .pointer (some ⟨r, 0, none⟩), .pointer (some ⟨b, 0, none⟩)] w (PutGot L m x w) := by
  have HC := Lib.hid (put6_got p.h.sr p.h.ds p.s a.AO a.nO a.cO a.os a.AD a.nD a.cD w L m x (by omega) hnD hp.sr hx hL hlm)
  have H1 := Lib.hid h.pkt
  have c1 := h.src.cell
  have c2 := h.dst.cell
  clear hp hx hL h
  obtain ⟨k0, k1, k2, k3, k4, k5, k6, k7, k8, k9, k10, k11, k12, k13, k14, k15, k16, k17, k18, k19, k20, k21, k22, k23⟩ := cells24 H1.out
  go_enter Tryz.func39, Tryz.ntmps39
  go_wp2_with fail
  refine HC.out.mono ?_
  rintro e w2 ⟨A2, c2, rfl, hc2, hr2, hb2⟩
  have HR := Lib.hid hr2
  have HC2 := Lib.hid hc2
  have HB := Lib.hid hb2
  clear hr2 hc2 hb2
  clear k0 k1 k2 k3 k4 k5 k6 k7 k8 k9 k10 k11 k12 k13 k14 k15 k16 k17 k18 k19 k20 k21 k22 k23
  clear c1 
  go_wp2_with fail
  go_ret2
  exact ⟨A2, c2, rfl, HC2.out, HR.out, HB.out⟩
set_option maxHeartbeats 2000000 in
theorem pay_17 (p : Pk) (a : PkA) (q r b B : Nat) (w : World) (L : List Int) (m : Nat) (x : Int) (hp : PkRd w p a) (hn : a.nO ≤ 2000000) (hnD : a.nD ≤ 140737488355328) (h : PayAt p a q r b B w) (hx : errUP p.u = x) (hL : toldU p.h.sr p.h.ds p.u = L) (hlm : L.length = m) :
    Calls Tryz.prog 41 #[.pointer (some ⟨q, 0, none⟩), .pointer (some ⟨r, 0, none⟩), .pointer (some ⟨b, 0, none⟩)] w (PutGot L m x w) := by
  have HC := Lib.hid (put7_got p.h.sr p.h.ds p.u a.AU a.nU a.cU w L m x hp.un hp.uc hp.ur hx hL hlm)
  have H1 := Lib.hid h.pkt
  have c1 := h.src.cell
  have c2 := h.dst.cell
  clear hp hx hL h
  obtain ⟨k0, k1, k2, k3, k4, k5, k6, k7, k8, k9, k10, k11, k12, k13, k14, k15, k16, k17, k18, k19, k20, k21, k22, k23⟩ := cells24 H1.out
  go_enter Tryz.func41, Tryz.ntmps41
  go_wp2_with fail
  refine HC.out.mono ?_
  rintro e w2 ⟨A2, c2, rfl, hc2, hr2, hb2⟩
  have HR := Lib.hid hr2
  have HC2 := Lib.hid hc2
  have HB := Lib.hid hb2
  clear hr2 hc2 hb2
  clear k0 k1 k2 k3 k4 k5 k6 k7 k8 k9 k10 k11 k12 k13 k14 k15 k16 k17 k18 k19 k20 k21 k22 k23
  clear c1 
  go_wp2_with fail
  go_ret2
  exact ⟨A2, c2, rfl, HC2.out, HR.out, HB.out⟩
set_option maxHeartbeats 2000000 in
theorem pay_1 (p : Pk) (a : PkA) (q r b B : Nat) (w : World) (L : List Int) (m : Nat) (x : Int) (hp : PkRd w p a) (hn : a.nO ≤ 2000000) (hnD : a.nD ≤ 140737488355328) (h : PayAt p a q r b B w) (hx : errP p.m = x) (hL : toldM p.m = L) (hlm : L.length = m) :
    Calls Tryz.prog 43 #[.pointer (some ⟨b, 0, none⟩)] w (PutGot L m x w) := by
  have HC := Lib.hid (put8_got p.m a.AM a.nM a.cM w L m x hp.mn hp.mc hp.mr hx hL hlm)
  have H1 := Lib.hid h.pkt
  have c1 := h.src.cell
  have c2 := h.dst.cell
  clear hp hx hL h
  obtain ⟨k0, k1, k2, k3, k4, k5, k6, k7, k8, k9, k10, k11, k12, k13, k14, k15, k16, k17, k18, k19, k20, k21, k22, k23⟩ := cells24 H1.out
  go_enter Tryz.func43, Tryz.ntmps43
  go_wp2_with fail
  refine HC.out.mono ?_
  rintro e w2 ⟨A2, c2, rfl, hc2, hr2, hb2⟩
  have HR := Lib.hid hr2
  have HC2 := Lib.hid hc2
  have HB := Lib.hid hb2
  clear hr2 hc2 hb2
  clear k0 k1 k2 k3 k4 k5 k6 k7 k8 k9 k10 k11 k12 k13 k14 k15 k16 k17 k18 k19 k20 k21 k22 k23
  clear c1 
  go_wp2_with fail
  go_ret2
  exact ⟨A2, c2, rfl, HC2.out, HR.out, HB.out⟩
end Go.Proofs.YtkooehejdfaekaaGreat

/-
  Where a packet's rows do not lie: so that a store into a box leaves the packet as it reads. No function of the program.
-/
namespace Go.Proofs.YtkooehejdfaekaaGreat
set_option maxRecDepth 10000
open Go.RowKit

/-- A row of some bytes lies in no block of S. -/
def offR (S : Nat → Prop) (A : Option Addr) (n : Nat) : Prop := ∀ g o, A = some ⟨g, o, none⟩ → 0 < n → ¬ S g
theorem offR.zero (S : Nat → Prop) (A : Option Addr) : offR S A 0 := fun _ _ _ h => absurd h (by omega)
theorem offR.sub {S S' : Nat → Prop} {A : Option Addr} {n : Nat} (h : offR S A n) (hS : ∀ g, S' g → S g) : offR S' A n := fun g o e hn hs => h g o e hn (hS g hs)
theorem offR.cut {S : Nat → Prop} {A : Option Addr} {n m : Nat} (h : offR S A n) (hm : m ≤ n) : offR S A m := fun g o e hn => h g o e (by omega)
theorem OwnB.off {w : World} {B : Nat} {A : Option Addr} {n c : Nat} {l : List Int} (h : OwnB w B A n c l) : offR (fun g => g < B) A n := fun g o e hn hs => by
  subst e
  have := (World.ownsRow.lt h g rfl).1
  omega
theorem OwnO.off {w : World} {B : Nat} {A : Option Addr} {n c : Nat} {os : List OptV} (h : OwnO w B A n c os) : offR (fun g => g < B) A n := fun g o e hn hs => by
  subst e
  have := (World.ownsRow.lt h g rfl).1
  omega
theorem OwnL.off {w : World} {B : Nat} : ∀ {os : List OptV} {ls : List (Int × List Int)}, OwnL w B os ls → ∀ v ∈ os, offR (fun g => g < B) v.A v.n
  | [], _, _, v, hv => by cases hv
  | o :: os, l :: ls, h, v, hv => by
    rcases List.mem_cons.1 hv with rfl | hv
    · exact h.1.2.2.2.off
    · exact OwnL.off h.2 v hv
structure PkA.Off (a : PkA) (S : Nat → Prop) : Prop where
  h : offR S a.AH a.nH
  o : offR S a.AO a.nO
  os : ∀ v ∈ a.os, offR S v.A v.n
  d : offR S a.AD a.nD
  u : offR S a.AU a.nU
  m : offR S a.AM a.nM
theorem PkA.Off.sub {a : PkA} {S S' : Nat → Prop} (h : a.Off S) (hS : ∀ g, S' g → S g) : a.Off S' :=
  ⟨h.h.sub hS, h.o.sub hS, fun v hv => (h.os v hv).sub hS, h.d.sub hS, h.u.sub hS, h.m.sub hS⟩
theorem Rd.off {w : World} {A : Option Addr} {n : Nat} {l : List Int} (h : Rd w A n l) : offR (fun g => w.heap.size ≤ g) A n := fun g o e hn hs => by
  obtain ⟨b, o', e', hlt, _⟩ := h.at_ hn
  rw [e] at e'
  cases e'
  omega
theorem RdO.off {w : World} {A : Option Addr} {n : Nat} {os : List OptV} (h : RdO w A n os) : offR (fun g => w.heap.size ≤ g) A n := fun g o e hn hs => by
  obtain ⟨b, o', e', hlt, _⟩ := h.at_ hn
  rw [e] at e'
  cases e'
  omega
theorem Reads.off {w : World} : ∀ {os : List OptV} {ls : List (Int × List Int)}, Reads w os ls → ∀ v ∈ os, offR (fun g => w.heap.size ≤ g) v.A v.n
  | [], _, _, v, hv => by cases hv
  | o :: os, l :: ls, h, v, hv => by
    rcases List.mem_cons.1 hv with rfl | hv
    · exact h.1.2.2.2.2.off
    · exact Reads.off h.2 v hv
/-- What reads lies in memory that is there. -/
theorem PkRd.off {w : World} {p : Pk} {a : PkA} (h : PkRd w p a) : a.Off (fun g => w.heap.size ≤ g) := ⟨h.hr.off, h.sr.o.off, h.sr.os.off, h.sr.d.off, h.ur.off, h.mr.off⟩
theorem Rd.offBut {S : Nat → Prop} {w w' : World} {A : Option Addr} {n : Nat} {l : List Int} (h : Rd w A n l) (hb : But S w w') (ho : offR S A n) : Rd w' A n l := h.but hb ho
theorem RdO.offBut {S : Nat → Prop} {w w' : World} {A : Option Addr} {n : Nat} {os : List OptV} (h : RdO w A n os) (hb : But S w w') (ho : offR S A n) : RdO w' A n os :=
  ⟨h.len, fun h0 => by
    obtain ⟨g, o, e, hlt, hc⟩ := h.at_ h0
    exact ⟨g, o, e, hb.lt hlt, fun i hi => ⟨by rw [hb.cell (p := ⟨g, o + i * 2, none⟩) hlt (ho g o e h0)]; exact (hc i hi).1, by rw [hb.cell (p := ⟨g, o + (i * 2 + 1), none⟩) hlt (ho g o e h0)]; exact (hc i hi).2⟩⟩⟩
theorem Reads.offBut {S : Nat → Prop} {w w' : World} {os : List OptV} {ls : List (Int × List Int)} (h : Reads w os ls) (hb : But S w w') (ho : ∀ v ∈ os, offR S v.A v.n) : Reads w' os ls :=
  h.but hb (fun o hm b off e hn => ho o hm b off e hn)
theorem PkRd.but {S : Nat → Prop} {w w' : World} {p : Pk} {a : PkA} (h : PkRd w p a) (hb : But S w w') (ho : a.Off S) : PkRd w' p a :=
  ⟨h.hn, h.hc, h.hr.offBut hb ho.h, ⟨h.sr.num, h.sr.oc, h.sr.dc, h.sr.o.offBut hb ho.o, h.sr.os.offBut hb ho.os, h.sr.d.offBut hb ho.d⟩, h.un, h.uc, h.ur.offBut hb ho.u, h.mn, h.mc, h.mr.offBut hb ho.m⟩
/-- A whole packet is stored into the box g. -/
theorem row_but (w : World) (g : Nat) (cs : Array Value) : But (fun k => k = g) w (w.setRow g cs) := ⟨rfl, rfl, rfl, by simp, fun k _ hn => setRow_other _ _ _ _ hn⟩
end Go.Proofs.YtkooehejdfaekaaGreat
