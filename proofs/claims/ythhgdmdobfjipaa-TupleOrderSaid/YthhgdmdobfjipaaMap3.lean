/-
  Maps of function values by a Proto, as packages packet and tuple make them: how the run puts in and looks up.
-/
import Derived.Test.YthhgdmdobfjipaaIcmpSort
import Derived.WideMake
namespace Go.Proofs.Ythhgdmdobfjipaa
set_option maxRecDepth 10000
open Go.RowKit
set_option linter.unusedSimpArgs false
set_option linter.unusedVariables false

theorem put_ports (w : World) (b : Nat) (es : Array MapEntry) (clock : Nat) (k : Int) (v : Value) (hb : w.heap[b]? = some (.map es clock)) (hf : Instr.findNow (.int .u8) (.int .u8 k) es.toList 0 = some none) :
    (Instr.mapUpdate 51 (.map (some b)) (.int .u8 k) v).run Try.prog w = .ok () (setO w b (.map (es.push ⟨.int .u8 k, v, clock⟩) (clock + 1))) := by
  simp [setO, Instr.mapUpdate, run_underlying Try.underlying51, MapKept.run_getObj_map hb, check_u8 k w, MapKept.run_findKey Try.underlying5 hf, MapKept.run_setObj_map _ hb, Result.andThen]
theorem info_ports : (Try.prog.info? 49).map (·.zero) = some (some .nilFunc) := by kernel_rfl
theorem zero_ports (w : World) : (zeroValue 49).run Try.prog w = .ok .nilFunc w := by
  have h := info_ports
  cases hi : Try.prog.info? 49 with
  | none => rw [hi] at h; simp at h
  | some i =>
    rw [hi] at h
    simp at h
    simp [zeroValue, typeInfo, hi, h, go_sem]
theorem look2_ports (w : World) (b : Nat) (es : Array MapEntry) (clock : Nat) (k : Int) (x : Value) (ok : Bool) (hb : w.heap[b]? = some (.map es clock))
    (hf : Instr.findNow (.int .u8) (.int .u8 k) es.toList 0 = some none ∧ x = .nilFunc ∧ ok = false ∨ ∃ i, Instr.findNow (.int .u8) (.int .u8 k) es.toList 0 = some (some (i, x)) ∧ ok = true) :
    (Instr.lookup 51 (.map (some b)) (.int .u8 k) true).run Try.prog w = .ok (.tuple #[x, .bool ok]) w := by
  rcases hf with ⟨hf, rfl, rfl⟩ | ⟨i, hf, rfl⟩
  · simp [Instr.lookup, run_underlying Try.underlying51, MapKept.run_getObj_map hb, check_u8 k w, MapKept.run_findKey Try.underlying5 hf, zero_ports, Result.andThen]
  · simp [Instr.lookup, run_underlying Try.underlying51, MapKept.run_getObj_map hb, check_u8 k w, MapKept.run_findKey Try.underlying5 hf, Result.andThen]
theorem look1_ports (w : World) (b : Nat) (es : Array MapEntry) (clock i : Nat) (k : Int) (x : Value) (hb : w.heap[b]? = some (.map es clock))
    (hf : Instr.findNow (.int .u8) (.int .u8 k) es.toList 0 = some (some (i, x))) :
    (Instr.lookup 51 (.map (some b)) (.int .u8 k) false).run Try.prog w = .ok x w := by
  simp [Instr.lookup, run_underlying Try.underlying51, MapKept.run_getObj_map hb, check_u8 k w, MapKept.run_findKey Try.underlying5 hf, Result.andThen]

/-- A map of three by the Protos. -/
def threeO (f6 f17 f1 : Value) : Obj := .map #[⟨.int .u8 6, f6, 0⟩, ⟨.int .u8 17, f17, 1⟩, ⟨.int .u8 1, f1, 2⟩] 3
theorem three_6 (f6 f17 f1 : Value) : Instr.findNow (.int .u8) (.int .u8 6) [⟨.int .u8 6, f6, 0⟩, ⟨.int .u8 17, f17, 1⟩, ⟨.int .u8 1, f1, 2⟩] 0 = some (some (0, f6)) := rfl
theorem three_17 (f6 f17 f1 : Value) : Instr.findNow (.int .u8) (.int .u8 17) [⟨.int .u8 6, f6, 0⟩, ⟨.int .u8 17, f17, 1⟩, ⟨.int .u8 1, f1, 2⟩] 0 = some (some (1, f17)) := rfl
theorem three_1 (f6 f17 f1 : Value) : Instr.findNow (.int .u8) (.int .u8 1) [⟨.int .u8 6, f6, 0⟩, ⟨.int .u8 17, f17, 1⟩, ⟨.int .u8 1, f1, 2⟩] 0 = some (some (2, f1)) := rfl
theorem three_no (f6 f17 f1 : Value) (k : Int) (h6 : k ≠ 6) (h17 : k ≠ 17) (h1 : k ≠ 1) : Instr.findNow (.int .u8) (.int .u8 k) [⟨.int .u8 6, f6, 0⟩, ⟨.int .u8 17, f17, 1⟩, ⟨.int .u8 1, f1, 2⟩] 0 = some none :=
  findU8 _ _ _ (by simp [h6, h17, h1])
/-- What stands at a Proto. -/
def atP (f6 f17 f1 : Value) (k : Int) : Value := if k = 6 then f6 else if k = 17 then f17 else if k = 1 then f1 else .nilFunc
def knownP (k : Int) : Bool := decide (k = 6) || (decide (k = 17) || decide (k = 1))
theorem look3_ports (w : World) (g : Nat) (f6 f17 f1 : Value) (k : Int) (x : Value) (ok : Bool) (hg : w.heap[g]? = some (threeO f6 f17 f1)) (hx : atP f6 f17 f1 k = x) (hk : knownP k = ok) :
    (Instr.lookup 51 (.map (some g)) (.int .u8 k) true).run Try.prog w = .ok (.tuple #[x, .bool ok]) w := by
  subst hx; subst hk
  refine look2_ports w g _ _ k _ _ hg ?_
  by_cases h6 : k = 6
  · subst h6; exact .inr ⟨0, three_6 _ _ _, rfl⟩
  by_cases h17 : k = 17
  · subst h17; exact .inr ⟨1, three_17 _ _ _, rfl⟩
  by_cases h1 : k = 1
  · subst h1; exact .inr ⟨2, three_1 _ _ _, rfl⟩
  exact .inl ⟨three_no _ _ _ _ h6 h17 h1, by unfold atP; rw [if_neg h6, if_neg h17, if_neg h1], by simp [knownP, h6, h17, h1]⟩
theorem runs_ports {W w0 : World} {g : Nat} (f6 f17 f1 : Value) (b0 : Below W.heap.size W w0) (hg : W.heap.size ≤ g) (k0 : w0.heap[g]? = some (.map #[] 0)) :
    ∃ w1 w2 w3, (Instr.mapUpdate 51 (.map (some g)) (.int .u8 6) f6).run Try.prog w0 = .ok () w1 ∧ (Instr.mapUpdate 51 (.map (some g)) (.int .u8 17) f17).run Try.prog w1 = .ok () w2 ∧
      (Instr.mapUpdate 51 (.map (some g)) (.int .u8 1) f1).run Try.prog w2 = .ok () w3 ∧ w3.heap[g]? = some (threeO f6 f17 f1) ∧ Below W.heap.size W w3 := by
  have r1 := put_ports w0 g _ _ 6 f6 k0 (findU8 _ _ _ (by simp))
  have k1 := setO_at (.map (#[].push ⟨.int .u8 6, f6, 0⟩) 1) k0
  have b1 := setO_below (o := .map (#[].push ⟨.int .u8 6, f6, 0⟩) 1) b0 hg
  simp only [List.push_toArray, List.nil_append, List.cons_append, Nat.reduceAdd] at r1 k1 b1
  obtain ⟨w1, e1⟩ : ∃ v, setO w0 g (.map #[⟨.int .u8 6, f6, 0⟩] 1) = v := ⟨_, rfl⟩
  rw [e1] at r1 k1 b1
  clear e1
  have r2 := put_ports w1 g _ _ 17 f17 k1 (findU8 _ _ _ (by simp))
  have k2 := setO_at (.map (#[⟨.int .u8 6, f6, 0⟩].push ⟨.int .u8 17, f17, 1⟩) 2) k1
  have b2 := setO_below (o := .map (#[⟨.int .u8 6, f6, 0⟩].push ⟨.int .u8 17, f17, 1⟩) 2) b1 hg
  simp only [List.push_toArray, List.nil_append, List.cons_append, Nat.reduceAdd] at r2 k2 b2
  obtain ⟨w2, e2⟩ : ∃ v, setO w1 g (.map #[⟨.int .u8 6, f6, 0⟩, ⟨.int .u8 17, f17, 1⟩] 2) = v := ⟨_, rfl⟩
  rw [e2] at r2 k2 b2
  clear e2
  have r3 := put_ports w2 g _ _ 1 f1 k2 (findU8 _ _ _ (by simp))
  have k3 := setO_at (.map (#[⟨.int .u8 6, f6, 0⟩, ⟨.int .u8 17, f17, 1⟩].push ⟨.int .u8 1, f1, 2⟩) 3) k2
  have b3 := setO_below (o := .map (#[⟨.int .u8 6, f6, 0⟩, ⟨.int .u8 17, f17, 1⟩].push ⟨.int .u8 1, f1, 2⟩) 3) b2 hg
  simp only [List.push_toArray, List.nil_append, List.cons_append, Nat.reduceAdd] at r3 k3 b3
  exact ⟨w1, w2, _, r1, r2, r3, k3, b3⟩
end Go.Proofs.Ythhgdmdobfjipaa
