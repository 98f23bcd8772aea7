/-
  The contract of maps.Clone at a wheel's map.
-/
import Derived.Test.YtlpgabbnldalhaaWhlNew
import Derived.Shelf.SlMaps.Clone
namespace Go.Proofs.Ytlpgabbnldalhaa
set_option maxRecDepth 10000
open Go.RowKit
set_option linter.unusedSimpArgs false
set_option linter.unusedVariables false

def MapCopied (m2 : Nat) (K : Int → Prop) (R : Int → Value) (w : World) (e : Ending) (w' : World) : Prop := e = .returned (.map (some m2)) ∧ MUP w' m2 K R ∧ Below w.heap.size w w'
theorem mclone_any (m z : Nat) (K : Int → Prop) (R : Int → Value) (w : World) (h : MUP w m K R) (hz : w.heap.size = z) : Calls Try.prog 29 #[.map (some m)] w (MapCopied z K R w) := by
  obtain ⟨es, clock, hm⟩ := h
  have hrun := run_maps_clone_sl (P := Try.prog) w 51 hm.at_
  rw [hz] at hrun
  have HM := Lib.hid (show MapCopied z K R w (.returned (.map (some z))) (w.alloc (.map es clock)) from
    ⟨rfl, ⟨es, clock, by rw [← hz]; exact heap_alloc_new w _, hm.st, hm.ent, hm.key⟩, (Below.refl _ _).alloc (Nat.le_refl _) _⟩)
  have hq := fun W => run_eql_map_nil_sl (P := Try.prog) W 51 _ _ (some m) Try.underlying51
  have Hrun := Lib.hid hrun
  clear hm hrun hz
  go_enter Try.func29, Try.ntmps29
  go_wp2_with fail
  rw [run_callFunc_extern Try.func36 (by kernel_rfl) (by kernel_rfl) (by kernel_rfl) (e := Extern.MapsClone.clone) (by kernel_rfl), Hrun.out]
  simp only [Result.andThen]
  rw [Oper.upon_value]
  go_wp2_with fail
  rw [run_typeAssert_map_sl _ 51 20 _ _ _ Try.underlying51]
  simp only [Result.andThen]
  rw [Oper.upon_value]
  go_wp2_with fail
  go_ret
  exact HM.out
end Go.Proofs.Ytlpgabbnldalhaa
