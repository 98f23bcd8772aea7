/-
  The contract of maps.Clone at a table's maps.
-/
import Derived.Test.YtnhlbohdlnjaaaaTbMem
import Derived.Shelf.SlMaps.Clone
namespace Go.Proofs.Ytnhlbohdlnjaaaa
set_option maxRecDepth 10000
open Go.RowKit
set_option linter.unusedSimpArgs false
set_option linter.unusedVariables false

def MapCopT (m2 : Nat) (K : Tu → Prop) (R : Tu → Value) (w : World) (e : Ending) (w' : World) : Prop := e = .returned (.map (some m2)) ∧ MTP w' m2 K R ∧ Below w.heap.size w w'
theorem mclone_t (m z : Nat) (K : Tu → Prop) (R : Tu → Value) (w : World) (h : MTP w m K R) (hz : w.heap.size = z) : Calls Try.prog 42 #[.map (some m)] w (MapCopT z K R w) := by
  obtain ⟨es, clock, hm⟩ := h
  have hrun := run_maps_clone_sl (P := Try.prog) w 70 hm.at_
  rw [hz] at hrun
  have HM := Lib.hid (show MapCopT z K R w (.returned (.map (some z))) (w.alloc (.map es clock)) from
    ⟨rfl, ⟨es, clock, by rw [← hz]; exact heap_alloc_new w _, hm.st, hm.ent, hm.key⟩, (Below.refl _ _).alloc (Nat.le_refl _) _⟩)
  have hq := fun W => run_eql_map_nil_sl (P := Try.prog) W 70 _ _ (some m) Try.underlying70
  have Hrun := Lib.hid hrun
  clear hm hrun hz
  go_enter Try.func42, Try.ntmps42
  go_wp2_with fail
  rw [run_callFunc_extern Try.func47 (by kernel_rfl) (by kernel_rfl) (by kernel_rfl) (e := Extern.MapsClone.clone) (by kernel_rfl), Hrun.out]
  simp only [Result.andThen]
  rw [Oper.upon_value]
  go_wp2_with fail
  rw [run_typeAssert_map_sl _ 70 20 _ _ _ Try.underlying70]
  simp only [Result.andThen]
  rw [Oper.upon_value]
  go_wp2_with fail
  go_ret
  exact HM.out
end Go.Proofs.Ytnhlbohdlnjaaaa
