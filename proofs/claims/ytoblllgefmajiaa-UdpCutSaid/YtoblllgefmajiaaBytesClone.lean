/-
  The contract of bytes.Clone of a slice that is not nil.
-/
import Derived.Test.YtoblllgefmajiaaOwnRow
import Derived.Lib.Hide
import Derived.Lib.SliceRun
import Derived.Outline
namespace Go.Proofs.Ytoblllgefmajiaa
set_option maxRecDepth 10000
open Go.RowKit

theorem bclone_any (a : Addr) (n c : Nat) (l : List Int) (w : World) (hn : n ≤ 100000) (h : Rd w (some a) n l) :
    Calls Try.prog 41 #[.slice (some a) n c] w (RowIs n l w) := by
  have hba : Below w.heap.size w (w.alloc (.cells #[] 5)) := (Below.refl _ _).alloc (Nat.le_refl _) _
  have Hr := Lib.hid (h.below hba)
  have Hba := Lib.hid hba
  have Ho := Lib.hid (OwnB.made (w := w.alloc (.cells #[] 5)) (B := w.heap.size) (g := w.heap.size) (cap := 0) (cur := #[]) (heap_alloc_new w _) (Nat.le_refl _) (by simp [maxLen]) rfl)
  have hs : w.heap.size ≤ (w.alloc (.cells #[] 5)).heap.size := by simp
  have hnil := fun w => Lib.run_eql_slice_nil (P := Try.prog) w 25 5 (some a) n c 0 0 Try.underlying25
  clear h hba
  go_enter Try.func41, Try.ntmps41
  go_wp2_with (refine wpList_app rfl (.tmp 5) (.tmp 6) rfl w.heap.size (some ⟨w.heap.size, 0, none⟩) (some a) 0 0 n c [] l rfl rfl Ho.out Hr.out (by omega) hs ?_; intro A3 c3 w3 hown3 hg3 hb3 hat3)
  go_ret
  refine ⟨A3, c3, ?_, by have := hown3.cap; omega, hown3.capMax, by simpa using hown3, Hba.out.trans hb3⟩
  simp
end Go.Proofs.Ytoblllgefmajiaa
