/-
  The contracts of package sum's calls on numbers (add, Word, Long), and of the document's own answers (culvertref02) for them: each leaves the world as it was.
-/
import Derived.Test.YtoblllgefmajiaaRd
import Derived.Test.YtoblllgefmajiaaSumPlain
import Derived.Test.YtoblllgefmajiaaBits16
namespace Go.Proofs.Ytoblllgefmajiaa
set_option maxRecDepth 10000
open Go.RowKit

theorem add_any (a b : Int) (w : World) (ha : U16 a) (hb : U16 b) :
    Calls Try.prog 71 #[.int .u16 a, .int .u16 b] w fun e w' => e = .returned (.int .u16 (add16 a b)) ∧ w = w' := by
  obtain ⟨ha0, ha1⟩ := ha
  obtain ⟨hb0, hb1⟩ := hb
  by_cases h : 65535 < a + b
  · go_enter Try.func71, Try.ntmps71
    go_wp2
    go_ret
    exact ⟨ret_int (by unfold add16; rw [if_pos h]; (try rw [wrap_u16]); (try rw [wrap_u16]); omega), rfl⟩
  · go_enter Try.func71, Try.ntmps71
    go_wp2
    go_ret
    exact ⟨ret_int (by unfold add16; rw [if_neg (by omega)]), rfl⟩

theorem radd_any (a b : Int) (w : World) (ha : U16 a) (hb : U16 b) :
    Calls Try.prog 96 #[.int .u16 a, .int .u16 b] w fun e w' => e = .returned (.int .u16 (add16 a b)) ∧ w = w' := by
  obtain ⟨ha0, ha1⟩ := ha
  obtain ⟨hb0, hb1⟩ := hb
  by_cases h : 65535 < a + b
  · go_enter Try.func96, Try.ntmps96
    go_wp2
    go_ret
    exact ⟨ret_int (by unfold add16; rw [if_pos h]), rfl⟩
  · go_enter Try.func96, Try.ntmps96
    go_wp2
    go_ret
    exact ⟨ret_int (by unfold add16; rw [if_neg (by omega)]), rfl⟩

def U32 (a : Int) : Prop := 0 ≤ a ∧ a < 4294967296
theorem hi_u16 {a : Int} (h : U32 a) : U16 (a / 65536) := by unfold U32 at h; unfold U16; omega
theorem lo_u16 (a : Int) : U16 (a % 65536) := by unfold U16; omega

end Go.Proofs.Ytoblllgefmajiaa
