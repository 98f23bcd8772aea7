/-
  The contracts of package seq's calls on numbers (Add, Ahead, Less, Later, Within, Accept), and of the document's own answers (culvertref01) for them: each leaves the world as it was (but for new blocks where Accept makes its closure).
-/
import Derived.Test.YtmmnicnebammhaaRows
import Derived.Test.YtmmnicnebammhaaSeqPlain
import Derived.Test.YtmmnicnebammhaaRd
import Derived.WalkKit
import Derived.WalkSpells
import Derived.WalkLawsBesides
import Derived.Lib.Hide
namespace Go.Proofs.Ytmmnicnebammhaa
set_option maxRecDepth 10000
open Go.RowKit

theorem add_any (a n : Int) (w : World) :
    Calls Try.prog 34 #[.int .u32 a, .int .i64 n] w fun e w' => e = .returned (.int .u32 (sAdd a n)) ∧ w = w' := by
  go_enter Try.func34, Try.ntmps34
  go_wp2
  go_ret
  exact ⟨ret_int (by unfold sAdd; omega), rfl⟩

theorem ahead_any (a b : Int) (w : World) :
    Calls Try.prog 25 #[.int .u32 a, .int .u32 b] w fun e w' => e = .returned (.int .i32 (sAhead a b)) ∧ w = w' := by
  go_enter Try.func25, Try.ntmps25
  go_wp2
  go_ret
  exact ⟨ret_int (wrap32_ahead a b), rfl⟩

theorem within_zero (x f : Int) : sWithin x f 0 = false := by unfold sWithin; simp; omega

end Go.Proofs.Ytmmnicnebammhaa
