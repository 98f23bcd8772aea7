/-
  The contracts of package seq's calls on numbers (Add, Ahead, Less, Later, Within, Accept), and of the document's own answers (culvertref01) for them: each leaves the world as it was (but for new blocks where Accept makes its closure).
-/
import Derived.Test.YtncbkgcblmohoaaRows
import Derived.Test.YtncbkgcblmohoaaSeqPlain
import Derived.Test.YtncbkgcblmohoaaRd
import Derived.WalkKit
import Derived.WalkSpells
import Derived.WalkLawsBesides
import Derived.Lib.Hide
namespace Go.Proofs.Ytncbkgcblmohoaa
set_option maxRecDepth 10000
open Go.RowKit

theorem add_any (a n : Int) (w : World) :
    Calls Try.prog 36 #[.int .u32 a, .int .i64 n] w fun e w' => e = .returned (.int .u32 (sAdd a n)) ∧ w = w' := by
  go_enter Try.func36, Try.ntmps36
  go_wp2
  go_ret
  exact ⟨ret_int (by unfold sAdd; omega), rfl⟩

theorem ahead_any (a b : Int) (w : World) :
    Calls Try.prog 34 #[.int .u32 a, .int .u32 b] w fun e w' => e = .returned (.int .i32 (sAhead a b)) ∧ w = w' := by
  go_enter Try.func34, Try.ntmps34
  go_wp2
  go_ret
  exact ⟨ret_int (wrap32_ahead a b), rfl⟩

theorem less_any (a b : Int) (w : World) :
    Calls Try.prog 38 #[.int .u32 a, .int .u32 b] w fun e w' => e = .returned (.bool (sLess a b)) ∧ w = w' := by
  go_enter Try.func38, Try.ntmps38
  go_wp2_with (go_at_call 34; refine (ahead_any _ _ _).mono ?_; rintro e w' ⟨rfl, rfl⟩)
  go_ret
  exact ⟨rfl, rfl⟩

theorem within_any (x f l : Int) (w : World) :
    Calls Try.prog 35 #[.int .u32 x, .int .u32 f, .int .u32 l] w fun e w' => e = .returned (.bool (sWithin x f l)) ∧ w = w' := by
  go_enter Try.func35, Try.ntmps35
  go_wp2
  go_ret
  exact ⟨rfl, rfl⟩

theorem rmod_any (n : Int) (w : World) :
    Calls Try.prog 56 #[.int .i64 n] w fun e w' => e = .returned (.int .i64 (n % 4294967296)) ∧ w = w' := by
  go_enter Try.func56, Try.ntmps56
  go_wp2
  · go_ret
    have h : n.tmod 4294967296 < 0 := by assumption
    refine ⟨ret_int ?_, rfl⟩
    show wrap64 (n.tmod 4294967296 + 4294967296) = n % 4294967296
    have := Int.tmod_eq_emod (a := n) (b := 4294967296)
    unfold wrap64
    split at this <;> omega
  · go_ret
    have h : 0 ≤ n.tmod 4294967296 := by assumption
    refine ⟨ret_int ?_, rfl⟩
    show n.tmod 4294967296 = n % 4294967296
    have := Int.tmod_eq_emod (a := n) (b := 4294967296)
    split at this <;> omega

theorem radd_any (a n : Int) (w : World) (ha : U32 a) :
    Calls Try.prog 55 #[.int .u32 a, .int .i64 n] w fun e w' => e = .returned (.int .u32 (sAdd a n)) ∧ w = w' := by
  obtain ⟨h0, h1⟩ := ha
  go_enter Try.func55, Try.ntmps55
  go_wp2_with (go_at_call 56; refine (rmod_any _ _).mono ?_; rintro e w' ⟨rfl, rfl⟩)
  go_ret
  refine ⟨ret_int ?_, rfl⟩
  show wrap64 (a + n.tmod 4294967296) % 4294967296 = _
  have := Int.tmod_eq_emod (a := n) (b := 4294967296)
  unfold sAdd wrap64
  split at this <;> omega

theorem rahead_any (a b : Int) (w : World) (ha : U32 a) (hb : U32 b) :
    Calls Try.prog 51 #[.int .u32 a, .int .u32 b] w fun e w' => e = .returned (.int .i32 (sAhead a b)) ∧ w = w' := by
  obtain ⟨h0, h1⟩ := ha
  obtain ⟨h2, h3⟩ := hb
  go_enter Try.func51, Try.ntmps51
  go_wp2_with (go_at_call 56; refine (rmod_any _ _).mono ?_; rintro e w' ⟨rfl, rfl⟩)
  · go_ret
    exact ⟨ret_int (by unfold sAhead; omega), rfl⟩
  · go_ret
    exact ⟨ret_int (by unfold sAhead; omega), rfl⟩

theorem within_zero (x f : Int) : sWithin x f 0 = false := by unfold sWithin; simp; omega

end Go.Proofs.Ytncbkgcblmohoaa
