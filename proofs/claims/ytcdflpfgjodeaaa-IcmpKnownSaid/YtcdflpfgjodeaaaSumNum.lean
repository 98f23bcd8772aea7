/-
  The contracts of package sum's calls on numbers (add, Word, Long), and of the document's own answers (culvertref02) for them: each leaves the world as it was.
-/
import Derived.Test.YtcdflpfgjodeaaaRd
import Derived.Test.YtcdflpfgjodeaaaSumPlain
import Derived.Test.YtcdflpfgjodeaaaBits16
namespace Go.Proofs.Ytcdflpfgjodeaaa
set_option maxRecDepth 10000
open Go.RowKit

theorem add_any (a b : Int) (w : World) (ha : U16 a) (hb : U16 b) :
    Calls Try.prog 42 #[.int .u16 a, .int .u16 b] w fun e w' => e = .returned (.int .u16 (add16 a b)) ∧ w = w' := by
  obtain ⟨ha0, ha1⟩ := ha
  obtain ⟨hb0, hb1⟩ := hb
  by_cases h : 65535 < a + b
  · go_enter Try.func42, Try.ntmps42
    go_wp2
    go_ret
    exact ⟨ret_int (by unfold add16; rw [if_pos h]; (try rw [wrap_u16]); (try rw [wrap_u16]); omega), rfl⟩
  · go_enter Try.func42, Try.ntmps42
    go_wp2
    go_ret
    exact ⟨ret_int (by unfold add16; rw [if_neg (by omega)]), rfl⟩

theorem radd_any (a b : Int) (w : World) (ha : U16 a) (hb : U16 b) :
    Calls Try.prog 51 #[.int .u16 a, .int .u16 b] w fun e w' => e = .returned (.int .u16 (add16 a b)) ∧ w = w' := by
  obtain ⟨ha0, ha1⟩ := ha
  obtain ⟨hb0, hb1⟩ := hb
  by_cases h : 65535 < a + b
  · go_enter Try.func51, Try.ntmps51
    go_wp2
    go_ret
    exact ⟨ret_int (by unfold add16; rw [if_pos h]), rfl⟩
  · go_enter Try.func51, Try.ntmps51
    go_wp2
    go_ret
    exact ⟨ret_int (by unfold add16; rw [if_neg (by omega)]), rfl⟩

theorem word_any (f a b : Int) (w : World) (hf : U16 f) (ha : U16 a) (hb : U16 b) :
    Calls Try.prog 24 #[.int .u16 f, .int .u16 a, .int .u16 b] w fun e w' => e = .returned (.int .u16 (wordF f a b)) ∧ w = w' := by
  have h1 : U16 (65535 - f) := by unfold U16 at *; omega
  have h2 : U16 (65535 - a) := by unfold U16 at *; omega
  have h3 := add_bd _ _ h1 h2
  have h4 := add_bd _ _ h3 hb
  have n1 := not16 f hf
  have n2 := not16 a ha
  have n3 := not16 _ h4
  have N3 := Lib.hid n3
  clear n3
  go_enter Try.func24, Try.ntmps24
  go_wp2_with fail
  refine (add_any _ _ _ h1 h2).mono ?_
  rintro e w' ⟨rfl, rfl⟩
  go_wp2_with fail
  refine (add_any _ _ _ h3 hb).mono ?_
  rintro e w' ⟨rfl, rfl⟩
  clear n1 n2
  go_wp2_with fail
  go_ret
  exact ⟨ret_int N3.out, rfl⟩

def U32 (a : Int) : Prop := 0 ≤ a ∧ a < 4294967296
theorem hi_u16 {a : Int} (h : U32 a) : U16 (a / 65536) := by unfold U32 at h; unfold U16; omega
theorem lo_u16 (a : Int) : U16 (a % 65536) := by unfold U16; omega

theorem like_any (a b : Int) (w : World) :
    Calls Try.prog 23 #[.int .u16 a, .int .u16 b] w fun e w' => e = .returned (.bool (likeB a b)) ∧ w = w' := by
  by_cases h1 : a = b
  · have hl : likeB a b = true := by unfold likeB; simp [h1]
    rw [hl]
    subst h1
    clear hl
    go_enter Try.func23, Try.ntmps23
    go_wp2_with fail
    go_ret
    exact ⟨rfl, rfl⟩
  · have hl : likeB a b = ((decide (a = 0) && decide (b = 65535)) || (decide (a = 65535) && decide (b = 0))) := by unfold likeB; simp [h1]
    have h2 : (a == b) = false := by simpa using h1
    rw [hl]
    clear hl h1
    by_cases h3 : a = 0
    · subst h3
      by_cases h4 : b = 65535
      · subst h4
        go_enter Try.func23, Try.ntmps23
        go_wp2_with fail
        go_ret
        exact ⟨rfl, rfl⟩
      · have h5 : (b == 65535) = false := by simpa using h4
        go_enter Try.func23, Try.ntmps23
        go_wp2_with fail
        go_ret
        exact ⟨ret_bool (by simp [h4]), rfl⟩
    · have h6 : (a == 0) = false := by simpa using h3
      by_cases h4 : a = 65535
      · subst h4
        by_cases h5 : b = 0
        · subst h5
          go_enter Try.func23, Try.ntmps23
          go_wp2_with fail
          go_ret
          exact ⟨rfl, rfl⟩
        · have h5 : (b == 0) = false := by simpa using h5
          go_enter Try.func23, Try.ntmps23
          go_wp2_with fail
          go_ret
          exact ⟨ret_bool (by simpa using h5), rfl⟩
      · have h5 : (a == 65535) = false := by simpa using h4
        go_enter Try.func23, Try.ntmps23
        go_wp2_with fail
        go_ret
        exact ⟨ret_bool (by simp [h3, h4]), rfl⟩
theorem word_told (f a b x : Int) (w : World) (hf : U16 f) (ha : U16 a) (hb : U16 b) (hx : wordF f a b = x) :
    Calls Try.prog 24 #[.int .u16 f, .int .u16 a, .int .u16 b] w fun e w' => e = .returned (.int .u16 x) ∧ w = w' := by subst hx; exact word_any f a b w hf ha hb


end Go.Proofs.Ytcdflpfgjodeaaa
