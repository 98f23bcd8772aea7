/-
  The contracts of cmp.Compare and cmp.Or.
-/
import Derived.Test.YtknmpfdmjfbpdaaRowInt
import Derived.Deep.CutRange
import Derived.RegionTactic
import Derived.BigRegion
namespace Go.Proofs.Ytknmpfdmjfbpdaa
set_option maxRecDepth 10000
open Go.RowKit
set_option linter.unusedSimpArgs false
set_option linter.unusedVariables false

def two (a b : Int) (z : Int) : Int := if a < b then -1 else if b < a then 1 else z
/-- An answer, and nothing has turned. -/
def JustIs (v : Value) (w : World) (e : Ending) (w' : World) : Prop := e = .returned v ∧ w = w'
theorem isnan_u8 (a : Int) (w : World) : Calls Try.prog 36 #[.int .u8 a] w (JustIs (.bool false) w) := by
  go_enter Try.func36, Try.ntmps36
  go_wp2_with fail
  go_ret
  exact ⟨rfl, rfl⟩
theorem cmp_u8 (a b : Int) (w : World) : Calls Try.prog 32 #[.int .u8 a, .int .u8 b] w (JustIs (.int .i64 (two a b 0)) w) := by
  have H1 := Lib.hid (isnan_u8 a)
  have H2 := Lib.hid (isnan_u8 b)
  unfold two
  by_cases h1 : a < b
  · rw [if_pos h1]
    go_enter Try.func32, Try.ntmps32
    go_wp2_with fail
    refine (H1.out _).mono ?_
    rintro e w1 ⟨rfl, rfl⟩
    go_wp2_with fail
    refine (H2.out _).mono ?_
    rintro e w1 ⟨rfl, rfl⟩
    go_wp2_with fail
    go_ret
    exact ⟨rfl, rfl⟩
  · rw [if_neg h1]
    by_cases h2 : b < a
    · rw [if_pos h2]
      go_enter Try.func32, Try.ntmps32
      go_wp2_with fail
      refine (H1.out _).mono ?_
      rintro e w1 ⟨rfl, rfl⟩
      go_wp2_with fail
      refine (H2.out _).mono ?_
      rintro e w1 ⟨rfl, rfl⟩
      go_wp2_with fail
      go_ret
      exact ⟨rfl, rfl⟩
    · rw [if_neg h2]
      go_enter Try.func32, Try.ntmps32
      go_wp2_with fail
      refine (H1.out _).mono ?_
      rintro e w1 ⟨rfl, rfl⟩
      go_wp2_with fail
      refine (H2.out _).mono ?_
      rintro e w1 ⟨rfl, rfl⟩
      go_wp2_with fail
      go_ret
      exact ⟨rfl, rfl⟩
theorem isnan_u16 (a : Int) (w : World) : Calls Try.prog 37 #[.int .u16 a] w (JustIs (.bool false) w) := by
  go_enter Try.func37, Try.ntmps37
  go_wp2_with fail
  go_ret
  exact ⟨rfl, rfl⟩
theorem cmp_u16 (a b : Int) (w : World) : Calls Try.prog 33 #[.int .u16 a, .int .u16 b] w (JustIs (.int .i64 (two a b 0)) w) := by
  have H1 := Lib.hid (isnan_u16 a)
  have H2 := Lib.hid (isnan_u16 b)
  unfold two
  by_cases h1 : a < b
  · rw [if_pos h1]
    go_enter Try.func33, Try.ntmps33
    go_wp2_with fail
    refine (H1.out _).mono ?_
    rintro e w1 ⟨rfl, rfl⟩
    go_wp2_with fail
    refine (H2.out _).mono ?_
    rintro e w1 ⟨rfl, rfl⟩
    go_wp2_with fail
    go_ret
    exact ⟨rfl, rfl⟩
  · rw [if_neg h1]
    by_cases h2 : b < a
    · rw [if_pos h2]
      go_enter Try.func33, Try.ntmps33
      go_wp2_with fail
      refine (H1.out _).mono ?_
      rintro e w1 ⟨rfl, rfl⟩
      go_wp2_with fail
      refine (H2.out _).mono ?_
      rintro e w1 ⟨rfl, rfl⟩
      go_wp2_with fail
      go_ret
      exact ⟨rfl, rfl⟩
    · rw [if_neg h2]
      go_enter Try.func33, Try.ntmps33
      go_wp2_with fail
      refine (H1.out _).mono ?_
      rintro e w1 ⟨rfl, rfl⟩
      go_wp2_with fail
      refine (H2.out _).mono ?_
      rintro e w1 ⟨rfl, rfl⟩
      go_wp2_with fail
      go_ret
      exact ⟨rfl, rfl⟩
/-- The first that is not 0. -/
def orL : List Int → Int
  | [] => 0
  | x :: l => if x = 0 then orL l else x
theorem orL_drop (l : List Int) (j : Nat) (hj : j < l.length) : orL (l.drop j) = if l.getD j 0 = 0 then orL (l.drop (j + 1)) else l.getD j 0 := by
  rw [List.drop_eq_getElem_cons hj, show l.getD j 0 = l[j] by simp [List.getD, List.getElem?_eq_getElem hj]]
  rfl
theorem or_any (A : Option Addr) (n c : Nat) (l : List Int) (w : World) (hn : n ≤ 1000000) (hr : RdI w A n l) :
    Calls Try.prog 31 #[.slice A n c] w (JustIs (.int .i64 (orL l)) w) := by
  have Hl := Lib.hid hr.len
  have Hr := Lib.hid hr
  clear hr
  go_enter Try.func31, Try.ntmps31
  go_wp2_with fail
  go_loopg [5, 8] n (fun gk x i wr => ∃ j : Nat, Hid (gk + j = n) ∧ j ≤ n ∧ i = .int .i64 (j : Int) ∧ Hid (orL (l.drop j) = orL l) ∧ w = wr)
  case atStart => exact ⟨0, rfl, Nat.zero_le _, rfl, Lib.hid rfl, rfl⟩
  case round =>
    obtain ⟨j, hgk, hj, rfl, hno, rfl⟩ := hrel
    by_cases hjn : j < n
    · obtain ⟨p, hi, hc, hp⟩ := Hr.out.index (c := c) hjn
      have hd := orL_drop l j (by rw [Hl.out]; exact hjn)
      obtain ⟨y, ey⟩ : ∃ y, l.getD j 0 = y := ⟨_, rfl⟩
      rw [ey] at hc hd
      by_cases hv : y = 0
      · subst hv
        have Hd := Lib.hid (show orL (l.drop (j + 1)) = orL l by rw [← hno.out, hd, if_pos rfl])
        clear hd ey
        go_wp2_with fail
        go_roundg (gk - 1)
        case measure => have := hgk.out; omega
        case rel => exact ⟨j + 1, by have := hgk.out; show gk - 1 + (j + 1) = _; omega, by omega, by go_num, Hd, rfl⟩
      · have hv2 : (y != 0) = true := by simpa using hv
        have Hd := Lib.hid (show orL l = y by rw [← hno.out, hd, if_neg hv])
        clear hd ey hv
        go_wp2_with fail
        go_ret
        exact ⟨by rw [Hd.out]; rfl, rfl⟩
    · obtain rfl : n = j := by omega
      have Hno := Lib.hid (show orL l = 0 by rw [← hno.out, List.drop_of_length_le (by rw [Hl.out]; omega)]; rfl)
      go_wp2_with fail
      go_ret
      exact ⟨by rw [Hno.out]; rfl, rfl⟩
end Go.Proofs.Ytknmpfdmjfbpdaa
