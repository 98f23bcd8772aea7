/-
  The contracts of package seq's calls on numbers (Add, Ahead, Less, Later, Within, Accept), and of the document's own answers (culvertref01) for them: each leaves the world as it was (but for new blocks where Accept makes its closure).
-/
import Derived.Test.YtonbgkdobfefmaaRows
import Derived.Test.YtonbgkdobfefmaaSeqPlain
import Derived.WalkKit
import Derived.WalkSpells
import Derived.WalkLawsBesides
import Derived.Lib.Hide
namespace Go.Proofs.Ytonbgkdobfefmaa
open Go.RowKit

theorem ret_int {k : IntKind} {a b : Int} (h : a = b) : Ending.returned (.int k a) = .returned (.int k b) := by rw [h]
theorem ret_bool {a b : Bool} (h : a = b) : Ending.returned (.bool a) = .returned (.bool b) := by rw [h]

theorem add_any (a n : Int) (w : World) :
    Calls Try.prog 11 #[.int .u32 a, .int .i64 n] w fun e w' => e = .returned (.int .u32 (sAdd a n)) ∧ w = w' := by
  go_enter Try.func11, Try.ntmps11
  go_wp2
  go_ret
  exact ⟨ret_int (by unfold sAdd; omega), rfl⟩

theorem ahead_any (a b : Int) (w : World) :
    Calls Try.prog 13 #[.int .u32 a, .int .u32 b] w fun e w' => e = .returned (.int .i32 (sAhead a b)) ∧ w = w' := by
  go_enter Try.func13, Try.ntmps13
  go_wp2
  go_ret
  exact ⟨ret_int (wrap32_ahead a b), rfl⟩

theorem less_any (a b : Int) (w : World) :
    Calls Try.prog 14 #[.int .u32 a, .int .u32 b] w fun e w' => e = .returned (.bool (sLess a b)) ∧ w = w' := by
  go_enter Try.func14, Try.ntmps14
  go_wp2_with (go_at_call 13; refine (ahead_any _ _ _).mono ?_; rintro e w' ⟨rfl, rfl⟩)
  go_ret
  exact ⟨rfl, rfl⟩

theorem later_any (a b : Int) (w : World) :
    Calls Try.prog 15 #[.int .u32 a, .int .u32 b] w fun e w' => e = .returned (.int .u32 (sLater a b)) ∧ w = w' := by
  by_cases h : sLess a b = true
  · have hl : sLater a b = b := by unfold sLater; unfold sLess at h; simp at h; rw [if_pos h]
    rw [hl]
    clear hl
    go_enter Try.func15, Try.ntmps15
    go_wp2_with (go_at_call 14; refine (less_any _ _ _).mono ?_; rintro e w' ⟨rfl, rfl⟩)
    go_ret
    exact ⟨rfl, rfl⟩
  · have hl : sLater a b = a := by unfold sLater; unfold sLess at h; simp at h; rw [if_neg (by omega)]
    rw [hl]
    clear hl
    have h' : sLess a b = false := by simpa using h
    clear h
    go_enter Try.func15, Try.ntmps15
    go_wp2_with (go_at_call 14; refine (less_any _ _ _).mono ?_; rintro e w' ⟨rfl, rfl⟩)
    go_ret
    exact ⟨rfl, rfl⟩

theorem within_any (x f l : Int) (w : World) :
    Calls Try.prog 16 #[.int .u32 x, .int .u32 f, .int .u32 l] w fun e w' => e = .returned (.bool (sWithin x f l)) ∧ w = w' := by
  go_enter Try.func16, Try.ntmps16
  go_wp2
  go_ret
  exact ⟨rfl, rfl⟩

theorem rmod_any (n : Int) (w : World) :
    Calls Try.prog 23 #[.int .i64 n] w fun e w' => e = .returned (.int .i64 (n % 4294967296)) ∧ w = w' := by
  go_enter Try.func23, Try.ntmps23
  go_wp2
  · go_ret
    have h : n.tmod 4294967296 < 0 := by assumption
    refine ⟨ret_int ?_, rfl⟩
    show wrap64 (n.tmod 4294967296 + 4294967296) = n % 4294967296
    have := Int.tmod_eq_emod (a := n) (b := 4294967296)
    unfold wrap64
    split at this <;> omega
  · go_ret
    have h : 0 ≤ n.tmod 4294967296 := by assumption
    refine ⟨ret_int ?_, rfl⟩
    show n.tmod 4294967296 = n % 4294967296
    have := Int.tmod_eq_emod (a := n) (b := 4294967296)
    split at this <;> omega

theorem radd_any (a n : Int) (w : World) (ha : U32 a) :
    Calls Try.prog 12 #[.int .u32 a, .int .i64 n] w fun e w' => e = .returned (.int .u32 (sAdd a n)) ∧ w = w' := by
  obtain ⟨h0, h1⟩ := ha
  go_enter Try.func12, Try.ntmps12
  go_wp2_with (go_at_call 23; refine (rmod_any _ _).mono ?_; rintro e w' ⟨rfl, rfl⟩)
  go_ret
  refine ⟨ret_int ?_, rfl⟩
  show wrap64 (a + n.tmod 4294967296) % 4294967296 = _
  have := Int.tmod_eq_emod (a := n) (b := 4294967296)
  unfold sAdd wrap64
  split at this <;> omega

theorem rahead_any (a b : Int) (w : World) (ha : U32 a) (hb : U32 b) :
    Calls Try.prog 9 #[.int .u32 a, .int .u32 b] w fun e w' => e = .returned (.int .i32 (sAhead a b)) ∧ w = w' := by
  obtain ⟨h0, h1⟩ := ha
  obtain ⟨h2, h3⟩ := hb
  go_enter Try.func9, Try.ntmps9
  go_wp2_with (go_at_call 23; refine (rmod_any _ _).mono ?_; rintro e w' ⟨rfl, rfl⟩)
  · go_ret
    exact ⟨ret_int (by unfold sAhead; omega), rfl⟩
  · go_ret
    exact ⟨ret_int (by unfold sAhead; omega), rfl⟩

theorem rwithin_any (x f l : Int) (w : World) (hx : U32 x) (hf : U32 f) (hl : U32 l) :
    Calls Try.prog 17 #[.int .u32 x, .int .u32 f, .int .u32 l] w fun e w' => e = .returned (.bool (sWithin x f l)) ∧ w = w' := by
  obtain ⟨h0, h1⟩ := hx
  obtain ⟨h2, h3⟩ := hf
  obtain ⟨h4, h5⟩ := hl
  go_enter Try.func17, Try.ntmps17
  go_wp2_with (go_at_call 23; refine (rmod_any _ _).mono ?_; rintro e w' ⟨rfl, rfl⟩)
  go_ret
  exact ⟨rfl, rfl⟩

theorem fits_any (x nx wd : Int) (p q : Addr) (w : World) (hp : w.cell? p = some (.int .u32 nx)) (hq : w.cell? q = some (.int .u32 wd)) :
    Calls Try.prog 25 #[.int .u32 x, .pointer (some p), .pointer (some q)] w fun e w' => e = .returned (.bool (sWithin x nx wd)) ∧ w = w' := by
  go_enter Try.func25, Try.ntmps25
  go_wp2_with (go_at_call 16; refine (within_any _ _ _ _).mono ?_; rintro e w' ⟨rfl, rfl⟩)
  go_ret
  exact ⟨rfl, rfl⟩

theorem accept_any (at_ n nx wd : Int) (w : World) (hn : n ≤ 9223372036854775807) :
    Calls Try.prog 21 #[.int .u32 at_, .int .i64 n, .int .u32 nx, .int .u32 wd] w fun e w' => e = .returned (.bool (sAccept at_ n nx wd)) ∧ Below w.heap.size w w' := by
  have hb : Below w.heap.size w ((w.alloc (.cells #[.int .u32 nx] 22)).alloc (.cells #[.int .u32 wd] 22)) := ((Below.refl _ _).alloc (Nat.le_refl _) _).alloc (by simp) _
  have Hb := Lib.hid hb
  clear hb
  by_cases h : n ≤ 0
  · by_cases he : at_ = nx
    · have hs : sAccept at_ n nx wd = true := by simp [sAccept, h, he]
      rw [hs]
      clear hs
      subst he
      go_enter Try.func21, Try.ntmps21
      go_wp2_with (go_at_call 25; refine (fits_any _ _ _ _ _ _ ?_ ?_).mono ?_)
      go_ret
      exact ⟨rfl, Hb.out⟩
    · have hs : sAccept at_ n nx wd = sWithin at_ nx wd := by simp [sAccept, h, he]
      have he' : (at_ == nx) = false := by simpa using he
      rw [hs]
      clear hs he
      go_enter Try.func21, Try.ntmps21
      go_wp2_with (go_at_call 25; refine (fits_any _ nx wd _ _ _ (by go_simp) (by go_simp)).mono ?_; rintro e w' ⟨rfl, rfl⟩)
      go_ret
      exact ⟨rfl, Hb.out⟩
  · have h' : 0 < n := by omega
    cases hw : sWithin at_ nx wd
    · have hs : sAccept at_ n nx wd = sWithin (sAdd at_ (n - 1)) nx wd := by simp [sAccept, h, hw]
      rw [hs]
      clear hs h
      go_enter Try.func21, Try.ntmps21
      go_wp2_with (first | (go_at_call 25; refine (fits_any _ nx wd _ _ _ (by go_simp) (by go_simp)).mono ?_; rintro e w' ⟨rfl, rfl⟩) | (go_at_call 11; refine (add_any _ _ _).mono ?_; rintro e w' ⟨rfl, rfl⟩))
      go_ret
      exact ⟨rfl, Hb.out⟩
    · have hs : sAccept at_ n nx wd = true := by simp [sAccept, h, hw]
      rw [hs]
      clear hs h
      go_enter Try.func21, Try.ntmps21
      go_wp2_with (first | (go_at_call 25; refine (fits_any _ nx wd _ _ _ (by go_simp) (by go_simp)).mono ?_; rintro e w' ⟨rfl, rfl⟩) | (go_at_call 11; refine (add_any _ _ _).mono ?_; rintro e w' ⟨rfl, rfl⟩))
      go_ret
      exact ⟨rfl, Hb.out⟩

theorem within_zero (x f : Int) : sWithin x f 0 = false := by unfold sWithin; simp; omega

theorem raccept_any (at_ n nx wd : Int) (w : World) (hn : n ≤ 9223372036854775807) (ha : U32 at_) (hx : U32 nx) (hw : U32 wd) :
    Calls Try.prog 22 #[.int .u32 at_, .int .i64 n, .int .u32 nx, .int .u32 wd] w fun e w' => e = .returned (.bool (sAccept at_ n nx wd)) ∧ w = w' := by
  by_cases h : n ≤ 0
  · by_cases he : at_ = nx
    · have hs : sAccept at_ n nx wd = true := by simp [sAccept, h, he]
      rw [hs]
      clear hs
      subst he
      go_enter Try.func22, Try.ntmps22
      go_wp2_with (go_at_call 17; refine (rwithin_any _ _ _ _ ha hx hw).mono ?_; rintro e w' ⟨rfl, rfl⟩)
      go_ret
      exact ⟨rfl, rfl⟩
    · have hs : sAccept at_ n nx wd = sWithin at_ nx wd := by simp [sAccept, h, he]
      have he' : (at_ == nx) = false := by simpa using he
      rw [hs]
      clear hs he
      by_cases hz : 0 < wd
      · go_enter Try.func22, Try.ntmps22
        go_wp2_with (go_at_call 17; refine (rwithin_any _ _ _ _ ha hx hw).mono ?_; rintro e w' ⟨rfl, rfl⟩)
        go_ret
        exact ⟨rfl, rfl⟩
      · have hz' : wd = 0 := by have := hw.1; omega
        subst hz'
        rw [within_zero]
        clear hz
        go_enter Try.func22, Try.ntmps22
        go_wp2_with (go_at_call 17; refine (rwithin_any _ _ _ _ ha hx hw).mono ?_; rintro e w' ⟨rfl, rfl⟩)
        go_ret
        exact ⟨rfl, rfl⟩
  · have h' : 0 < n := by omega
    by_cases hz : 0 < wd
    · cases hwi : sWithin at_ nx wd
      · have hs : sAccept at_ n nx wd = sWithin (sAdd at_ (n - 1)) nx wd := by simp [sAccept, h, hwi]
        rw [hs]
        clear hs h
        go_enter Try.func22, Try.ntmps22
        go_wp2_with (first | (go_at_call 17; refine (rwithin_any _ nx wd _ (by first | exact ha | exact sAdd_u32 _ _) hx hw).mono ?_; rintro e w' ⟨rfl, rfl⟩) | (go_at_call 12; refine (radd_any _ _ _ ha).mono ?_; rintro e w' ⟨rfl, rfl⟩))
        go_ret
        exact ⟨rfl, rfl⟩
      · have hs : sAccept at_ n nx wd = true := by simp [sAccept, h, hwi]
        rw [hs]
        clear hs h
        go_enter Try.func22, Try.ntmps22
        go_wp2_with (first | (go_at_call 17; refine (rwithin_any _ nx wd _ (by first | exact ha | exact sAdd_u32 _ _) hx hw).mono ?_; rintro e w' ⟨rfl, rfl⟩) | (go_at_call 12; refine (radd_any _ _ _ ha).mono ?_; rintro e w' ⟨rfl, rfl⟩))
        go_ret
        exact ⟨rfl, rfl⟩
    · have hz' : wd = 0 := by have := hw.1; omega
      subst hz'
      have hs : sAccept at_ n nx 0 = false := by simp [sAccept, h, within_zero]
      rw [hs]
      clear hs hz
      go_enter Try.func22, Try.ntmps22
      go_wp2_with (first | (go_at_call 17; refine (rwithin_any _ nx _ _ (by first | exact ha | exact sAdd_u32 _ _) hx hw).mono ?_; rintro e w' ⟨rfl, rfl⟩) | (go_at_call 12; refine (radd_any _ _ _ ha).mono ?_; rintro e w' ⟨rfl, rfl⟩))
      go_ret
      exact ⟨rfl, rfl⟩

end Go.Proofs.Ytonbgkdobfefmaa
