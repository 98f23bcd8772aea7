/-
  The contracts of culvertlaw05's sameBlocks and of culvertref05's WithScale.
-/
import Derived.Test.YtikfklbgncdbnaaBlk
import Derived.Test.YtikfklbgncdbnaaOptFind
namespace Go.Proofs.Ytikfklbgncdbnaa
set_option maxRecDepth 10000
open Go.RowKit

theorem sameblocks_any (A A' : Option Addr) (n c n' c' : Nat) (l l' : List (Int × Int)) (w : World) (hn : n ≤ maxLen) (hr : RdK w A n l) (hr' : RdK w A' n' l') :
    Calls Try.prog 27 #[.slice A n c, .slice A' n' c'] w (OptBool (decide (l = l')) w) := by
  unfold maxLen at hn
  by_cases hnn : n = n'
  · subst hnn
    have Hl := Lib.hid hr.len
    have Hl' := Lib.hid hr'.len
    have Hr := Lib.hid hr
    have Hr' := Lib.hid hr'
    clear hr hr'
    go_enter Try.func27, Try.ntmps27
    go_wp2_with fail
    go_loopg [13] n (fun gk i wr => ∃ j : Nat, Hid (gk + j = n) ∧ j ≤ n ∧ i = .int .i64 (j : Int) ∧ Hid (l.take j = l'.take j) ∧ Below w.heap.size w wr)
    case atStart => exact ⟨0, rfl, Nat.zero_le _, rfl, rfl, Below.refl _ _⟩
    case round =>
      obtain ⟨j, hgk, hj, rfl, heq, hb⟩ := hrel
      by_cases hjn : j < n
      · obtain ⟨b1, p1, hrun1, hb1, hk1, hd1, -⟩ := (Hr.out.below hb).index_o (c := c) hjn
        obtain ⟨b2, p2, hrun2, hb2, hk2, hd2, -⟩ := (Hr'.out.below hb).index_r (c := c') hjn
        obtain ⟨l1, el1⟩ : ∃ v, l.getD j (0, 0) = v := ⟨_, rfl⟩
        obtain ⟨l2, el2⟩ : ∃ v, l'.getD j (0, 0) = v := ⟨_, rfl⟩
        rw [el1] at hk1 hd1
        rw [el2] at hk2 hd2
        obtain ⟨x1, y1⟩ := l1
        obtain ⟨x2, y2⟩ := l2
        have El1 := Lib.hid el1
        have El2 := Lib.hid el2
        clear el1 el2
        simp only at hk1 hd1 hk2 hd2
        by_cases he : x1 = x2 ∧ y1 = y2
        · obtain ⟨rfl, rfl⟩ := he
          go_wp2_with fail
          go_quiet (fail)
          go_wp2_with fail
          go_roundg (gk - 1)
          case measure => have := hgk.out; omega
          case rel => exact ⟨j + 1, by have := hgk.out; show gk - 1 + (j + 1) = _; omega, by omega, by go_num, Lib.hid (by rw [take_snoc_ l j (0, 0) (by rw [Hl.out]; exact hjn), take_snoc_ l' j (0, 0) (by rw [Hl'.out]; exact hjn), heq.out, El1.out, El2.out]), below_drewN_ hb _⟩
        · have hfin : decide (l = l') = false := by
            have : l ≠ l' := getD_ne (j := j) (d := (0, 0)) (by rw [El1.out, El2.out]; simpa using he)
            simpa using this
          have Hfin := Lib.hid hfin
          by_cases hx : x1 = x2
          · have hy : (y1 == y2) = false := by simp; exact fun e => he ⟨hx, e⟩
            have hx' : (x1 == x2) = true := by simpa using hx
            clear hfin he
            subst hx
            go_wp2_with fail
            go_quiet (fail)
            go_wp2_with fail
            go_ret
            exact ⟨by rw [Hfin.out]; rfl, below_drewN_ hb _⟩
          · have hx' : (x1 == x2) = false := by simpa using hx
            clear hfin he hx
            go_wp2_with fail
            go_quiet (fail)
            go_wp2_with fail
            go_ret
            exact ⟨by rw [Hfin.out]; rfl, below_drewN_ hb _⟩
      · obtain rfl : j = n := by omega
        have hfin : decide (l = l') = true := by
          have h := heq.out
          rw [List.take_of_length_le (by rw [Hl.out]; omega), List.take_of_length_le (by rw [Hl'.out]; omega)] at h
          simpa using h
        have Hfin := Lib.hid hfin
        clear hfin
        go_wp2_with fail
        go_ret
        exact ⟨by rw [Hfin.out]; rfl, hb⟩
  · have hfin : decide (l = l') = false := by
      have : l ≠ l' := fun e => hnn (by rw [← hr.len, ← hr'.len, e])
      simpa using this
    rw [hfin]
    have h1 : ((n : Int) == (n' : Int)) = false := by simp; omega
    have h2 : ((n : Int) != (n' : Int)) = true := by simp; omega
    clear hr hr' hfin
    go_enter Try.func27, Try.ntmps27
    go_wp2_with fail
    go_ret
    exact ⟨rfl, Below.refl _ _⟩

/-- An option told: its kind, and bytes in a row of the call's own. -/
def OptIs (kd : Int) (m : Nat) (D : List Int) (w : World) (e : Ending) (w' : World) : Prop :=
  ∃ A c, e = .returned (.agg #[.int .u8 kd, .slice A m c]) ∧ OwnB w' w.heap.size A m c D ∧ Below w.heap.size w w'
def scaleOf (n : Int) : Int := if n < 0 then 0 else if 14 < n then 14 else n
theorem scaleOf_bd (n : Int) : 0 ≤ scaleOf n ∧ scaleOf n ≤ 14 := by unfold scaleOf; split <;> (try split) <;> omega

theorem rwithscale_any (n : Int) (w : World) :
    Calls Try.prog 35 #[.int .i64 n] w (OptIs 3 1 [scaleOf n] w) := by
  have Hfin := Lib.hid (fun (x : Int) (hx : scaleOf n = x) => show ∃ A c, Ending.returned (.agg #[.int .u8 3, .slice (some ⟨w.heap.size + 1, 0, none⟩) 1 1]) = .returned (.agg #[.int .u8 3, .slice A 1 c]) ∧ OwnB ((w.alloc (.cells #[.int .u8 3, .slice (some ⟨w.heap.size + 1, 0, none⟩) 1 1] 31)).alloc (.cells #[.int .u8 x] 5)) w.heap.size A 1 c [scaleOf n] ∧ Below w.heap.size w ((w.alloc (.cells #[.int .u8 3, .slice (some ⟨w.heap.size + 1, 0, none⟩) 1 1] 31)).alloc (.cells #[.int .u8 x] 5)) from by
    rw [hx]
    have hblk := heap_alloc_new (w.alloc (.cells #[.int .u8 3, .slice (some ⟨w.heap.size + 1, 0, none⟩) 1 1] 31)) (.cells #[.int .u8 x] 5)
    refine ⟨some ⟨w.heap.size + 1, 0, none⟩, 1, rfl, ⟨rfl, .inr ⟨w.heap.size + 1, 1, #[.int .u8 x], rfl, by omega, by simpa using hblk, by omega, by simp [maxLen], rfl, rfl⟩⟩, ((Below.refl _ _).alloc (Nat.le_refl _) _).alloc (by simp) _⟩)
  by_cases h1 : n < 0
  · have h2 : decide (n < 0) = true := by simpa using h1
    have He := Lib.hid (show scaleOf n = 0 by unfold scaleOf; rw [if_pos h1])
    go_enter Try.func35, Try.ntmps35
    go_wp2_with fail
    refine bodyPost_ret (v := .agg #[.int .u8 3, .slice (some ⟨w.heap.size + 1, 0, none⟩) 1 1]) (by simp [results, Try.results35, go_sem]) rfl ?_
    exact Hfin.out 0 He.out
  · have h1' : 0 ≤ n := by omega
    by_cases h3 : 14 < n
    · have He := Lib.hid (show scaleOf n = 14 by unfold scaleOf; rw [if_neg h1, if_pos h3])
      go_enter Try.func35, Try.ntmps35
      go_wp2_with fail
      refine bodyPost_ret (v := .agg #[.int .u8 3, .slice (some ⟨w.heap.size + 1, 0, none⟩) 1 1]) (by simp [results, Try.results35, go_sem]) rfl ?_
      exact Hfin.out 14 He.out
    · have h3' : n ≤ 14 := by omega
      have He := Lib.hid (show scaleOf n = n by unfold scaleOf; rw [if_neg h1, if_neg h3])
      have hw8 : IntKind.u8.wrap n = n := by simp [IntKind.wrap, IntKind.bits, IntKind.signed]; omega
      go_enter Try.func35, Try.ntmps35
      go_wp2_with fail
      refine bodyPost_ret (v := .agg #[.int .u8 3, .slice (some ⟨w.heap.size + 1, 0, none⟩) 1 1]) (by simp [results, Try.results35, go_sem]) rfl ?_
      exact Hfin.out n He.out
end Go.Proofs.Ytikfklbgncdbnaa
