/-
  The twelve bytes of the pseudo header, in a row of the call's own: the document's Pseudo (culvertref02); package sum's. (For the stages behind sum's: in place of SumPseudo, whose names clash with wire's.)
-/
import Derived.Test.YtoblllgefmajiaaSumAny
import Derived.Test.YtoblllgefmajiaaOwnRow
namespace Go.Proofs.Ytoblllgefmajiaa
set_option maxRecDepth 10000
open Go.RowKit

def pseudoL (s d p n : Int) : List Int :=
  [s / 16777216 % 256, s / 65536 % 256, s / 256 % 256, s % 256, d / 16777216 % 256, d / 65536 % 256, d / 256 % 256, d % 256, 0, p, n / 256 % 256, n % 256]
theorem pseudo_byte (s d p n : Int) (hp : 0 ≤ p ∧ p < 256) : ∀ x ∈ pseudoL s d p n, 0 ≤ x ∧ x < 256 := by
  intro x hx
  simp only [pseudoL, List.mem_cons, List.mem_nil_iff, or_false] at hx
  omega
theorem pseudo_any (s d p n : Int) (w : World) (_hp : 0 ≤ p ∧ p < 256) :
    Calls Try.prog 27 #[.int .u32 s, .int .u32 d, .int .u8 p, .int .i64 n] w (RowIs 12 (pseudoL s d p n) w) := by
  go_enter Try.func27, Try.ntmps27
  go_wp2_with fail
  go_ret
  refine ⟨_, _, rfl, by omega, by simp [maxLen], ⟨rfl, .inr ⟨_, 12, _, rfl, Nat.le_refl _, heap_alloc_new w _, by omega, by simp [maxLen], rfl, rfl⟩⟩, (Below.refl _ _).alloc (Nat.le_refl _) _⟩

set_option maxHeartbeats 2000000 in
theorem rpseudo_any (s d p n : Int) (w : World) (hp : 0 ≤ p ∧ p < 256) :
    Calls Try.prog 87 #[.int .u32 s, .int .u32 d, .int .u8 p, .int .i64 n] w (RowIs 12 (pseudoL s d p n) w) := by
  go_enter Try.func87, Try.ntmps87
  go_wp2_with fail
  go_loopg [9, 10] 8 (fun gk b i wr => ∃ k A c, Hid (gk + k = 8) ∧ k ≤ 8 ∧ b = .slice A k c ∧ i = .int .i64 (k : Int) ∧ OwnB wr w.heap.size A k c ((pseudoL s d p n).take k) ∧ Below w.heap.size w wr)
  case atStart => exact ⟨0, none, 0, rfl, by omega, rfl, rfl, OwnB.nil _ _, Below.refl _ _⟩
  case round =>
    obtain ⟨k, A', c', hgk, hk, rfl, rfl, hown, hbel⟩ := hrel
    obtain rfl | rfl | rfl | rfl | rfl | rfl | rfl | rfl | rfl : k = 0 ∨ k = 1 ∨ k = 2 ∨ k = 3 ∨ k = 4 ∨ k = 5 ∨ k = 6 ∨ k = 7 ∨ k = 8 := by omega
    ·
      have Hrd := Lib.hid (Rd.one wr (s / 16777216 % 256) (by omega))
      have Hown := Lib.hid (hown.alloc (.cells #[.int .u8 (s / 16777216 % 256)] 5))
      have hbs := hbel.size
      have hbel1 := hbel.alloc hbs (.cells #[.int .u8 (s / 16777216 % 256)] 5)
      go_wp2_with (refine wpList_app rfl (.tmp 20) (.tmp 28) rfl w.heap.size A' (some ⟨wr.heap.size, 0, none⟩) 0 c' 1 1 _ [s / 16777216 % 256] rfl rfl Hown.out Hrd.out (by omega) (by simp; omega) ?_; intro A2 c2 w2 hown2 _ hbel2 _)
      go_roundg (gk - 1)
      case measure => have := hgk.out; omega
      case rel => exact ⟨0 + 1, A2, c2, by have := hgk.out; show gk - 1 + (0 + 1) = _; omega, by omega, rfl, rfl, hown2, hbel1.trans hbel2⟩
    ·
      have Hrd := Lib.hid (Rd.one wr (s / 65536 % 256) (by omega))
      have Hown := Lib.hid (hown.alloc (.cells #[.int .u8 (s / 65536 % 256)] 5))
      have hbs := hbel.size
      have hbel1 := hbel.alloc hbs (.cells #[.int .u8 (s / 65536 % 256)] 5)
      go_wp2_with (refine wpList_app rfl (.tmp 20) (.tmp 28) rfl w.heap.size A' (some ⟨wr.heap.size, 0, none⟩) 1 c' 1 1 _ [s / 65536 % 256] rfl rfl Hown.out Hrd.out (by omega) (by simp; omega) ?_; intro A2 c2 w2 hown2 _ hbel2 _)
      go_roundg (gk - 1)
      case measure => have := hgk.out; omega
      case rel => exact ⟨1 + 1, A2, c2, by have := hgk.out; show gk - 1 + (1 + 1) = _; omega, by omega, rfl, rfl, hown2, hbel1.trans hbel2⟩
    ·
      have Hrd := Lib.hid (Rd.one wr (s / 256 % 256) (by omega))
      have Hown := Lib.hid (hown.alloc (.cells #[.int .u8 (s / 256 % 256)] 5))
      have hbs := hbel.size
      have hbel1 := hbel.alloc hbs (.cells #[.int .u8 (s / 256 % 256)] 5)
      go_wp2_with (refine wpList_app rfl (.tmp 20) (.tmp 28) rfl w.heap.size A' (some ⟨wr.heap.size, 0, none⟩) 2 c' 1 1 _ [s / 256 % 256] rfl rfl Hown.out Hrd.out (by omega) (by simp; omega) ?_; intro A2 c2 w2 hown2 _ hbel2 _)
      go_roundg (gk - 1)
      case measure => have := hgk.out; omega
      case rel => exact ⟨2 + 1, A2, c2, by have := hgk.out; show gk - 1 + (2 + 1) = _; omega, by omega, rfl, rfl, hown2, hbel1.trans hbel2⟩
    ·
      have Hrd := Lib.hid (Rd.one wr (s % 256) (by omega))
      have Hown := Lib.hid (hown.alloc (.cells #[.int .u8 (s % 256)] 5))
      have hbs := hbel.size
      have hbel1 := hbel.alloc hbs (.cells #[.int .u8 (s % 256)] 5)
      go_wp2_with (refine wpList_app rfl (.tmp 20) (.tmp 28) rfl w.heap.size A' (some ⟨wr.heap.size, 0, none⟩) 3 c' 1 1 _ [s % 256] rfl rfl Hown.out Hrd.out (by omega) (by simp; omega) ?_; intro A2 c2 w2 hown2 _ hbel2 _)
      go_roundg (gk - 1)
      case measure => have := hgk.out; omega
      case rel => exact ⟨3 + 1, A2, c2, by have := hgk.out; show gk - 1 + (3 + 1) = _; omega, by omega, rfl, rfl, hown2, hbel1.trans hbel2⟩
    ·
      have Hrd := Lib.hid (Rd.one wr (d / 16777216 % 256) (by omega))
      have Hown := Lib.hid (hown.alloc (.cells #[.int .u8 (d / 16777216 % 256)] 5))
      have hbs := hbel.size
      have hbel1 := hbel.alloc hbs (.cells #[.int .u8 (d / 16777216 % 256)] 5)
      go_wp2_with (refine wpList_app rfl (.tmp 20) (.tmp 28) rfl w.heap.size A' (some ⟨wr.heap.size, 0, none⟩) 4 c' 1 1 _ [d / 16777216 % 256] rfl rfl Hown.out Hrd.out (by omega) (by simp; omega) ?_; intro A2 c2 w2 hown2 _ hbel2 _)
      go_roundg (gk - 1)
      case measure => have := hgk.out; omega
      case rel => exact ⟨4 + 1, A2, c2, by have := hgk.out; show gk - 1 + (4 + 1) = _; omega, by omega, rfl, rfl, hown2, hbel1.trans hbel2⟩
    ·
      have Hrd := Lib.hid (Rd.one wr (d / 65536 % 256) (by omega))
      have Hown := Lib.hid (hown.alloc (.cells #[.int .u8 (d / 65536 % 256)] 5))
      have hbs := hbel.size
      have hbel1 := hbel.alloc hbs (.cells #[.int .u8 (d / 65536 % 256)] 5)
      go_wp2_with (refine wpList_app rfl (.tmp 20) (.tmp 28) rfl w.heap.size A' (some ⟨wr.heap.size, 0, none⟩) 5 c' 1 1 _ [d / 65536 % 256] rfl rfl Hown.out Hrd.out (by omega) (by simp; omega) ?_; intro A2 c2 w2 hown2 _ hbel2 _)
      go_roundg (gk - 1)
      case measure => have := hgk.out; omega
      case rel => exact ⟨5 + 1, A2, c2, by have := hgk.out; show gk - 1 + (5 + 1) = _; omega, by omega, rfl, rfl, hown2, hbel1.trans hbel2⟩
    ·
      have Hrd := Lib.hid (Rd.one wr (d / 256 % 256) (by omega))
      have Hown := Lib.hid (hown.alloc (.cells #[.int .u8 (d / 256 % 256)] 5))
      have hbs := hbel.size
      have hbel1 := hbel.alloc hbs (.cells #[.int .u8 (d / 256 % 256)] 5)
      go_wp2_with (refine wpList_app rfl (.tmp 20) (.tmp 28) rfl w.heap.size A' (some ⟨wr.heap.size, 0, none⟩) 6 c' 1 1 _ [d / 256 % 256] rfl rfl Hown.out Hrd.out (by omega) (by simp; omega) ?_; intro A2 c2 w2 hown2 _ hbel2 _)
      go_roundg (gk - 1)
      case measure => have := hgk.out; omega
      case rel => exact ⟨6 + 1, A2, c2, by have := hgk.out; show gk - 1 + (6 + 1) = _; omega, by omega, rfl, rfl, hown2, hbel1.trans hbel2⟩
    ·
      have Hrd := Lib.hid (Rd.one wr (d % 256) (by omega))
      have Hown := Lib.hid (hown.alloc (.cells #[.int .u8 (d % 256)] 5))
      have hbs := hbel.size
      have hbel1 := hbel.alloc hbs (.cells #[.int .u8 (d % 256)] 5)
      go_wp2_with (refine wpList_app rfl (.tmp 20) (.tmp 28) rfl w.heap.size A' (some ⟨wr.heap.size, 0, none⟩) 7 c' 1 1 _ [d % 256] rfl rfl Hown.out Hrd.out (by omega) (by simp; omega) ?_; intro A2 c2 w2 hown2 _ hbel2 _)
      go_roundg (gk - 1)
      case measure => have := hgk.out; omega
      case rel => exact ⟨7 + 1, A2, c2, by have := hgk.out; show gk - 1 + (7 + 1) = _; omega, by omega, rfl, rfl, hown2, hbel1.trans hbel2⟩
    · have hl : ∀ x ∈ [0, p, n / 256 % 256, n % 256], 0 ≤ x ∧ x < 256 := by
        intro x hx
        simp only [List.mem_cons, List.mem_nil_iff, or_false] at hx
        omega
      have hr4 := Rd.const_ wr _ rfl [0, p, n / 256 % 256, n % 256] 5 (0, 0) hl
      have Hr4 := Lib.hid hr4
      have Hown := Lib.hid (hown.alloc (.cells (([0, p, n / 256 % 256, n % 256] : List Int).map (Value.int .u8)).toArray 5))
      have hbs := hbel.size
      have hbel1 := hbel.alloc hbs (.cells (([0, p, n / 256 % 256, n % 256] : List Int).map (Value.int .u8)).toArray 5)
      clear hr4
      go_wp2_with (refine wpList_app rfl (.tmp 30) (.tmp 37) rfl w.heap.size A' (some ⟨wr.heap.size, 0, none⟩) 8 c' 4 4 _ [0, p, n / 256 % 256, n % 256] rfl rfl Hown.out Hr4.out (by omega) (by simp; omega) ?_; intro A2 c2 w2 hown2 _ hbel2 _)
      go_ret
      exact ⟨A2, c2, rfl, hown2.cap, hown2.capMax, hown2, hbel1.trans hbel2⟩
end Go.Proofs.Ytoblllgefmajiaa
