/-
  The contracts of culvertref06's lay (two or four bytes), num, whole.
-/
import Derived.Test.YtoblllgefmajiaaPseudo
import Derived.Test.YtoblllgefmajiaaBut
import Derived.Test.YtoblllgefmajiaaOptFind
import Derived.IntWalk
namespace Go.Proofs.Ytoblllgefmajiaa
set_option maxRecDepth 10000
open Go.RowKit

/-- One byte's address in a row of the call's own. -/
theorem own_index {w : World} {B g n c : Nat} {l : List Int} (h : OwnB w B (some ⟨g, 0, none⟩) n c l) (j : Nat) (ji : Int) (hj : j < n) (he : ji = (j : Int)) :
    (∀ W : World, (Instr.indexAt 25 (.slice (some ⟨g, 0, none⟩) n c) (.int .i64 ji)).run Try.prog W = .ok (.pointer (some ⟨g, j, none⟩)) W) ∧ w.cell? ⟨g, j, none⟩ = some (.int .u8 (l.getD j 0)) ∧ w.frozen? ⟨g, j, none⟩ = false := by
  subst he
  have h0 : (0 : Int) ≤ (j : Int) := by omega
  have h1 : (j : Int) < (n : Int) := by omega
  have h' : w.ownsRow B 5 1 (.slice (some ⟨g, 0, none⟩) n c) n (l.map (Value.int .u8)) := h
  exact ⟨fun W => by go_simp, h.cell j hj, World.ownsRow.frozenAt h' j⟩

/-- A number's bytes are laid over a row's, the lowest one first: j of s of them. -/
def setsL (l : List Int) (at_ s : Nat) (n : Int) : Nat → List Int
  | 0 => l
  | j + 1 => (setsL l at_ s n j).set (at_ + (s - 1 - j)) (n / 256 ^ j % 256)
def LaidIs (B g m c : Nat) (l : List Int) (w : World) (e : Ending) (w' : World) : Prop := e = .returned (.tuple #[]) ∧ OwnB w' B (some ⟨g, 0, none⟩) m c l ∧ But (fun k => k = g) w w'
theorem lay_any (B g m c at_ s : Nat) (ai si : Int) (l : List Int) (n : Int) (w : World) (hs : s ≤ 4) (ha : at_ + s ≤ m) (hm : m ≤ 100000) (eai : ai = (at_ : Int)) (esi : si = (s : Int)) (hn : 0 ≤ n ∧ n < 4294967296) (h : OwnB w B (some ⟨g, 0, none⟩) m c l) :
    Calls Try.prog 52 #[.slice (some ⟨g, 0, none⟩) m c, .int .i64 ai, .int .i64 si, .int .u32 n] w (LaidIs B g m c (setsL l at_ s n s) w) := by
  subst eai; subst esi
  have Ho := Lib.hid h
  have hw1 : IntKind.i64.wrap ((s : Int) - 1) = (s : Int) - 1 := IntWalk.i64_in _ (by omega)
  clear h
  go_enter Try.func52, Try.ntmps52
  go_wp2_with fail
  go_loopg [3, 8] s (fun gk x i wr => ∃ (j : Nat) (y : Int), Hid (gk + j = s) ∧ j ≤ s ∧ y = n / 256 ^ j ∧ (0 ≤ y ∧ y < 4294967296) ∧ x = .int .u32 y ∧ i = .int .i64 ((s : Int) - 1 - (j : Int)) ∧ Hid (OwnB wr B (some ⟨g, 0, none⟩) m c (setsL l at_ s n j)) ∧ Hid (But (fun k => k = g) w wr))
  case atStart => exact ⟨0, n, rfl, Nat.zero_le _, by simp, hn, rfl, by simp, Ho, Lib.hid (But.refl _ _)⟩
  case round =>
    obtain ⟨j, y, hgk, hj, hy, hyb, rfl, rfl, hown, hb⟩ := hrel
    by_cases hjs : j < s
    · have hge : 0 ≤ (s : Int) - 1 - (j : Int) := by omega
      have hw2 : IntKind.i64.wrap ((s : Int) - 1 - (j : Int) - 1) = (s : Int) - 1 - (j : Int) - 1 := IntWalk.i64_in _ (by omega)
      have hw3 : IntKind.i64.wrap ((at_ : Int) + ((s : Int) - 1 - (j : Int))) = (at_ : Int) + ((s : Int) - 1 - (j : Int)) := IntWalk.i64_in _ (by omega)
      obtain ⟨hix, hc, hf⟩ := own_index hown.out (at_ + (s - 1 - j)) ((at_ : Int) + ((s : Int) - 1 - (j : Int))) (by omega) (by omega)
      have Hset := Lib.hid (hown.out.set_ (at_ + (s - 1 - j)) (y % 256))
      have Hb2 := Lib.hid (hb.out.setCell (p := ⟨g, at_ + (s - 1 - j), none⟩) rfl (.int .u8 (y % 256)))
      have Hy := Lib.hid hy
      have hyq : 0 ≤ y / 256 ∧ y / 256 < 4294967296 := by omega
      clear hown hb hy
      go_wp2_with fail
      go_roundg (gk - 1)
      case measure => have := hgk.out; omega
      case rel => exact ⟨j + 1, y / 256, by have := hgk.out; show gk - 1 + (j + 1) = _; omega, by omega, by rw [Hy.out, Int.pow_succ, Int.ediv_ediv_of_nonneg (Int.le_of_lt (Int.pow_pos (by decide)))], hyq, rfl, by rw [show ((s : Int) - 1 - ((j + 1 : Nat) : Int)) = (s : Int) - 1 - (j : Int) - 1 by omega], Lib.hid (by show OwnB _ _ _ _ _ ((setsL l at_ s n j).set _ _); rw [← Hy.out]; exact Hset.out), Hb2⟩
    · obtain rfl : s = j := by omega
      have hlt : (s : Int) - 1 - (s : Int) < 0 := by omega
      go_wp2_with fail
      go_end0
      exact ⟨rfl, hown.out, hb.out⟩

/-- A number of bytes, the highest one first. -/
def numL (l : List Int) : Int := l.foldl (fun a x => 256 * a + x) 0
theorem numL_snoc (l : List Int) (x : Int) : numL (l ++ [x]) = 256 * numL l + x := by simp [numL]
theorem numL_bd : ∀ (l : List Int), (∀ x ∈ l, 0 ≤ x ∧ x < 256) → l.length ≤ 4 → 0 ≤ numL l ∧ numL l < 256 ^ l.length
  | [], _, _ => by simp [numL]
  | [a], h, _ => by have h0 := h a (by simp); simp [numL]; omega
  | [a, b], h, _ => by have h0 := h a (by simp); have h1 := h b (by simp); simp [numL]; omega
  | [a, b, c], h, _ => by have h0 := h a (by simp); have h1 := h b (by simp); have h2 := h c (by simp); simp [numL]; omega
  | [a, b, c, d], h, _ => by have h0 := h a (by simp); have h1 := h b (by simp); have h2 := h c (by simp); have h3 := h d (by simp); simp [numL]; omega
  | _ :: _ :: _ :: _ :: _ :: _, _, h => by simp at h
theorem num_any (A : Option Addr) (n c at_ s : Nat) (ai si : Int) (l : List Int) (w : World) (hs : s ≤ 4) (ha : at_ + s ≤ n) (hn : n ≤ 100000) (eai : ai = (at_ : Int)) (esi : si = (s : Int)) (h : Rd w A n l) :
    Calls Try.prog 66 #[.slice A n c, .int .i64 ai, .int .i64 si] w fun e w' => e = .returned (.int .u32 (numL ((l.drop at_).take s))) ∧ w = w' := by
  subst eai; subst esi
  have Hr := Lib.hid h
  have Hl := Lib.hid h.len
  clear h
  go_enter Try.func66, Try.ntmps66
  go_wp2_with fail
  go_loopg [7, 8] s (fun gk x i wr => ∃ (j : Nat) (y : Int), Hid (gk + j = s) ∧ j ≤ s ∧ x = .int .u32 y ∧ i = .int .i64 (j : Int) ∧ Hid (y = numL ((l.drop at_).take j)) ∧ w = wr)
  case atStart => exact ⟨0, 0, rfl, Nat.zero_le _, rfl, rfl, Lib.hid (by simp [numL]), rfl⟩
  case round =>
    obtain ⟨j, y, hgk, hj, rfl, rfl, hy, rfl⟩ := hrel
    by_cases hjs : j < s
    · obtain ⟨p, hix, hc, hpb, hx0, hx1⟩ := byte_at (c := c) Hr.out (at_ + j) ((at_ : Int) + (j : Int)) (by omega) (by omega)
      have hsn : (l.drop at_).take (j + 1) = (l.drop at_).take j ++ [l.getD (at_ + j) 0] := by
        rw [take_snoc_ (l.drop at_) j 0 (by rw [List.length_drop, Hl.out]; omega)]
        simp only [List.getD, List.getElem?_drop]
      have hb1 := numL_bd ((l.drop at_).take (j + 1)) (fun x hx => Hr.out.byte x (List.mem_of_mem_drop (List.mem_of_mem_take hx))) (by rw [List.length_take]; omega)
      have hlen1 : ((l.drop at_).take (j + 1)).length = j + 1 := by rw [List.length_take, List.length_drop, Hl.out]; omega
      obtain ⟨x, ex⟩ : ∃ x, l.getD (at_ + j) 0 = x := ⟨_, rfl⟩
      rw [ex] at hc hx0 hx1 hsn
      have Hsn := Lib.hid (show numL ((l.drop at_).take (j + 1)) = 256 * y + x by rw [hsn, numL_snoc, hy.out])
      rw [Hsn.out, hlen1] at hb1
      have hb2 : 256 * y + x < 4294967296 := by
        have : (256 : Int) ^ (j + 1) ≤ 4294967296 := by
          have : j = 0 ∨ j = 1 ∨ j = 2 ∨ j = 3 := by omega
          rcases this with rfl | rfl | rfl | rfl <;> decide
        omega
      have hy0 := numL_bd ((l.drop at_).take j) (fun x hx => Hr.out.byte x (List.mem_of_mem_drop (List.mem_of_mem_take hx))) (by rw [List.length_take]; omega)
      rw [← hy.out] at hy0
      have hyn := hy0.1
      have q1 : IntKind.u32.wrap (256 * y) = 256 * y := by simp [IntKind.wrap, IntKind.bits, IntKind.signed]; omega
      have q2 : IntKind.u32.wrap (256 * y + x) = 256 * y + x := by simp [IntKind.wrap, IntKind.bits, IntKind.signed]; omega
      have hw3 : IntKind.i64.wrap ((at_ : Int) + (j : Int)) = (at_ : Int) + (j : Int) := IntWalk.i64_in _ (by omega)
      clear hsn ex hb1 hlen1 hy0
      go_wp2_with fail
      go_roundg (gk - 1)
      case measure => have := hgk.out; omega
      case rel => exact ⟨j + 1, 256 * y + x, by have := hgk.out; show gk - 1 + (j + 1) = _; omega, by omega, by go_num, by go_num, Lib.hid Hsn.out.symm, rfl⟩
    · obtain rfl : s = j := by omega
      go_wp2_with fail
      go_ret
      exact ⟨ret_int hy.out, rfl⟩

/-- The pseudo header and bytes. -/
theorem whole_any (src dst : Int) (A : Option Addr) (n c : Nat) (l : List Int) (w : World) (hn : n ≤ 100000) (h : Rd w A n l) :
    Calls Try.prog 54 #[.int .u32 src, .int .u32 dst, .slice A n c] w (RowIs (12 + n) (pseudoL src dst 6 n ++ l) w) := by
  have Hp := Lib.hid (rpseudo_any src dst 6 (n : Int) w (by omega))
  have Hr := Lib.hid h
  clear h
  go_enter Try.func54, Try.ntmps54
  go_wp2_with fail
  refine Hp.out.mono ?_
  rintro e w1 ⟨A1, c1, rfl, h1, h2, hown, hb⟩
  have Hown := Lib.hid hown
  have Hb := Lib.hid hb
  have Hr1 := Lib.hid (Hr.out.below hb)
  clear hown hb
  go_wp2_with (refine wpList_app rfl (.tmp 11) (.tmp 12) rfl w.heap.size A1 A 12 c1 n c _ l rfl rfl Hown.out Hr1.out (by omega) Hb.out.size ?_; intro A2 c2 w2 hown2 _ hb2 _)
  go_ret
  exact ⟨A2, c2, rfl, hown2.cap, hown2.capMax, hown2, Hb.out.trans hb2⟩
end Go.Proofs.Ytoblllgefmajiaa
