/-
  The contracts of package sum's Sum, Field and Right over parts that read as lists of bytes: the sum of all of them, one behind the other.
-/
import Derived.Test.YtcdflpfgjodeaaaSumNum
import Derived.Test.YtcdflpfgjodeaaaRdL
import Derived.OneCell
import Derived.Deep.LoopGhost
import Derived.LoopTactic
import Derived.Outline
namespace Go.Proofs.Ytcdflpfgjodeaaa
set_option maxRecDepth 10000
open Go.RowKit

theorem tick_any (p : Addr) (x y : Int) (w : World) (hx : U16 x) (hy : U16 y) (hc : w.cell? p = some (.int .u16 x)) (hf : w.frozen? p = false) :
    Calls Try.prog 53 #[.int .u16 y, .pointer (some p)] w fun e w' => e = .returned (.tuple #[]) ∧ w' = w.setCell p (.int .u16 (add16 x y)) := by
  go_enter Try.func53, Try.ntmps53
  go_wp2_with fail
  refine (add_any _ _ _ hx hy).mono ?_
  rintro e w' ⟨rfl, rfl⟩
  go_wp2_with fail
  go_end0
  exact ⟨rfl, rfl⟩

/-- The worlds of eachWord: the captured sum lies alone in the first block behind the older ones, and nothing older has turned. -/
structure Acc (w : World) (x : Int) (w' : World) : Prop where
  blk : w'.heap[w.heap.size]? = some (.cells #[.int .u16 x] 26 (0, 0))
  below : Below w.heap.size w w'
theorem Acc.set_ {w w' : World} {x : Int} (h : Acc w x w') (y : Int) : Acc w y (w'.setCell ⟨w.heap.size, 0, none⟩ (.int .u16 y)) :=
  ⟨one_setCell h.blk, h.below.setCell (Nat.le_refl _) _⟩

set_option maxHeartbeats 1000000 in
theorem each_any (A : Option Addr) (n c : Nat) (ls : List (List Int)) (w0 w : World) (hn : n ≤ 9223372036854775807) (h0 : Acc w0 0 w) (h : RdL w0 A n ls) :
    Calls Try.prog 52 #[.slice A n c, .func (.func 53) #[] #[.pointer (some ⟨w0.heap.size, 0, none⟩)]] w fun e w' => e = .returned (.tuple #[]) ∧ Acc w0 (sumL ls.flatten) w' := by
  have hlen := Lib.hid h.len
  go_enter Try.func52, Try.ntmps52
  go_wp2_with fail
  go_loopg [4, 5, 12] n (fun gk f wt i wr => ∃ k first waits acc, Hid (gk + k = n) ∧ k ≤ n ∧ f = .int .u8 first ∧ wt = .bool waits ∧ i = .int .i64 (k : Int) ∧ St (ls.take k).flatten acc first waits ∧ Acc w0 acc wr)
  case atStart => exact ⟨0, 0, false, 0, rfl, Nat.zero_le _, rfl, rfl, rfl, St.nil, h0⟩
  case round =>
    obtain ⟨k, first, waits, acc, hgk, hk, rfl, rfl, rfl, hst, hacc⟩ := hrel
    by_cases hlt : k < n
    · obtain ⟨p, Ai, ci, hrun, hpb, hcell0, hci, hcm, hrd⟩ := h.index (c := c) hlt
      have hcell := (hacc.below.cell hpb).trans hcell0
      clear hcell0 hpb
      obtain ⟨lk, elk⟩ : ∃ lk, ls.getD k [] = lk := ⟨_, rfl⟩
      rw [elk] at hcell hci hrd
      have hb := hrd.byte
      have Helk := Lib.hid elk
      clear elk
      unfold maxLen at hcm
      go_wp2_with fail
      clear hcell
      obtain ⟨wo, rfl⟩ : ∃ wo : World, wo = wr := ⟨_, rfl⟩
      obtain ⟨gn, rfl⟩ : ∃ gn : Nat, gn = gk := ⟨_, rfl⟩
      go_loopg [4, 5, 18] lk.length (fun gj f wt i wr => ∃ j first waits acc, Hid (gj + j = lk.length) ∧ j ≤ lk.length ∧ f = .int .u8 first ∧ wt = .bool waits ∧ i = .int .i64 (j : Int) ∧ St ((ls.take k).flatten ++ lk.take j) acc first waits ∧ Acc w0 acc wr)
      case atStart => exact ⟨0, first, waits, acc, rfl, Nat.zero_le _, rfl, rfl, rfl, by simpa using hst, hacc⟩
      case round =>
        obtain ⟨j, first, waits, acc, hgj, hj, rfl, rfl, rfl, hst, hacc⟩ := hrel
        by_cases hjl : j < lk.length
        · obtain ⟨q, hrunq, hcellq, hqb⟩ := (hrd.below hacc.below).index (c := ci) hjl
          have hx := getD_byte hb j
          obtain ⟨x, ex⟩ : ∃ x, lk.getD j 0 = x := ⟨_, rfl⟩
          rw [ex] at hcellq hx
          have Hex := Lib.hid (show (ls.take k).flatten ++ lk.take (j + 1) = (ls.take k).flatten ++ lk.take j ++ [x] by rw [take_one lk j hjl, ex, List.append_assoc])
          clear ex
          obtain ⟨hf0, hf1⟩ := hst.f
          obtain ⟨ha0, ha1⟩ := hst.bd
          have hor := or16 first x ⟨hf0, hf1⟩ hx
          obtain ⟨hx0, hx1⟩ := id hx
          cases waits
          · go_wp2_with fail
            go_roundg (gk - 1)
            case measure => have := hgj.out; omega
            case rel => exact ⟨j + 1, x, true, acc, by have := hgj.out; show gk - 1 + (j + 1) = _; omega, by omega, rfl, rfl, by go_num, by rw [Hex.out]; exact hst.two hx, hacc⟩
          · have hcb := cell_of_one hacc.blk
            have hfz := free_of_one hacc.blk
            go_wp2_with fail
            refine (tick_any _ acc (first * 256 + x) _ ⟨ha0, ha1⟩ (by unfold U16; omega) hcb hfz).mono ?_
            rintro e w1 ⟨rfl, rfl⟩
            clear hcb hfz hor
            go_wp2_with fail
            go_roundg (gk - 1)
            case measure => have := hgj.out; omega
            case rel => exact ⟨j + 1, x, false, _, by have := hgj.out; show gk - 1 + (j + 1) = _; omega, by omega, rfl, rfl, by go_num, by rw [Hex.out]; exact hst.one hx, hacc.set_ _⟩
        · go_wp2_with fail
          go_roundg (gn - 1)
          case measure => have := hgk.out; omega
          case rel => exact ⟨k + 1, first, waits, acc, by have := hgk.out; show gn - 1 + (k + 1) = _; omega, by omega, rfl, rfl, by go_num, by rw [flat_take ls k (by have := hlen.out; omega), Helk.out, ← List.take_of_length_le (show lk.length ≤ j by omega)]; exact hst, hacc⟩
    · have hd : (ls.take k).flatten = ls.flatten := by rw [List.take_of_length_le (by have := hlen.out; omega)]
      rw [hd] at hst
      clear hd
      obtain ⟨hf0, hf1⟩ := hst.f
      obtain ⟨ha0, ha1⟩ := hst.bd
      cases waits
      · go_wp2_with fail
        go_end0
        exact ⟨rfl, by rw [← hst.end0]; exact hacc⟩
      · have hcb := cell_of_one hacc.blk
        have hfz := free_of_one hacc.blk
        go_wp2_with fail
        refine (tick_any _ acc (first * 256) _ ⟨ha0, ha1⟩ (by unfold U16; omega) hcb hfz).mono ?_
        rintro e w1 ⟨rfl, rfl⟩
        clear hcb hfz
        go_wp2_with fail
        go_end0
        exact ⟨rfl, by rw [← hst.end1]; exact hacc.set_ _⟩

end Go.Proofs.Ytcdflpfgjodeaaa
