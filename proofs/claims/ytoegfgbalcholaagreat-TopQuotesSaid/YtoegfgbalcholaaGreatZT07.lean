/-
  Texts laid together: SumSum, SumAny, Pseudo, Dg.
-/
import Derived.Test.YtoegfgbalcholaaGreatZT06
import Derived.Test.YtoegfgbalcholaaGreatZT03
import Derived.OneCell
import Derived.Deep.LoopGhost
import Derived.LoopTactic
import Derived.Outline
import Derived.Test.YtoegfgbalcholaaGreatZT02

/-
  The contracts of package sum's Sum, Field and Right over parts that read as lists of bytes: the sum of all of them, one behind the other.
-/
namespace Go.Proofs.YtoegfgbalcholaaGreat
set_option maxRecDepth 10000
open Go.RowKit

theorem tick_any (p : Addr) (x y : Int) (w : World) (hx : U16 x) (hy : U16 y) (hc : w.cell? p = some (.int .u16 x)) (hf : w.frozen? p = false) :
    Calls Tryz.prog 80 #[.int .u16 y, .pointer (some p)] w fun e w' => e = .returned (.tuple #[]) ∧ w' = w.setCell p (.int .u16 (add16 x y)) := by
  go_enter Tryz.func80, Tryz.ntmps80
  go_wp2_with fail
  refine (add_any _ _ _ hx hy).mono ?_
  rintro e w' ⟨rfl, rfl⟩
  go_wp2_with fail
  go_end0
  exact ⟨rfl, rfl⟩

/-- The worlds of eachWord: the captured sum lies alone in the first block behind the older ones, and nothing older has turned. -/
structure Acc (w : World) (x : Int) (w' : World) : Prop where
  blk : w'.heap[w.heap.size]? = some (.cells #[.int .u16 x] 22 (0, 0))
  below : Below w.heap.size w w'
theorem Acc.set_ {w w' : World} {x : Int} (h : Acc w x w') (y : Int) : Acc w y (w'.setCell ⟨w.heap.size, 0, none⟩ (.int .u16 y)) :=
  ⟨one_setCell h.blk, h.below.setCell (Nat.le_refl _) _⟩

set_option maxHeartbeats 1000000 in
theorem each_any (A : Option Addr) (n c : Nat) (ls : List (List Int)) (w0 w : World) (hn : n ≤ 9223372036854775807) (h0 : Acc w0 0 w) (h : RdL w0 A n ls) :
    Calls Tryz.prog 79 #[.slice A n c, .func (.func 80) #[] #[.pointer (some ⟨w0.heap.size, 0, none⟩)]] w fun e w' => e = .returned (.tuple #[]) ∧ Acc w0 (sumL ls.flatten) w' := by
  have hlen := Lib.hid h.len
  go_enter Tryz.func79, Tryz.ntmps79
  go_wp2_with fail
  go_loopg [4, 5, 12] n (fun gk f wt i wr => ∃ k first waits acc, Hid (gk + k = n) ∧ k ≤ n ∧ f = .int .u8 first ∧ wt = .bool waits ∧ i = .int .i64 (k : Int) ∧ St (ls.take k).flatten acc first waits ∧ Acc w0 acc wr)
  case atStart => exact ⟨0, 0, false, 0, rfl, Nat.zero_le _, rfl, rfl, rfl, St.nil, h0⟩
  case round =>
    obtain ⟨k, first, waits, acc, hgk, hk, rfl, rfl, rfl, hst, hacc⟩ := hrel
    by_cases hlt : k < n
    · obtain ⟨p, Ai, ci, hrun, hpb, hcell0, hci, hcm, hrd⟩ := h.index (c := c) hlt
      have hcell := (hacc.below.cell hpb).trans hcell0
      clear hcell0 hpb
      obtain ⟨lk, elk⟩ : ∃ lk, ls.getD k [] = lk := ⟨_, rfl⟩
      rw [elk] at hcell hci hrd
      have hb := hrd.byte
      have Helk := Lib.hid elk
      clear elk
      unfold maxLen at hcm
      go_wp2_with fail
      clear hcell
      obtain ⟨wo, rfl⟩ : ∃ wo : World, wo = wr := ⟨_, rfl⟩
      obtain ⟨gn, rfl⟩ : ∃ gn : Nat, gn = gk := ⟨_, rfl⟩
      go_loopg [4, 5, 18] lk.length (fun gj f wt i wr => ∃ j first waits acc, Hid (gj + j = lk.length) ∧ j ≤ lk.length ∧ f = .int .u8 first ∧ wt = .bool waits ∧ i = .int .i64 (j : Int) ∧ St ((ls.take k).flatten ++ lk.take j) acc first waits ∧ Acc w0 acc wr)
      case atStart => exact ⟨0, first, waits, acc, rfl, Nat.zero_le _, rfl, rfl, rfl, by simpa using hst, hacc⟩
      case round =>
        obtain ⟨j, first, waits, acc, hgj, hj, rfl, rfl, rfl, hst, hacc⟩ := hrel
        by_cases hjl : j < lk.length
        · obtain ⟨q, hrunq, hcellq, hqb⟩ := (hrd.below hacc.below).index (c := ci) hjl
          have hx := getD_byte hb j
          obtain ⟨x, ex⟩ : ∃ x, lk.getD j 0 = x := ⟨_, rfl⟩
          rw [ex] at hcellq hx
          have Hex := Lib.hid (show (ls.take k).flatten ++ lk.take (j + 1) = (ls.take k).flatten ++ lk.take j ++ [x] by rw [take_one lk j hjl, ex, List.append_assoc])
          clear ex
          obtain ⟨hf0, hf1⟩ := hst.f
          obtain ⟨ha0, ha1⟩ := hst.bd
          have hor := or16 first x ⟨hf0, hf1⟩ hx
          obtain ⟨hx0, hx1⟩ := id hx
          cases waits
          · go_wp2_with fail
            go_roundg (gk - 1)
            case measure => have := hgj.out; omega
            case rel => exact ⟨j + 1, x, true, acc, by have := hgj.out; show gk - 1 + (j + 1) = _; omega, by omega, rfl, rfl, by go_num, by rw [Hex.out]; exact hst.two hx, hacc⟩
          · have hcb := cell_of_one hacc.blk
            have hfz := free_of_one hacc.blk
            go_wp2_with fail
            refine (tick_any _ acc (first * 256 + x) _ ⟨ha0, ha1⟩ (by unfold U16; omega) hcb hfz).mono ?_
            rintro e w1 ⟨rfl, rfl⟩
            clear hcb hfz hor
            go_wp2_with fail
            go_roundg (gk - 1)
            case measure => have := hgj.out; omega
            case rel => exact ⟨j + 1, x, false, _, by have := hgj.out; show gk - 1 + (j + 1) = _; omega, by omega, rfl, rfl, by go_num, by rw [Hex.out]; exact hst.one hx, hacc.set_ _⟩
        · go_wp2_with fail
          go_roundg (gn - 1)
          case measure => have := hgk.out; omega
          case rel => exact ⟨k + 1, first, waits, acc, by have := hgk.out; show gn - 1 + (k + 1) = _; omega, by omega, rfl, rfl, by go_num, by rw [flat_take ls k (by have := hlen.out; omega), Helk.out, ← List.take_of_length_le (show lk.length ≤ j by omega)]; exact hst, hacc⟩
    · have hd : (ls.take k).flatten = ls.flatten := by rw [List.take_of_length_le (by have := hlen.out; omega)]
      rw [hd] at hst
      clear hd
      obtain ⟨hf0, hf1⟩ := hst.f
      obtain ⟨ha0, ha1⟩ := hst.bd
      cases waits
      · go_wp2_with fail
        go_end0
        exact ⟨rfl, by rw [← hst.end0]; exact hacc⟩
      · have hcb := cell_of_one hacc.blk
        have hfz := free_of_one hacc.blk
        go_wp2_with fail
        refine (tick_any _ acc (first * 256) _ ⟨ha0, ha1⟩ (by unfold U16; omega) hcb hfz).mono ?_
        rintro e w1 ⟨rfl, rfl⟩
        clear hcb hfz
        go_wp2_with fail
        go_end0
        exact ⟨rfl, by rw [← hst.end1]; exact hacc.set_ _⟩

end Go.Proofs.YtoegfgbalcholaaGreat

/-
  The contracts of package sum's Sum, Field and Right, and of the document's own Sum and Field (culvertref02), over bytes that read as lists.
-/
namespace Go.Proofs.YtoegfgbalcholaaGreat
set_option maxRecDepth 10000
open Go.RowKit

/-- A number told, and nothing older has turned. -/
def SumIs (x : Int) (w : World) (e : Ending) (w' : World) : Prop := e = .returned (.int .u16 x) ∧ Below w.heap.size w w'
def BoolIs (x : Bool) (w : World) (e : Ending) (w' : World) : Prop := e = .returned (.bool x) ∧ Below w.heap.size w w'

theorem sum_any (A : Option Addr) (n c : Nat) (ls : List (List Int)) (w : World) (hn : n ≤ 9223372036854775807) (h : RdL w A n ls) :
    Calls Tryz.prog 36 #[.slice A n c] w (SumIs (sumL ls.flatten) w) := by
  have hmf : ∀ (fn : Fn) (first cap : Array Value) (w : World), (Instr.makeFunc fn first cap).run Tryz.prog w = .ok (.func fn first cap) w := fun _ _ _ _ => rfl
  have h0 : Acc w 0 (w.alloc (.cells #[.int .u16 0] 22)) := ⟨heap_alloc_new w _, (Below.refl _ _).alloc (Nat.le_refl _) _⟩
  go_enter Tryz.func36, Tryz.ntmps36
  go_wp2_with fail
  refine (each_any A n c ls w _ hn h0 h).mono ?_
  rintro e w1 ⟨rfl, hacc⟩
  have hcb := cell_of_one hacc.blk
  go_wp2_with fail
  go_ret
  exact ⟨rfl, hacc.below⟩

theorem field_any (A : Option Addr) (n c : Nat) (ls : List (List Int)) (w : World) (hn : n ≤ 9223372036854775807) (h : RdL w A n ls) :
    Calls Tryz.prog 42 #[.slice A n c] w (SumIs (65535 - sumL ls.flatten) w) := by
  have hx := not16 _ (sumL_bd ls.flatten)
  have Hx := Lib.hid hx
  clear hx
  go_enter Tryz.func42, Tryz.ntmps42
  go_wp2_with fail
  refine (sum_any A n c ls _ hn h).mono ?_
  rintro e w1 ⟨rfl, hb⟩
  go_wp2_with fail
  go_ret
  exact ⟨ret_int Hx.out, hb⟩

theorem right_any (A : Option Addr) (n c : Nat) (ls : List (List Int)) (w : World) (hn : n ≤ 9223372036854775807) (h : RdL w A n ls) :
    Calls Tryz.prog 12 #[.slice A n c] w (BoolIs (sumL ls.flatten == 65535) w) := by
  go_enter Tryz.func12, Tryz.ntmps12
  go_wp2_with fail
  refine (sum_any A n c ls _ hn h).mono ?_
  rintro e w1 ⟨rfl, hb⟩
  go_wp2_with fail
  go_ret
  exact ⟨rfl, hb⟩

theorem field_told (A : Option Addr) (n c : Nat) (ls : List (List Int)) (w : World) (x : Int) (hn : n ≤ 9223372036854775807) (h : RdL w A n ls) (hx : 65535 - sumL ls.flatten = x) :
    Calls Tryz.prog 42 #[.slice A n c] w (SumIs x w) := by subst hx; exact field_any A n c ls w hn h
theorem right_told (A : Option Addr) (n c : Nat) (ls : List (List Int)) (w : World) (x : Bool) (hn : n ≤ 9223372036854775807) (h : RdL w A n ls) (hx : (sumL ls.flatten == 65535) = x) :
    Calls Tryz.prog 12 #[.slice A n c] w (BoolIs x w) := by subst hx; exact right_any A n c ls w hn h


end Go.Proofs.YtoegfgbalcholaaGreat

/-
  The twelve bytes of the pseudo header, in a row of the call's own: the document's Pseudo (culvertref02); package sum's. (For the stages behind sum's: in place of SumPseudo, whose names clash with wire's.)
-/
namespace Go.Proofs.YtoegfgbalcholaaGreat
set_option maxRecDepth 10000
open Go.RowKit

def pseudoL (s d p n : Int) : List Int :=
  [s / 16777216 % 256, s / 65536 % 256, s / 256 % 256, s % 256, d / 16777216 % 256, d / 65536 % 256, d / 256 % 256, d % 256, 0, p, n / 256 % 256, n % 256]
theorem pseudo_byte (s d p n : Int) (hp : 0 ≤ p ∧ p < 256) : ∀ x ∈ pseudoL s d p n, 0 ≤ x ∧ x < 256 := by
  intro x hx
  simp only [pseudoL, List.mem_cons, List.mem_nil_iff, or_false] at hx
  omega
theorem pseudo_any (s d p n : Int) (w : World) (_hp : 0 ≤ p ∧ p < 256) :
    Calls Tryz.prog 104 #[.int .u32 s, .int .u32 d, .int .u8 p, .int .i64 n] w (RowIs 12 (pseudoL s d p n) w) := by
  go_enter Tryz.func104, Tryz.ntmps104
  go_wp2_with fail
  go_ret
  refine ⟨_, _, rfl, by omega, by simp [maxLen], ⟨rfl, .inr ⟨_, 12, _, rfl, Nat.le_refl _, heap_alloc_new w _, by omega, by simp [maxLen], rfl, rfl⟩⟩, (Below.refl _ _).alloc (Nat.le_refl _) _⟩

end Go.Proofs.YtoegfgbalcholaaGreat

/-
  Datagrams as numbers and a list.
-/
namespace Go.Proofs.YtoegfgbalcholaaGreat
set_option maxRecDepth 10000

/-- A datagram, plainly. -/
structure Dg where
  sp : Int
  dp : Int
  d : List Int
structure DgNum (s : Dg) : Prop where
  sp : 0 ≤ s.sp ∧ s.sp < 65536
  dp : 0 ≤ s.dp ∧ s.dp < 65536
end Go.Proofs.YtoegfgbalcholaaGreat
