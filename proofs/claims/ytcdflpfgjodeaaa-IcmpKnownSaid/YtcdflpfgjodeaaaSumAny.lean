/-
  The contracts of package sum's Sum, Field and Right, and of the document's own Sum and Field (culvertref02), over bytes that read as lists.
-/
import Derived.Test.YtcdflpfgjodeaaaSumSum
namespace Go.Proofs.Ytcdflpfgjodeaaa
set_option maxRecDepth 10000
open Go.RowKit

/-- A number told, and nothing older has turned. -/
def SumIs (x : Int) (w : World) (e : Ending) (w' : World) : Prop := e = .returned (.int .u16 x) ∧ Below w.heap.size w w'
def BoolIs (x : Bool) (w : World) (e : Ending) (w' : World) : Prop := e = .returned (.bool x) ∧ Below w.heap.size w w'

theorem sum_any (A : Option Addr) (n c : Nat) (ls : List (List Int)) (w : World) (hn : n ≤ 9223372036854775807) (h : RdL w A n ls) :
    Calls Try.prog 41 #[.slice A n c] w (SumIs (sumL ls.flatten) w) := by
  have hmf : ∀ (fn : Fn) (first cap : Array Value) (w : World), (Instr.makeFunc fn first cap).run Try.prog w = .ok (.func fn first cap) w := fun _ _ _ _ => rfl
  have h0 : Acc w 0 (w.alloc (.cells #[.int .u16 0] 26)) := ⟨heap_alloc_new w _, (Below.refl _ _).alloc (Nat.le_refl _) _⟩
  go_enter Try.func41, Try.ntmps41
  go_wp2_with fail
  refine (each_any A n c ls w _ hn h0 h).mono ?_
  rintro e w1 ⟨rfl, hacc⟩
  have hcb := cell_of_one hacc.blk
  go_wp2_with fail
  go_ret
  exact ⟨rfl, hacc.below⟩

theorem field_any (A : Option Addr) (n c : Nat) (ls : List (List Int)) (w : World) (hn : n ≤ 9223372036854775807) (h : RdL w A n ls) :
    Calls Try.prog 26 #[.slice A n c] w (SumIs (65535 - sumL ls.flatten) w) := by
  have hx := not16 _ (sumL_bd ls.flatten)
  have Hx := Lib.hid hx
  clear hx
  go_enter Try.func26, Try.ntmps26
  go_wp2_with fail
  refine (sum_any A n c ls _ hn h).mono ?_
  rintro e w1 ⟨rfl, hb⟩
  go_wp2_with fail
  go_ret
  exact ⟨ret_int Hx.out, hb⟩

theorem right_any (A : Option Addr) (n c : Nat) (ls : List (List Int)) (w : World) (hn : n ≤ 9223372036854775807) (h : RdL w A n ls) :
    Calls Try.prog 22 #[.slice A n c] w (BoolIs (sumL ls.flatten == 65535) w) := by
  go_enter Try.func22, Try.ntmps22
  go_wp2_with fail
  refine (sum_any A n c ls _ hn h).mono ?_
  rintro e w1 ⟨rfl, hb⟩
  go_wp2_with fail
  go_ret
  exact ⟨rfl, hb⟩

theorem rsum_any (A : Option Addr) (n c : Nat) (l : List Int) (w : World) (hn : n ≤ 9223372036854775800) (h : Rd w A n l) :
    Calls Try.prog 37 #[.slice A n c] w fun e w' => e = .returned (.int .u16 (sumL l)) ∧ w = w' := by
  have hlen := Lib.hid h.len
  have hb := h.byte
  go_enter Try.func37, Try.ntmps37
  go_wp2_with fail
  go_loopg [3, 4] (n + 1) (fun gk s i wr => ∃ k acc, Hid (gk + k = n + 1) ∧ Hid (k % 2 = 0) ∧ k ≤ n + 1 ∧ s = .int .u16 acc ∧ i = .int .i64 (k : Int) ∧ Hid (acc = fold16 (ws false (l.take k))) ∧ wr = w)
  case atStart => exact ⟨0, 0, rfl, rfl, Nat.zero_le _, rfl, rfl, rfl, rfl⟩
  case round =>
    obtain ⟨k, acc, hgk, hk2, hk, rfl, rfl, hacc, rfl⟩ := hrel
    have hat : U16 acc := by rw [hacc.out]; exact fold_bd _
    by_cases hlt : k < n
    · obtain ⟨q, hrunq, hcellq, hqb⟩ := h.index (c := c) hlt
      have hx := getD_byte hb k
      obtain ⟨x, ex⟩ : ∃ x, l.getD k 0 = x := ⟨_, rfl⟩
      rw [ex] at hcellq hx
      have Hex := Lib.hid ex
      clear ex
      obtain ⟨hx0, hx1⟩ := id hx
      have hnn := ws_nn (l.take k) (fun z hz => hb z (List.mem_of_mem_take hz)) false
      by_cases hl2 : k + 1 < n
      · obtain ⟨q2, hrunq2, hcellq2, hqb2⟩ := h.index (c := c) hl2
        have hy := getD_byte hb (k + 1)
        obtain ⟨y, ey⟩ : ∃ y, l.getD (k + 1) 0 = y := ⟨_, rfl⟩
        rw [ey] at hcellq2 hy
        have Hey := Lib.hid ey
        clear ey
        obtain ⟨hy0, hy1⟩ := id hy
        have e1 : ((k + 1 : Nat) : Int) = (k : Int) + 1 := by omega
        rw [e1] at hrunq2
        clear e1
        go_wp2_with fail
        refine (radd_any acc (x * 256 + y) _ hat (by unfold U16; omega)).mono ?_
        rintro e w1 ⟨rfl, rfl⟩
        go_wp2_with fail
        go_roundg (gk - 2)
        case measure => have := hgk.out; omega
        case rel => exact ⟨k + 2, _, by have := hgk.out; show gk - 2 + (k + 2) = _; omega, by have := hk2.out; show (k + 2) % 2 = 0; omega, by omega, rfl, by go_num, by
          show _ = _
          rw [hacc.out, add_fold _ _ hnn (by unfold U16; omega), ws_two l k (by have := hlen.out; omega) hk2.out, Hex.out, Hey.out], rfl⟩
      · go_wp2_with fail
        refine (radd_any acc (x * 256) _ hat (by unfold U16; omega)).mono ?_
        rintro e w1 ⟨rfl, rfl⟩
        go_wp2_with fail
        go_roundg (gk - 2)
        case measure => have := hgk.out; omega
        case rel => exact ⟨k + 2, _, by have := hgk.out; show gk - 2 + (k + 2) = _; omega, by have := hk2.out; show (k + 2) % 2 = 0; omega, by omega, rfl, by go_num, by
          show _ = _
          rw [hacc.out, add_fold _ _ hnn (by unfold U16; omega), List.take_of_length_le (by have := hlen.out; omega : l.length ≤ k + 2), ws_last l k (by have := hlen.out; omega) hk2.out, Hex.out], rfl⟩
    · go_wp2_with fail
      go_ret
      exact ⟨ret_int (by rw [hacc.out, List.take_of_length_le (by have := hlen.out; omega)]; rfl), rfl⟩

theorem rfield_any (A : Option Addr) (n c : Nat) (l : List Int) (w : World) (hn : n ≤ 9223372036854775800) (h : Rd w A n l) :
    Calls Try.prog 29 #[.slice A n c] w fun e w' => e = .returned (.int .u16 (65535 - sumL l)) ∧ w = w' := by
  obtain ⟨h0, h1⟩ := sumL_bd l
  go_enter Try.func29, Try.ntmps29
  go_wp2_with fail
  refine (rsum_any A n c l _ hn h).mono ?_
  rintro e w1 ⟨rfl, rfl⟩
  go_wp2_with fail
  go_ret
  exact ⟨rfl, rfl⟩

theorem sum_told (A : Option Addr) (n c : Nat) (ls : List (List Int)) (w : World) (x : Int) (hn : n ≤ 9223372036854775807) (h : RdL w A n ls) (hx : sumL ls.flatten = x) :
    Calls Try.prog 41 #[.slice A n c] w (SumIs x w) := by subst hx; exact sum_any A n c ls w hn h
theorem field_told (A : Option Addr) (n c : Nat) (ls : List (List Int)) (w : World) (x : Int) (hn : n ≤ 9223372036854775807) (h : RdL w A n ls) (hx : 65535 - sumL ls.flatten = x) :
    Calls Try.prog 26 #[.slice A n c] w (SumIs x w) := by subst hx; exact field_any A n c ls w hn h
theorem right_told (A : Option Addr) (n c : Nat) (ls : List (List Int)) (w : World) (x : Bool) (hn : n ≤ 9223372036854775807) (h : RdL w A n ls) (hx : (sumL ls.flatten == 65535) = x) :
    Calls Try.prog 22 #[.slice A n c] w (BoolIs x w) := by subst hx; exact right_any A n c ls w hn h


end Go.Proofs.Ytcdflpfgjodeaaa
