/-
  Texts laid together: SumNum, RdL, SumSum, SumAny.
-/
import Derived.Test.YtheknmihnkennaaGreatZB02
import Derived.Test.YtheknmihnkennaaGreatZB01
import Derived.OneCell
import Derived.Deep.LoopGhost
import Derived.LoopTactic
import Derived.Outline

/-
  The contracts of package sum's calls on numbers (add, Word, Long), and of the document's own answers (culvertref02) for them: each leaves the world as it was.
-/
namespace Go.Proofs.YtheknmihnkennaaGreat
set_option maxRecDepth 10000
open Go.RowKit

theorem add_any (a b : Int) (w : World) (ha : U16 a) (hb : U16 b) :
    Calls Tryz.prog 106 #[.int .u16 a, .int .u16 b] w fun e w' => e = .returned (.int .u16 (add16 a b)) ∧ w = w' := by
  obtain ⟨ha0, ha1⟩ := ha
  obtain ⟨hb0, hb1⟩ := hb
  by_cases h : 65535 < a + b
  · go_enter Tryz.func106, Tryz.ntmps106
    go_wp2
    go_ret
    exact ⟨ret_int (by unfold add16; rw [if_pos h]; (try rw [wrap_u16]); (try rw [wrap_u16]); omega), rfl⟩
  · go_enter Tryz.func106, Tryz.ntmps106
    go_wp2
    go_ret
    exact ⟨ret_int (by unfold add16; rw [if_neg (by omega)]), rfl⟩

theorem word_any (f a b : Int) (w : World) (hf : U16 f) (ha : U16 a) (hb : U16 b) :
    Calls Tryz.prog 83 #[.int .u16 f, .int .u16 a, .int .u16 b] w fun e w' => e = .returned (.int .u16 (wordF f a b)) ∧ w = w' := by
  have h1 : U16 (65535 - f) := by unfold U16 at *; omega
  have h2 : U16 (65535 - a) := by unfold U16 at *; omega
  have h3 := add_bd _ _ h1 h2
  have h4 := add_bd _ _ h3 hb
  have n1 := not16 f hf
  have n2 := not16 a ha
  have n3 := not16 _ h4
  have N3 := Lib.hid n3
  clear n3
  go_enter Tryz.func83, Tryz.ntmps83
  go_wp2_with fail
  refine (add_any _ _ _ h1 h2).mono ?_
  rintro e w' ⟨rfl, rfl⟩
  go_wp2_with fail
  refine (add_any _ _ _ h3 hb).mono ?_
  rintro e w' ⟨rfl, rfl⟩
  clear n1 n2
  go_wp2_with fail
  go_ret
  exact ⟨ret_int N3.out, rfl⟩

theorem word_told (f a b x : Int) (w : World) (hf : U16 f) (ha : U16 a) (hb : U16 b) (hx : wordF f a b = x) :
    Calls Tryz.prog 83 #[.int .u16 f, .int .u16 a, .int .u16 b] w fun e w' => e = .returned (.int .u16 x) ∧ w = w' := by subst hx; exact word_any f a b w hf ha hb


end Go.Proofs.YtheknmihnkennaaGreat

/-
  A slice of slices of bytes that reads as a list of lists ('RdL'). No function of the program.
-/
namespace Go.Proofs.YtheknmihnkennaaGreat
set_option maxRecDepth 10000
open Go.RowKit

/-- The slice of slices '.slice A n c' holds the lists ls, in memory that is there. -/
structure RdL (w : World) (A : Option Addr) (n : Nat) (ls : List (List Int)) : Prop where
  len : ls.length = n
  at_ : 0 < n → ∃ b o, A = some ⟨b, o, none⟩ ∧ b < w.heap.size ∧ ∀ i, i < n → ∃ Ai ci, w.cell? ⟨b, o + i, none⟩ = some (.slice Ai (ls.getD i []).length ci) ∧ (ls.getD i []).length ≤ ci ∧ ci ≤ maxLen ∧ Rd w Ai (ls.getD i []).length (ls.getD i [])

theorem RdL.below {w w' : World} {A : Option Addr} {n : Nat} {ls : List (List Int)} (h : RdL w A n ls) (hb : Below w.heap.size w w') : RdL w' A n ls :=
  ⟨h.len, fun hn => by
    obtain ⟨b, o, e, hlt, hc⟩ := h.at_ hn
    refine ⟨b, o, e, Nat.lt_of_lt_of_le hlt hb.size, fun i hi => ?_⟩
    obtain ⟨Ai, ci, h1, h2, h3, h4⟩ := hc i hi
    exact ⟨Ai, ci, by rw [hb.cell (p := ⟨b, o + i, none⟩) hlt]; exact h1, h2, h3, h4.below hb⟩⟩

theorem RdL.take {w : World} {A : Option Addr} {n k : Nat} {ls : List (List Int)} (h : RdL w A n ls) (hk : k ≤ n) : RdL w A k (ls.take k) := by
  refine ⟨by rw [List.length_take, h.len]; omega, fun hn => ?_⟩
  obtain ⟨b, o, e, hlt, hc⟩ := h.at_ (by omega)
  refine ⟨b, o, e, hlt, fun i hi => ?_⟩
  have e2 : (ls.take k).getD i [] = ls.getD i [] := by simp [List.getD, List.getElem?_take_of_lt hi]
  rw [e2]
  exact hc i (by omega)

/-- One part's address and what lies there. -/
theorem RdL.index {w : World} {A : Option Addr} {n c : Nat} {ls : List (List Int)} (h : RdL w A n ls) {j : Nat} (hj : j < n) :
    ∃ p Ai ci, (∀ W : World, (Instr.indexAt 132 (.slice A n c) (.int .i64 (j : Int))).run Tryz.prog W = .ok (.pointer (some p)) W) ∧ p.block < w.heap.size ∧ w.cell? p = some (.slice Ai (ls.getD j []).length ci) ∧ (ls.getD j []).length ≤ ci ∧ ci ≤ maxLen ∧ Rd w Ai (ls.getD j []).length (ls.getD j []) := by
  obtain ⟨b, o, rfl, hb, hc⟩ := h.at_ (by omega)
  have h0 : (0 : Int) ≤ (j : Int) := by omega
  have h1 : (j : Int) < (n : Int) := by omega
  obtain ⟨Ai, ci, e1, e2, e3, e4⟩ := hc j hj
  exact ⟨⟨b, o + j, none⟩, Ai, ci, fun W => by go_simp, hb, e1, e2, e3, e4⟩

theorem flat_take (ls : List (List Int)) (k : Nat) (h : k < ls.length) : (ls.take (k + 1)).flatten = (ls.take k).flatten ++ ls.getD k [] := by
  rw [List.take_succ_eq_append_getElem h, List.flatten_append]
  simp [List.getD, List.getElem?_eq_getElem h]
theorem take_one (l : List Int) (j : Nat) (h : j < l.length) : l.take (j + 1) = l.take j ++ [l.getD j 0] := by
  rw [List.take_succ_eq_append_getElem h]
  simp [List.getD, List.getElem?_eq_getElem h]
theorem getD_byte {l : List Int} (h : ∀ x ∈ l, 0 ≤ x ∧ x < 256) (j : Nat) : 0 ≤ l.getD j 0 ∧ l.getD j 0 < 256 := by
  by_cases hj : j < l.length
  · simp only [List.getD, List.getElem?_eq_getElem hj, Option.getD_some]
    exact h _ (List.getElem_mem hj)
  · simp [List.getD, List.getElem?_eq_none (by omega : l.length ≤ j)]

/-- A row of parts that the walk has just laid. -/
theorem RdL.row (w : World) (g : Nat) (hg : w.heap.size = g) (t : TypeId) (fr : Nat × Nat) (vs : List Value) (ls : List (List Int))
    (h : ∀ i, i < ls.length → ∃ Ai ci, vs[i]? = some (.slice Ai (ls.getD i []).length ci) ∧ (ls.getD i []).length ≤ ci ∧ ci ≤ maxLen ∧ Rd w Ai (ls.getD i []).length (ls.getD i [])) :
    RdL (w.alloc (.cells vs.toArray t fr)) (some ⟨g, 0, none⟩) ls.length ls := by
  subst hg
  refine ⟨rfl, fun _ => ⟨w.heap.size, 0, rfl, by simp, fun i hi => ?_⟩⟩
  obtain ⟨Ai, ci, h1, h2, h3, h4⟩ := h i hi
  refine ⟨Ai, ci, ?_, h2, h3, h4.below ((Below.refl _ _).alloc (Nat.le_refl _) _)⟩
  rw [World.cell?_alloc_mark]
  simpa using h1
theorem RdL.one (w : World) (g : Nat) (hg : w.heap.size = g) (t : TypeId) (fr : Nat × Nat) (A : Option Addr) (n c : Nat) (l : List Int) (h : Rd w A n l) (hc : n ≤ c) (hm : c ≤ maxLen) : RdL (w.alloc (.cells #[.slice A n c] t fr)) (some ⟨g, 0, none⟩) 1 [l] := by
  have := h.len
  subst this
  refine RdL.row w g hg t fr [.slice A l.length c] [l] (fun i hi => ?_)
  have : i = 0 := by simp at hi; exact hi
  subst this
  exact ⟨A, c, rfl, hc, hm, h⟩
theorem RdL.two (w : World) (g : Nat) (hg : w.heap.size = g) (t : TypeId) (fr : Nat × Nat) (A A' : Option Addr) (n n' c c' : Nat) (l l' : List Int) (h : Rd w A n l) (hc : n ≤ c) (hm : c ≤ maxLen) (h' : Rd w A' n' l') (hc' : n' ≤ c') (hm' : c' ≤ maxLen) :
    RdL (w.alloc (.cells #[.slice A n c, .slice A' n' c'] t fr)) (some ⟨g, 0, none⟩) 2 [l, l'] := by
  have := h.len
  subst this
  have := h'.len
  subst this
  refine RdL.row w g hg t fr [.slice A l.length c, .slice A' l'.length c'] [l, l'] (fun i hi => ?_)
  simp at hi
  rcases Nat.lt_or_ge i 1 with h0 | h0
  · have : i = 0 := by omega
    subst this
    exact ⟨A, c, rfl, hc, hm, h⟩
  · have : i = 1 := by omega
    subst this
    exact ⟨A', c', rfl, hc', hm', h'⟩


end Go.Proofs.YtheknmihnkennaaGreat

/-
  The contracts of package sum's Sum, Field and Right over parts that read as lists of bytes: the sum of all of them, one behind the other.
-/
namespace Go.Proofs.YtheknmihnkennaaGreat
set_option maxRecDepth 10000
open Go.RowKit

theorem tick_any (p : Addr) (x y : Int) (w : World) (hx : U16 x) (hy : U16 y) (hc : w.cell? p = some (.int .u16 x)) (hf : w.frozen? p = false) :
    Calls Tryz.prog 105 #[.int .u16 y, .pointer (some p)] w fun e w' => e = .returned (.tuple #[]) ∧ w' = w.setCell p (.int .u16 (add16 x y)) := by
  go_enter Tryz.func105, Tryz.ntmps105
  go_wp2_with fail
  refine (add_any _ _ _ hx hy).mono ?_
  rintro e w' ⟨rfl, rfl⟩
  go_wp2_with fail
  go_end0
  exact ⟨rfl, rfl⟩

/-- The worlds of eachWord: the captured sum lies alone in the first block behind the older ones, and nothing older has turned. -/
structure Acc (w : World) (x : Int) (w' : World) : Prop where
  blk : w'.heap[w.heap.size]? = some (.cells #[.int .u16 x] 23 (0, 0))
  below : Below w.heap.size w w'
theorem Acc.set_ {w w' : World} {x : Int} (h : Acc w x w') (y : Int) : Acc w y (w'.setCell ⟨w.heap.size, 0, none⟩ (.int .u16 y)) :=
  ⟨one_setCell h.blk, h.below.setCell (Nat.le_refl _) _⟩

set_option maxHeartbeats 1000000 in
theorem each_any (A : Option Addr) (n c : Nat) (ls : List (List Int)) (w0 w : World) (hn : n ≤ 9223372036854775807) (h0 : Acc w0 0 w) (h : RdL w0 A n ls) :
    Calls Tryz.prog 104 #[.slice A n c, .func (.func 105) #[] #[.pointer (some ⟨w0.heap.size, 0, none⟩)]] w fun e w' => e = .returned (.tuple #[]) ∧ Acc w0 (sumL ls.flatten) w' := by
  have hlen := Lib.hid h.len
  go_enter Tryz.func104, Tryz.ntmps104
  go_wp2_with fail
  go_loopg [4, 5, 12] n (fun gk f wt i wr => ∃ k first waits acc, Hid (gk + k = n) ∧ k ≤ n ∧ f = .int .u8 first ∧ wt = .bool waits ∧ i = .int .i64 (k : Int) ∧ St (ls.take k).flatten acc first waits ∧ Acc w0 acc wr)
  case atStart => exact ⟨0, 0, false, 0, rfl, Nat.zero_le _, rfl, rfl, rfl, St.nil, h0⟩
  case round =>
    obtain ⟨k, first, waits, acc, hgk, hk, rfl, rfl, rfl, hst, hacc⟩ := hrel
    by_cases hlt : k < n
    · obtain ⟨p, Ai, ci, hrun, hpb, hcell0, hci, hcm, hrd⟩ := h.index (c := c) hlt
      have hcell := (hacc.below.cell hpb).trans hcell0
      clear hcell0 hpb
      obtain ⟨lk, elk⟩ : ∃ lk, ls.getD k [] = lk := ⟨_, rfl⟩
      rw [elk] at hcell hci hrd
      have hb := hrd.byte
      have Helk := Lib.hid elk
      clear elk
      unfold maxLen at hcm
      go_wp2_with fail
      clear hcell
      obtain ⟨wo, rfl⟩ : ∃ wo : World, wo = wr := ⟨_, rfl⟩
      obtain ⟨gn, rfl⟩ : ∃ gn : Nat, gn = gk := ⟨_, rfl⟩
      go_loopg [4, 5, 18] lk.length (fun gj f wt i wr => ∃ j first waits acc, Hid (gj + j = lk.length) ∧ j ≤ lk.length ∧ f = .int .u8 first ∧ wt = .bool waits ∧ i = .int .i64 (j : Int) ∧ St ((ls.take k).flatten ++ lk.take j) acc first waits ∧ Acc w0 acc wr)
      case atStart => exact ⟨0, first, waits, acc, rfl, Nat.zero_le _, rfl, rfl, rfl, by simpa using hst, hacc⟩
      case round =>
        obtain ⟨j, first, waits, acc, hgj, hj, rfl, rfl, rfl, hst, hacc⟩ := hrel
        by_cases hjl : j < lk.length
        · obtain ⟨q, hrunq, hcellq, hqb⟩ := (hrd.below hacc.below).index (c := ci) hjl
          have hx := getD_byte hb j
          obtain ⟨x, ex⟩ : ∃ x, lk.getD j 0 = x := ⟨_, rfl⟩
          rw [ex] at hcellq hx
          have Hex := Lib.hid (show (ls.take k).flatten ++ lk.take (j + 1) = (ls.take k).flatten ++ lk.take j ++ [x] by rw [take_one lk j hjl, ex, List.append_assoc])
          clear ex
          obtain ⟨hf0, hf1⟩ := hst.f
          obtain ⟨ha0, ha1⟩ := hst.bd
          have hor := or16 first x ⟨hf0, hf1⟩ hx
          obtain ⟨hx0, hx1⟩ := id hx
          cases waits
          · go_wp2_with fail
            go_roundg (gk - 1)
            case measure => have := hgj.out; omega
            case rel => exact ⟨j + 1, x, true, acc, by have := hgj.out; show gk - 1 + (j + 1) = _; omega, by omega, rfl, rfl, by go_num, by rw [Hex.out]; exact hst.two hx, hacc⟩
          · have hcb := cell_of_one hacc.blk
            have hfz := free_of_one hacc.blk
            go_wp2_with fail
            refine (tick_any _ acc (first * 256 + x) _ ⟨ha0, ha1⟩ (by unfold U16; omega) hcb hfz).mono ?_
            rintro e w1 ⟨rfl, rfl⟩
            clear hcb hfz hor
            go_wp2_with fail
            go_roundg (gk - 1)
            case measure => have := hgj.out; omega
            case rel => exact ⟨j + 1, x, false, _, by have := hgj.out; show gk - 1 + (j + 1) = _; omega, by omega, rfl, rfl, by go_num, by rw [Hex.out]; exact hst.one hx, hacc.set_ _⟩
        · go_wp2_with fail
          go_roundg (gn - 1)
          case measure => have := hgk.out; omega
          case rel => exact ⟨k + 1, first, waits, acc, by have := hgk.out; show gn - 1 + (k + 1) = _; omega, by omega, rfl, rfl, by go_num, by rw [flat_take ls k (by have := hlen.out; omega), Helk.out, ← List.take_of_length_le (show lk.length ≤ j by omega)]; exact hst, hacc⟩
    · have hd : (ls.take k).flatten = ls.flatten := by rw [List.take_of_length_le (by have := hlen.out; omega)]
      rw [hd] at hst
      clear hd
      obtain ⟨hf0, hf1⟩ := hst.f
      obtain ⟨ha0, ha1⟩ := hst.bd
      cases waits
      · go_wp2_with fail
        go_end0
        exact ⟨rfl, by rw [← hst.end0]; exact hacc⟩
      · have hcb := cell_of_one hacc.blk
        have hfz := free_of_one hacc.blk
        go_wp2_with fail
        refine (tick_any _ acc (first * 256) _ ⟨ha0, ha1⟩ (by unfold U16; omega) hcb hfz).mono ?_
        rintro e w1 ⟨rfl, rfl⟩
        clear hcb hfz
        go_wp2_with fail
        go_end0
        exact ⟨rfl, by rw [← hst.end1]; exact hacc.set_ _⟩

end Go.Proofs.YtheknmihnkennaaGreat

/-
  The contracts of package sum's Sum, Field and Right, and of the document's own Sum and Field (culvertref02), over bytes that read as lists.
-/
namespace Go.Proofs.YtheknmihnkennaaGreat
set_option maxRecDepth 10000
open Go.RowKit

/-- A number told, and nothing older has turned. -/
def SumIs (x : Int) (w : World) (e : Ending) (w' : World) : Prop := e = .returned (.int .u16 x) ∧ Below w.heap.size w w'
def BoolIs (x : Bool) (w : World) (e : Ending) (w' : World) : Prop := e = .returned (.bool x) ∧ Below w.heap.size w w'

theorem sum_any (A : Option Addr) (n c : Nat) (ls : List (List Int)) (w : World) (hn : n ≤ 9223372036854775807) (h : RdL w A n ls) :
    Calls Tryz.prog 74 #[.slice A n c] w (SumIs (sumL ls.flatten) w) := by
  have hmf : ∀ (fn : Fn) (first cap : Array Value) (w : World), (Instr.makeFunc fn first cap).run Tryz.prog w = .ok (.func fn first cap) w := fun _ _ _ _ => rfl
  have h0 : Acc w 0 (w.alloc (.cells #[.int .u16 0] 23)) := ⟨heap_alloc_new w _, (Below.refl _ _).alloc (Nat.le_refl _) _⟩
  go_enter Tryz.func74, Tryz.ntmps74
  go_wp2_with fail
  refine (each_any A n c ls w _ hn h0 h).mono ?_
  rintro e w1 ⟨rfl, hacc⟩
  have hcb := cell_of_one hacc.blk
  go_wp2_with fail
  go_ret
  exact ⟨rfl, hacc.below⟩

theorem field_any (A : Option Addr) (n c : Nat) (ls : List (List Int)) (w : World) (hn : n ≤ 9223372036854775807) (h : RdL w A n ls) :
    Calls Tryz.prog 67 #[.slice A n c] w (SumIs (65535 - sumL ls.flatten) w) := by
  have hx := not16 _ (sumL_bd ls.flatten)
  have Hx := Lib.hid hx
  clear hx
  go_enter Tryz.func67, Tryz.ntmps67
  go_wp2_with fail
  refine (sum_any A n c ls _ hn h).mono ?_
  rintro e w1 ⟨rfl, hb⟩
  go_wp2_with fail
  go_ret
  exact ⟨ret_int Hx.out, hb⟩

theorem right_any (A : Option Addr) (n c : Nat) (ls : List (List Int)) (w : World) (hn : n ≤ 9223372036854775807) (h : RdL w A n ls) :
    Calls Tryz.prog 37 #[.slice A n c] w (BoolIs (sumL ls.flatten == 65535) w) := by
  go_enter Tryz.func37, Tryz.ntmps37
  go_wp2_with fail
  refine (sum_any A n c ls _ hn h).mono ?_
  rintro e w1 ⟨rfl, hb⟩
  go_wp2_with fail
  go_ret
  exact ⟨rfl, hb⟩

theorem field_told (A : Option Addr) (n c : Nat) (ls : List (List Int)) (w : World) (x : Int) (hn : n ≤ 9223372036854775807) (h : RdL w A n ls) (hx : 65535 - sumL ls.flatten = x) :
    Calls Tryz.prog 67 #[.slice A n c] w (SumIs x w) := by subst hx; exact field_any A n c ls w hn h
theorem right_told (A : Option Addr) (n c : Nat) (ls : List (List Int)) (w : World) (x : Bool) (hn : n ≤ 9223372036854775807) (h : RdL w A n ls) (hx : (sumL ls.flatten == 65535) = x) :
    Calls Tryz.prog 37 #[.slice A n c] w (BoolIs x w) := by subst hx; exact right_any A n c ls w hn h


end Go.Proofs.YtheknmihnkennaaGreat
