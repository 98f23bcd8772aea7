/-
  Texts laid together: SumNum, SumSum, SumAny, But.
-/
import Derived.Test.YtkooehejdfaekaaZK01
import Derived.Test.YtkooehejdfaekaaZK02
import Derived.OneCell
import Derived.Deep.LoopGhost
import Derived.LoopTactic
import Derived.Outline

/-
  The contracts of package sum's calls on numbers (add, Word, Long), and of the document's own answers (culvertref02) for them: each leaves the world as it was.
-/
namespace Go.Proofs.Ytkooehejdfaekaa
set_option maxRecDepth 10000
open Go.RowKit

theorem add_any (a b : Int) (w : World) (ha : U16 a) (hb : U16 b) :
    Calls Try.prog 41 #[.int .u16 a, .int .u16 b] w fun e w' => e = .returned (.int .u16 (add16 a b)) ∧ w = w' := by
  obtain ⟨ha0, ha1⟩ := ha
  obtain ⟨hb0, hb1⟩ := hb
  by_cases h : 65535 < a + b
  · go_enter Try.func41, Try.ntmps41
    go_wp2
    go_ret
    exact ⟨ret_int (by unfold add16; rw [if_pos h]; (try rw [wrap_u16]); (try rw [wrap_u16]); omega), rfl⟩
  · go_enter Try.func41, Try.ntmps41
    go_wp2
    go_ret
    exact ⟨ret_int (by unfold add16; rw [if_neg (by omega)]), rfl⟩

end Go.Proofs.Ytkooehejdfaekaa

/-
  The contracts of package sum's Sum, Field and Right over parts that read as lists of bytes: the sum of all of them, one behind the other.
-/
namespace Go.Proofs.Ytkooehejdfaekaa
set_option maxRecDepth 10000
open Go.RowKit

theorem tick_any (p : Addr) (x y : Int) (w : World) (hx : U16 x) (hy : U16 y) (hc : w.cell? p = some (.int .u16 x)) (hf : w.frozen? p = false) :
    Calls Try.prog 40 #[.int .u16 y, .pointer (some p)] w fun e w' => e = .returned (.tuple #[]) ∧ w' = w.setCell p (.int .u16 (add16 x y)) := by
  go_enter Try.func40, Try.ntmps40
  go_wp2_with fail
  refine (add_any _ _ _ hx hy).mono ?_
  rintro e w' ⟨rfl, rfl⟩
  go_wp2_with fail
  go_end0
  exact ⟨rfl, rfl⟩

/-- The worlds of eachWord: the captured sum lies alone in the first block behind the older ones, and nothing older has turned. -/
structure Acc (w : World) (x : Int) (w' : World) : Prop where
  blk : w'.heap[w.heap.size]? = some (.cells #[.int .u16 x] 22 (0, 0))
  below : Below w.heap.size w w'
theorem Acc.set_ {w w' : World} {x : Int} (h : Acc w x w') (y : Int) : Acc w y (w'.setCell ⟨w.heap.size, 0, none⟩ (.int .u16 y)) :=
  ⟨one_setCell h.blk, h.below.setCell (Nat.le_refl _) _⟩

set_option maxHeartbeats 1000000 in
theorem each_any (A : Option Addr) (n c : Nat) (ls : List (List Int)) (w0 w : World) (hn : n ≤ 9223372036854775807) (h0 : Acc w0 0 w) (h : RdL w0 A n ls) :
    Calls Try.prog 39 #[.slice A n c, .func (.func 40) #[] #[.pointer (some ⟨w0.heap.size, 0, none⟩)]] w fun e w' => e = .returned (.tuple #[]) ∧ Acc w0 (sumL ls.flatten) w' := by
  have hlen := Lib.hid h.len
  go_enter Try.func39, Try.ntmps39
  go_wp2_with fail
  go_loopg [4, 5, 12] n (fun gk f wt i wr => ∃ k first waits acc, Hid (gk + k = n) ∧ k ≤ n ∧ f = .int .u8 first ∧ wt = .bool waits ∧ i = .int .i64 (k : Int) ∧ St (ls.take k).flatten acc first waits ∧ Acc w0 acc wr)
  case atStart => exact ⟨0, 0, false, 0, rfl, Nat.zero_le _, rfl, rfl, rfl, St.nil, h0⟩
  case round =>
    obtain ⟨k, first, waits, acc, hgk, hk, rfl, rfl, rfl, hst, hacc⟩ := hrel
    by_cases hlt : k < n
    · obtain ⟨p, Ai, ci, hrun, hpb, hcell0, hci, hcm, hrd⟩ := h.index (c := c) hlt
      have hcell := (hacc.below.cell hpb).trans hcell0
      clear hcell0 hpb
      obtain ⟨lk, elk⟩ : ∃ lk, ls.getD k [] = lk := ⟨_, rfl⟩
      rw [elk] at hcell hci hrd
      have hb := hrd.byte
      have Helk := Lib.hid elk
      clear elk
      unfold maxLen at hcm
      go_wp2_with fail
      clear hcell
      obtain ⟨wo, rfl⟩ : ∃ wo : World, wo = wr := ⟨_, rfl⟩
      obtain ⟨gn, rfl⟩ : ∃ gn : Nat, gn = gk := ⟨_, rfl⟩
      go_loopg [4, 5, 18] lk.length (fun gj f wt i wr => ∃ j first waits acc, Hid (gj + j = lk.length) ∧ j ≤ lk.length ∧ f = .int .u8 first ∧ wt = .bool waits ∧ i = .int .i64 (j : Int) ∧ St ((ls.take k).flatten ++ lk.take j) acc first waits ∧ Acc w0 acc wr)
      case atStart => exact ⟨0, first, waits, acc, rfl, Nat.zero_le _, rfl, rfl, rfl, by simpa using hst, hacc⟩
      case round =>
        obtain ⟨j, first, waits, acc, hgj, hj, rfl, rfl, rfl, hst, hacc⟩ := hrel
        by_cases hjl : j < lk.length
        · obtain ⟨q, hrunq, hcellq, hqb⟩ := (hrd.below hacc.below).index (c := ci) hjl
          have hx := getD_byte hb j
          obtain ⟨x, ex⟩ : ∃ x, lk.getD j 0 = x := ⟨_, rfl⟩
          rw [ex] at hcellq hx
          have Hex := Lib.hid (show (ls.take k).flatten ++ lk.take (j + 1) = (ls.take k).flatten ++ lk.take j ++ [x] by rw [take_one lk j hjl, ex, List.append_assoc])
          clear ex
          obtain ⟨hf0, hf1⟩ := hst.f
          obtain ⟨ha0, ha1⟩ := hst.bd
          have hor := or16 first x ⟨hf0, hf1⟩ hx
          obtain ⟨hx0, hx1⟩ := id hx
          cases waits
          · go_wp2_with fail
            go_roundg (gk - 1)
            case measure => have := hgj.out; omega
            case rel => exact ⟨j + 1, x, true, acc, by have := hgj.out; show gk - 1 + (j + 1) = _; omega, by omega, rfl, rfl, by go_num, by rw [Hex.out]; exact hst.two hx, hacc⟩
          · have hcb := cell_of_one hacc.blk
            have hfz := free_of_one hacc.blk
            go_wp2_with fail
            refine (tick_any _ acc (first * 256 + x) _ ⟨ha0, ha1⟩ (by unfold U16; omega) hcb hfz).mono ?_
            rintro e w1 ⟨rfl, rfl⟩
            clear hcb hfz hor
            go_wp2_with fail
            go_roundg (gk - 1)
            case measure => have := hgj.out; omega
            case rel => exact ⟨j + 1, x, false, _, by have := hgj.out; show gk - 1 + (j + 1) = _; omega, by omega, rfl, rfl, by go_num, by rw [Hex.out]; exact hst.one hx, hacc.set_ _⟩
        · go_wp2_with fail
          go_roundg (gn - 1)
          case measure => have := hgk.out; omega
          case rel => exact ⟨k + 1, first, waits, acc, by have := hgk.out; show gn - 1 + (k + 1) = _; omega, by omega, rfl, rfl, by go_num, by rw [flat_take ls k (by have := hlen.out; omega), Helk.out, ← List.take_of_length_le (show lk.length ≤ j by omega)]; exact hst, hacc⟩
    · have hd : (ls.take k).flatten = ls.flatten := by rw [List.take_of_length_le (by have := hlen.out; omega)]
      rw [hd] at hst
      clear hd
      obtain ⟨hf0, hf1⟩ := hst.f
      obtain ⟨ha0, ha1⟩ := hst.bd
      cases waits
      · go_wp2_with fail
        go_end0
        exact ⟨rfl, by rw [← hst.end0]; exact hacc⟩
      · have hcb := cell_of_one hacc.blk
        have hfz := free_of_one hacc.blk
        go_wp2_with fail
        refine (tick_any _ acc (first * 256) _ ⟨ha0, ha1⟩ (by unfold U16; omega) hcb hfz).mono ?_
        rintro e w1 ⟨rfl, rfl⟩
        clear hcb hfz
        go_wp2_with fail
        go_end0
        exact ⟨rfl, by rw [← hst.end1]; exact hacc.set_ _⟩

end Go.Proofs.Ytkooehejdfaekaa

/-
  The contracts of package sum's Sum, Field and Right, and of the document's own Sum and Field (culvertref02), over bytes that read as lists.
-/
namespace Go.Proofs.Ytkooehejdfaekaa
set_option maxRecDepth 10000
open Go.RowKit

/-- A number told, and nothing older has turned. -/
def SumIs (x : Int) (w : World) (e : Ending) (w' : World) : Prop := e = .returned (.int .u16 x) ∧ Below w.heap.size w w'
def BoolIs (x : Bool) (w : World) (e : Ending) (w' : World) : Prop := e = .returned (.bool x) ∧ Below w.heap.size w w'

theorem sum_any (A : Option Addr) (n c : Nat) (ls : List (List Int)) (w : World) (hn : n ≤ 9223372036854775807) (h : RdL w A n ls) :
    Calls Try.prog 18 #[.slice A n c] w (SumIs (sumL ls.flatten) w) := by
  have hmf : ∀ (fn : Fn) (first cap : Array Value) (w : World), (Instr.makeFunc fn first cap).run Try.prog w = .ok (.func fn first cap) w := fun _ _ _ _ => rfl
  have h0 : Acc w 0 (w.alloc (.cells #[.int .u16 0] 22)) := ⟨heap_alloc_new w _, (Below.refl _ _).alloc (Nat.le_refl _) _⟩
  go_enter Try.func18, Try.ntmps18
  go_wp2_with fail
  refine (each_any A n c ls w _ hn h0 h).mono ?_
  rintro e w1 ⟨rfl, hacc⟩
  have hcb := cell_of_one hacc.blk
  go_wp2_with fail
  go_ret
  exact ⟨rfl, hacc.below⟩

theorem field_any (A : Option Addr) (n c : Nat) (ls : List (List Int)) (w : World) (hn : n ≤ 9223372036854775807) (h : RdL w A n ls) :
    Calls Try.prog 21 #[.slice A n c] w (SumIs (65535 - sumL ls.flatten) w) := by
  have hx := not16 _ (sumL_bd ls.flatten)
  have Hx := Lib.hid hx
  clear hx
  go_enter Try.func21, Try.ntmps21
  go_wp2_with fail
  refine (sum_any A n c ls _ hn h).mono ?_
  rintro e w1 ⟨rfl, hb⟩
  go_wp2_with fail
  go_ret
  exact ⟨ret_int Hx.out, hb⟩

theorem right_any (A : Option Addr) (n c : Nat) (ls : List (List Int)) (w : World) (hn : n ≤ 9223372036854775807) (h : RdL w A n ls) :
    Calls Try.prog 8 #[.slice A n c] w (BoolIs (sumL ls.flatten == 65535) w) := by
  go_enter Try.func8, Try.ntmps8
  go_wp2_with fail
  refine (sum_any A n c ls _ hn h).mono ?_
  rintro e w1 ⟨rfl, hb⟩
  go_wp2_with fail
  go_ret
  exact ⟨rfl, hb⟩

theorem field_told (A : Option Addr) (n c : Nat) (ls : List (List Int)) (w : World) (x : Int) (hn : n ≤ 9223372036854775807) (h : RdL w A n ls) (hx : 65535 - sumL ls.flatten = x) :
    Calls Try.prog 21 #[.slice A n c] w (SumIs x w) := by subst hx; exact field_any A n c ls w hn h
theorem right_told (A : Option Addr) (n c : Nat) (ls : List (List Int)) (w : World) (x : Bool) (hn : n ≤ 9223372036854775807) (h : RdL w A n ls) (hx : (sumL ls.flatten == 65535) = x) :
    Calls Try.prog 8 #[.slice A n c] w (BoolIs x w) := by subst hx; exact right_any A n c ls w hn h


end Go.Proofs.Ytkooehejdfaekaa

/-
  'But S w w'': of what was there, nothing but the blocks in S has turned. No function of the program.
-/
namespace Go.Proofs.Ytkooehejdfaekaa
set_option maxRecDepth 10000
open Go.RowKit

/-- Of what was there, nothing but the blocks in S has turned; the streams are as they were. -/
structure But (S : Nat → Prop) (w w' : World) : Prop where
  os : w'.os = w.os
  tape : w'.tape = w.tape
  output : w'.output = w.output
  size : w.heap.size ≤ w'.heap.size
  block : ∀ k, k < w.heap.size → ¬ S k → w'.heap[k]? = w.heap[k]?

variable {S S' : Nat → Prop} {a b c w w' : World}
theorem But.refl (S : Nat → Prop) (w : World) : But S w w := ⟨rfl, rfl, rfl, Nat.le_refl _, fun _ _ _ => rfl⟩
theorem But.trans (h : But S a b) (k : But S b c) : But S a c :=
  ⟨k.os.trans h.os, k.tape.trans h.tape, k.output.trans h.output, Nat.le_trans h.size k.size, fun i hi hs => (k.block i (Nat.lt_of_lt_of_le hi h.size) hs).trans (h.block i hi hs)⟩
theorem But.mono (h : But S w w') (hS : ∀ k, k < w.heap.size → S k → S' k) : But S' w w' := ⟨h.os, h.tape, h.output, h.size, fun k hk hn => h.block k hk (fun hs => hn (hS k hk hs))⟩
/-- Two steps, each with its own blocks. -/
theorem But.trans2 (h : But S a b) (k : But S' b c) (hS : ∀ k, k < a.heap.size → S' k → S k) : But S a c :=
  ⟨k.os.trans h.os, k.tape.trans h.tape, k.output.trans h.output, Nat.le_trans h.size k.size, fun i hi hs => (k.block i (Nat.lt_of_lt_of_le hi h.size) (fun x => hs (hS i hi x))).trans (h.block i hi hs)⟩
theorem But.setCell (h : But S a w) {p : Addr} (hp : S p.block) (u : Value) : But S a (w.setCell p u) :=
  h.trans ⟨rfl, rfl, rfl, by simp [World.setCell], fun k _ hn => Below.heap_setCell _ _ _ _ (fun e => hn (e ▸ hp))⟩
/-- A store into a block that is new. -/
theorem But.setNew (h : But S a w) {p : Addr} (hp : a.heap.size ≤ p.block) (u : Value) : But S a (w.setCell p u) :=
  ⟨h.os, h.tape, h.output, by have := h.size; simpa [World.setCell] using this, fun k hk hn => (Below.heap_setCell _ _ _ _ (by omega)).trans (h.block k hk hn)⟩
theorem But.alloc (h : But S a w) (o : Obj) : But S a (w.alloc o) :=
  ⟨h.os, h.tape, h.output, by have := h.size; simp; omega, fun k hk hn => (Below.heap_alloc _ _ _ (Nat.lt_of_lt_of_le hk h.size)).trans (h.block k hk hn)⟩
theorem But.drawn (h : But S a w) (n : Nat) : But S a { w with drawn := n } := ⟨h.os, h.tape, h.output, h.size, h.block⟩
theorem But.drew (h : But S a w) : But S a w.drew := ⟨h.os, h.tape, h.output, h.size, h.block⟩
theorem But.below {B : Nat} (h : But S w w') (hS : ∀ k, S k → B ≤ k) (hB : B ≤ w.heap.size) : Below B w w' := ⟨h.os, h.tape, h.output, h.size, fun k hk => h.block k (by omega) (fun hs => by have := hS k hs; omega)⟩
theorem But.old (h : But S w w') (hS : ∀ k, S k → w.heap.size ≤ k) : Below w.heap.size w w' := h.below hS (Nat.le_refl _)
theorem But.of (h : Below w.heap.size w w') : But S w w' := ⟨h.os, h.tape, h.output, h.size, fun k hk _ => h.block k hk⟩
theorem But.cell (h : But S w w') {p : Addr} (hp : p.block < w.heap.size) (hn : ¬ S p.block) : w'.cell? p = w.cell? p := World.cell?_of_block (w := w) (h.block p.block hp hn)
theorem But.lt {k : Nat} (h : But S w w') (hk : k < w.heap.size) : k < w'.heap.size := Nat.lt_of_lt_of_le hk h.size

theorem lt_of_block {w : World} {g : Nat} {o : Obj} (h : w.heap[g]? = some o) : g < w.heap.size := by
  rcases Nat.lt_or_ge g w.heap.size with h' | h'
  · exact h'
  · rw [Array.getElem?_eq_none h'] at h; cases h
theorem But.blk {k : Nat} {o : Obj} (h : But S w w') (hb : w.heap[k]? = some o) (hn : ¬ S k) : w'.heap[k]? = some o := (h.block k (lt_of_block hb) hn).trans hb

theorem Rd.but {A : Option Addr} {n : Nat} {l : List Int} (h : Rd w A n l) (hb : But S w w') (hn : ∀ g o, A = some ⟨g, o, none⟩ → 0 < n → ¬ S g) : Rd w' A n l :=
  ⟨h.len, h.byte, fun h0 => by
    obtain ⟨g, o, e, hlt, hc⟩ := h.at_ h0
    exact ⟨g, o, e, hb.lt hlt, fun i hi => by rw [hb.cell (p := ⟨g, o + i, none⟩) hlt (hn g o e h0)]; exact hc i hi⟩⟩

/-- A part of a row of bytes. -/
theorem Rd.drop_ {A : Option Addr} {n m : Nat} {l : List Int} {k : Nat} {g o : Nat} (h : Rd w A n l) (hA : A = some ⟨g, o, none⟩) (hk : n = k + m) : Rd w (some ⟨g, o + k, none⟩) m (l.drop k) := by
  subst hk
  refine ⟨by rw [List.length_drop, h.len]; omega, fun x hx => h.byte x (List.mem_of_mem_drop hx), fun h0 => ?_⟩
  obtain ⟨b, o', e, hlt, hc⟩ := h.at_ (by omega)
  rw [hA] at e
  injection e with e
  injection e with e1 e2
  subst e1; subst e2
  refine ⟨_, _, rfl, hlt, fun i hi => ?_⟩
  rw [Nat.add_assoc, hc (k + i) (by omega)]
  simp [List.getD, List.getElem?_drop]

/-- Rows of bytes and other things do not lie in one block. -/
theorem Rd.apart {A : Option Addr} {n : Nat} {l : List Int} {g o k : Nat} {cs : Array Value} {t : TypeId} {fr : Nat × Nat} (h : Rd w A n l) (hA : A = some ⟨g, o, none⟩) (h0 : 0 < n)
    (hk : w.heap[k]? = some (.cells cs t fr)) (hcs : ∀ (j : Nat) (x : Int), cs[j]? ≠ some (Value.int .u8 x)) : g ≠ k := by
  intro e
  subst e
  obtain ⟨b, o', e, hlt, hc⟩ := h.at_ h0
  rw [hA] at e
  injection e with e
  injection e with e1 e2
  subst e1; subst e2
  have := hc 0 h0
  simp [World.cell?, hk] at this
  exact hcs _ _ this

/-- A block that is known whole. -/
theorem blk_cell {w : World} {g : Nat} {C : Array Value} {t : TypeId} {fr : Nat × Nat} (h : w.heap[g]? = some (.cells C t fr)) (i : Nat) : w.cell? ⟨g, i, none⟩ = C[i]? := by simp [World.cell?, h]
theorem blk_free {w : World} {g : Nat} {C : Array Value} {t : TypeId} (h : w.heap[g]? = some (.cells C t (0, 0))) (i : Nat) : w.frozen? ⟨g, i, none⟩ = false := by simp [World.frozen?, h]
theorem blk_on {w w' : World} {g : Nat} {o : Obj} (h : w.heap[g]? = some o) (hb : Below w.heap.size w w') : w'.heap[g]? = some o := (hb.block g (lt_of_block h)).trans h
theorem OwnB.but {S : Nat → Prop} {w w' : World} {B : Nat} {A : Option Addr} {n c : Nat} {l : List Int} (h : OwnB w B A n c l) (hb : But S w w') (hS : ∀ k, B ≤ k → ¬ S k) : OwnB w' B A n c l := by
  refine ⟨h.1, ?_⟩
  rcases h.2 with h0 | ⟨g, cap, cur, e, hB, hc, hrest⟩
  · exact .inl h0
  · exact .inr ⟨g, cap, cur, e, hB, hb.blk hc (hS g hB), hrest⟩
end Go.Proofs.Ytkooehejdfaekaa
