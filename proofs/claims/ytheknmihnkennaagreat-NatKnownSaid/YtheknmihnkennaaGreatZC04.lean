/-
  Texts laid together: OwnRow, Pseudo, NatR, WireLay.
-/
import Derived.Test.YtheknmihnkennaaGreatZC03
import Derived.Test.YtheknmihnkennaaGreatZC02
import Derived.Lib.AppendZeros
import Derived.Lib.Hide
import Derived.Deep.LoopGhost
import Derived.LoopTactic
import Derived.Outline

/-
  A slice of bytes that the call itself made ('OwnB'): its cells, what leaves it as it is, one byte written; a row told ('RowIs'). No function of the program.
-/
namespace Go.Proofs.YtheknmihnkennaaGreat
set_option maxRecDepth 10000
open Go.RowKit

theorem OwnB.addr {w : World} {B : Nat} {A : Option Addr} {n c : Nat} {l : List Int} (h : OwnB w B A n c l) (hn : 0 < n) : ∃ g, A = some ⟨g, 0, none⟩ ∧ B ≤ g ∧ g < w.heap.size := by
  rcases h.2 with ⟨_, rfl⟩ | ⟨g, cap, cur, e, hB, hg, _⟩
  · omega
  · injection e with e1 _ _
    refine ⟨g, e1, hB, ?_⟩
    rcases Nat.lt_or_ge g w.heap.size with h' | h'
    · exact h'
    · rw [Array.getElem?_eq_none h'] at hg; cases hg
theorem map_set_u8 (l : List Int) (j : Nat) (x : Int) : (l.map (Value.int .u8)).set j (.int .u8 x) = (l.set j x).map (Value.int .u8) := by rw [List.map_set]
theorem OwnB.set_ {w : World} {B g n c : Nat} {l : List Int} (h : OwnB w B (some ⟨g, 0, none⟩) n c l) (j : Nat) (x : Int) : OwnB (w.setCell ⟨g, j, none⟩ (.int .u8 x)) B (some ⟨g, 0, none⟩) n c (l.set j x) := by
  have := (World.ownsRow.stored h j (.int .u8 x)).1
  rw [map_set_u8] at this
  exact this
theorem OwnB.cell {w : World} {B g n c : Nat} {l : List Int} (h : OwnB w B (some ⟨g, 0, none⟩) n c l) (j : Nat) (hj : j < n) : w.cell? ⟨g, j, none⟩ = some (.int .u8 (l.getD j 0)) := by
  have hl := h.len
  rw [World.ownsRow.cellAt h j (by omega), List.getElem?_map, List.getElem?_eq_getElem (by omega)]
  simp [List.getD, List.getElem?_eq_getElem (show j < l.length by omega)]
theorem OwnB.below {w w' : World} {B B' : Nat} {A : Option Addr} {n c : Nat} {l : List Int} (h : OwnB w B A n c l) (hb : Below B' w w') (hg : ∀ g, A = some ⟨g, 0, none⟩ → g < B') : OwnB w' B A n c l := by
  refine ⟨h.1, ?_⟩
  rcases h.2 with h0 | ⟨g, cap, cur, e, hB, hc, hrest⟩
  · exact .inl h0
  · refine .inr ⟨g, cap, cur, e, hB, ?_, hrest⟩
    rw [hb.block g (hg g (by injection e))]
    exact hc

theorem OwnB.capMax {w : World} {B : Nat} {A : Option Addr} {n c : Nat} {l : List Int} (h : OwnB w B A n c l) : c ≤ maxLen := by
  rcases h.2 with ⟨e, _⟩ | ⟨g, cap, cur, e, _, _, _, hcm, _⟩
  · injection e with _ _ e3; subst e3; simp
  · injection e with _ _ e3; subst e3; exact hcm
/-- A row of the call's own, told with its length and its list by name. -/
def RowIs (m : Nat) (l : List Int) (w : World) (e : Ending) (w' : World) : Prop := ∃ A c, e = .returned (.slice A m c) ∧ m ≤ c ∧ c ≤ maxLen ∧ OwnB w' w.heap.size A m c l ∧ Below w.heap.size w w'
theorem OwnB.on {w w' : World} {B : Nat} {A : Option Addr} {n c : Nat} {l : List Int} (h : OwnB w B A n c l) (hb : Below w.heap.size w w') : OwnB w' B A n c l := by
  refine h.below hb (fun g e => ?_)
  rcases h.2 with ⟨e0, _⟩ | ⟨g', cap, cur, e1, _, hg, _⟩
  · injection e0 with e0 _ _; rw [e0] at e; cases e
  · injection e1 with e1 _ _
    rw [e1] at e
    injection e with e
    injection e with e
    subst e
    rcases Nat.lt_or_ge g' w.heap.size with h' | h'
    · exact h'
    · rw [Array.getElem?_eq_none h'] at hg; cases hg
/-- What a law's round holds on to: nothing older has turned, and the row of its own is as the list says. -/
structure Hold (w : World) (A : Option Addr) (m c : Nat) (l : List Int) (wr : World) : Prop where
  old : Below w.heap.size w wr
  own : OwnB wr w.heap.size A m c l
theorem Hold.on {w : World} {A : Option Addr} {m c : Nat} {l : List Int} {wr w' : World} (h : Hold w A m c l wr) (hb : Below wr.heap.size wr w') : Hold w A m c l w' := ⟨below_trans h.old hb, h.own.on hb⟩
theorem Hold.drawn {w : World} {A : Option Addr} {m c : Nat} {l : List Int} {wr : World} (h : Hold w A m c l wr) (n : Nat) : Hold w A m c l { wr with drawn := n } := ⟨⟨h.old.os, h.old.tape, h.old.output, h.old.size, h.old.block⟩, h.own⟩
theorem on_alloc {w w' : World} {o : Obj} (hb : Below (w.alloc o).heap.size (w.alloc o) w') : Below w.heap.size w w' := ((Below.refl _ _).alloc (Nat.le_refl _) _).trans (hb.mono (by simp))
theorem OwnB.mono {w : World} {B B' : Nat} {A : Option Addr} {n c : Nat} {l : List Int} (h : OwnB w B A n c l) (hB : B' ≤ B) : OwnB w B' A n c l := by
  refine ⟨h.1, ?_⟩
  rcases h.2 with h0 | ⟨g, cap, cur, e, hg, r⟩
  · exact .inl h0
  · exact .inr ⟨g, cap, cur, e, Nat.le_trans hB hg, r⟩

end Go.Proofs.YtheknmihnkennaaGreat

/-
  The twelve bytes of the pseudo header, in a row of the call's own: the document's Pseudo (culvertref02); package sum's. (For the stages behind sum's: in place of SumPseudo, whose names clash with wire's.)
-/
namespace Go.Proofs.YtheknmihnkennaaGreat
set_option maxRecDepth 10000
open Go.RowKit

def pseudoL (s d p n : Int) : List Int :=
  [s / 16777216 % 256, s / 65536 % 256, s / 256 % 256, s % 256, d / 16777216 % 256, d / 65536 % 256, d / 256 % 256, d % 256, 0, p, n / 256 % 256, n % 256]
theorem pseudo_byte (s d p n : Int) (hp : 0 ≤ p ∧ p < 256) : ∀ x ∈ pseudoL s d p n, 0 ≤ x ∧ x < 256 := by
  intro x hx
  simp only [pseudoL, List.mem_cons, List.mem_nil_iff, or_false] at hx
  omega
theorem pseudo_any (s d p n : Int) (w : World) (_hp : 0 ≤ p ∧ p < 256) :
    Calls Tryz.prog 79 #[.int .u32 s, .int .u32 d, .int .u8 p, .int .i64 n] w (RowIs 12 (pseudoL s d p n) w) := by
  go_enter Tryz.func79, Tryz.ntmps79
  go_wp2_with fail
  go_ret
  refine ⟨_, _, rfl, by omega, by simp [maxLen], ⟨rfl, .inr ⟨_, 12, _, rfl, Nat.le_refl _, heap_alloc_new w _, by omega, by simp [maxLen], rfl, rfl⟩⟩, (Below.refl _ _).alloc (Nat.le_refl _) _⟩

end Go.Proofs.YtheknmihnkennaaGreat

/-
  What is rewritten is a packet still (stage 15, written ahead): plain lists. Its header is right, its payload's sum, its other parts.
-/
namespace Go.Proofs.YtheknmihnkennaaGreat
set_option maxRecDepth 10000
set_option linter.unusedSimpArgs false
set_option linter.unusedVariables false

theorem Bytes.take {l : List Int} (h : Bytes l) (m : Nat) : Bytes (l.take m) := fun x hx => h x (List.mem_of_mem_take hx)
theorem Bytes.drop {l : List Int} (h : Bytes l) (m : Nat) : Bytes (l.drop m) := fun x hx => h x (List.mem_of_mem_drop hx)
theorem errIp_parts (b : List Int) : errIp b = 0 ↔ b.length ≤ 1500 ∧ 20 ≤ b.length ∧ b.getD 0 0 / 16 = 4 ∧ 20 ≤ hdrL b ∧ hdrL b ≤ b.length ∧ longL b = b.length ∧ sumL (b.take (hdrL b).toNat) = 65535 ∧ flagsL b < 32768 ∧ flagsL b % 16384 = 0 ∧ b.getD 8 0 ≠ 0 := by
  unfold errIp
  by_cases h1 : 1500 < b.length
  · rw [if_pos h1]
    constructor
    · intro h; omega
    · intro h; omega
  · rw [if_neg h1]
    by_cases h2 : b.length < 20
    · rw [if_pos h2]
      constructor
      · intro h; omega
      · intro h; omega
    · rw [if_neg h2]
      unfold faultsIp
      rw [ask7]
      simp only [Bool.or_eq_false_iff, decide_eq_false_iff_not, Bool.not_eq_false', beq_iff_eq]
      omega
/-- Where a packet's words stand. -/
structure PkW (H : Nat) (b : List Int) : Prop where
  ok : errIp b = 0
  byte : Bytes b
  hH : (hdrL b).toNat = 2 * H
theorem PkW.of {b : List Int} (h : errIp b = 0) (hb : Bytes b) : PkW (2 * (b.getD 0 0 % 16).toNat) b := ⟨h, hb, by unfold hdrL; omega⟩
theorem PkW.ten {H : Nat} {b : List Int} (h : PkW H b) : 10 ≤ H ∧ 2 * H ≤ b.length := by
  have := (errIp_parts b).1 h.ok
  have := h.hH
  omega
def srW (b : List Int) : Int := wordL b 6 * 65536 + wordL b 7
def dsW (b : List Int) : Int := wordL b 8 * 65536 + wordL b 9
end Go.Proofs.YtheknmihnkennaaGreat

/-
  The contracts of slices.Grow (of nil), slices.Concat, and of package wire's U8, U16, U32: a row of bytes of the call's own.
-/
namespace Go.Proofs.YtheknmihnkennaaGreat
set_option maxRecDepth 10000
open Go.RowKit

theorem grow_zero (w : World) :
    Calls Tryz.prog 100 #[.slice none 0 0, .int .i64 0] w (RowIs 0 [] w) := by
  have Ho := Lib.hid (OwnB.nil w w.heap.size)
  go_enter Tryz.func100, Tryz.ntmps100
  go_wp2_with fail
  go_ret
  exact ⟨none, 0, rfl, Nat.le_refl _, by simp [maxLen], Ho.out, Below.refl _ _⟩

theorem grow_some (m : Nat) (w : World) (h0 : 0 < m) (hm : m ≤ 140737488355328) :
    Calls Tryz.prog 100 #[.slice none 0 0, .int .i64 (m : Int)] w (RowIs 0 [] w) := by
  obtain ⟨i0, hi, hz0, hz1, hz2⟩ := info_parts info5
  have hrz := fun ty => Lib.run_append_nil_zeros (P := Tryz.prog) w 22 3 ty 5 i0 (.int .u8 0) .i64 .i64 Tryz.underlying22 Tryz.underlying3 hi hz0 m h0 (by rw [hz1]; decide) (by omega) (by rw [hz2]; omega)
  have hG := grownCap_ge w m 0 5
  have hG2 := grownCap_le_maxLen w m 0 5 (by unfold maxLen; omega)
  obtain ⟨G, eG⟩ : ∃ G, grownCap w m 0 5 = G := ⟨_, rfl⟩
  rw [eG] at hrz hG hG2
  clear eG
  have hG3 : G ≤ 9223372036854775807 := by unfold maxLen at hG2; omega
  have HG2 := Lib.hid hG2
  have h0i : 0 < (m : Int) := by omega
  clear hG2
  go_enter Tryz.func100, Tryz.ntmps100
  go_wp2_with (at_builtin; refine Lib.wpList_append_run _ rfl _ _ _ _ rfl _ _ rfl rfl _ _ (hrz _) ?_)
  go_ret
  refine ⟨some ⟨w.heap.size, 0, none⟩, G, rfl, Nat.zero_le _, HG2.out, OwnB.made (cur := Builtin.zeroCells #[.int .u8 0] m ++ Builtin.zeroCells #[.int .u8 0] (G - m)) (heap_alloc_new w _) (Nat.le_refl _) HG2.out ?_, ((Below.refl _ _).alloc (Nat.le_refl _) _).drew⟩
  simp [Builtin.zeroCells]
  omega

theorem grow_nil (m : Nat) (w : World) (hm : m ≤ 140737488355328) :
    Calls Tryz.prog 100 #[.slice none 0 0, .int .i64 (m : Int)] w (RowIs 0 [] w) := by
  rcases Nat.eq_zero_or_pos m with h | h
  · subst h; exact grow_zero w
  · exact grow_some m w h hm

theorem flat_len_le (ls : List (List Int)) (k : Nat) : (ls.take k).flatten.length ≤ ls.flatten.length := by
  have h : ls.flatten = (ls.take k).flatten ++ (ls.drop k).flatten := by rw [← List.flatten_append, List.take_append_drop]
  rw [h, List.length_append]; omega

theorem concat_any (A : Option Addr) (n c : Nat) (ls : List (List Int)) (w : World) (hn : n ≤ 1000000) (h : RdL w A n ls) (hm : ls.flatten.length ≤ 140737488355328) :
    Calls Tryz.prog 68 #[.slice A n c] w (RowIs ls.flatten.length ls.flatten w) := by
  obtain ⟨T, hT⟩ : ∃ T, T = ls.flatten.length := ⟨_, rfl⟩
  rw [← hT] at hm ⊢
  have HT := Lib.hid hT
  have Hlen := Lib.hid h.len
  clear hT
  go_enter Tryz.func68, Tryz.ntmps68
  go_wp2_with fail
  go_loopg [3, 11] n (fun gk s i wr => ∃ j m : Nat, Hid (gk + j = n) ∧ j ≤ n ∧ i = .int .i64 (j : Int) ∧ m ≤ 140737488355328 ∧ s = .int .i64 (m : Int) ∧ Hid (m = (ls.take j).flatten.length) ∧ w = wr)
  case atStart => exact ⟨0, 0, rfl, Nat.zero_le _, rfl, by omega, rfl, rfl, rfl⟩
  case round =>
    obtain ⟨j, m, hgk, hj, rfl, hmj, rfl, hM, rfl⟩ := hrel
    by_cases hlt : j < n
    · obtain ⟨q, Ai, ci, hrunq, hqb, hcq, hci, hcm, hri⟩ := h.index (c := c) hlt
      have hsum : m + (ls.getD j []).length ≤ 140737488355328 := by
        have h1 := hM.out
        have h2 := flat_take ls j (by rw [Hlen.out]; exact hlt)
        have h3 := flat_len_le ls (j + 1)
        rw [h2, List.length_append, ← h1] at h3
        have := HT.out
        omega
      have Hs := Lib.hid (show m + (ls.getD j []).length = (ls.take (j + 1)).flatten.length by rw [flat_take ls j (by rw [Hlen.out]; exact hlt), List.length_append, ← hM.out])
      obtain ⟨k, ek⟩ : ∃ k, (ls.getD j []).length = k := ⟨_, rfl⟩
      rw [ek] at hcq hsum Hs
      clear hri hci ek
      go_wp2_with fail
      go_roundg (gk - 1)
      case measure => have := hgk.out; omega
      case rel => exact ⟨j + 1, m + k, by have := hgk.out; show gk - 1 + (j + 1) = _; omega, by omega, by go_num, hsum, by go_num, Hs, rfl⟩
    · obtain rfl : j = n := by omega
      have hmT : m = T := by
        have h1 := hM.out
        rw [List.take_of_length_le (by rw [Hlen.out]; exact Nat.le_refl _)] at h1
        rw [h1, HT.out]
      subst hmT
      go_wp2_with fail
      refine (grow_nil m _ hm).mono ?_
      rintro e w1 ⟨A1, c1, rfl, -, -, hown1, hb1⟩
      have hL := h
      have Hown1 := Lib.hid hown1
      have Hb1 := Lib.hid hb1
      clear hown1 hb1 hM hgk hj hmj h
      go_wp2_with fail
      go_loopg [6, 27] j (fun gk2 s i w2 => ∃ (k m2 : Nat) (A2 : Option Addr) (c2 : Nat), Hid (gk2 + k = j) ∧ k ≤ j ∧ i = .int .i64 (k : Int) ∧ m2 ≤ 140737488355328 ∧ s = .slice A2 m2 c2 ∧ Hid (OwnB w2 w.heap.size A2 m2 c2 (ls.take k).flatten) ∧ Below w.heap.size w w2)
      case atStart => exact ⟨0, 0, A1, c1, rfl, Nat.zero_le _, rfl, by omega, rfl, Hown1.out, Hb1.out⟩
      case round =>
        obtain ⟨k, m2, A2, c2, hgk2, hk, rfl, hm2, rfl, hown2, hb2⟩ := hrel
        have hbs := hb2.size
        by_cases hkj : k < j
        · obtain ⟨q, Ai, ci, hrunq, hqb, hcq0, hci, hcm, hri⟩ := hL.index (c := c) hkj
          have hcq : wr.cell? q = some (.slice Ai (ls.getD k []).length ci) := by rw [hb2.cell hqb]; exact hcq0
          have hri2 := hri.below hb2
          have hsum : m2 + (ls.getD k []).length ≤ 140737488355328 := by
            have h1 := hown2.out.len
            have h2 := flat_take ls k (by rw [Hlen.out]; exact hkj)
            have h3 := flat_len_le ls (k + 1)
            rw [h2, List.length_append, h1] at h3
            have := HT.out
            omega
          have Hri := Lib.hid hri2
          have Hf := Lib.hid (flat_take ls k (by rw [Hlen.out]; exact hkj))
          obtain ⟨k2, ek⟩ : ∃ k2, (ls.getD k []).length = k2 := ⟨_, rfl⟩
          rw [ek] at hcq hsum Hri
          clear hri hri2 hci ek hcq0
          go_wp2_with (refine wpList_app rfl (.tmp 31) (.tmp 32) rfl w.heap.size A2 Ai m2 c2 k2 ci _ _ rfl rfl hown2.out Hri.out hsum hbs ?_; intro A3 c3 w3 hown3 _ hb3 _)
          have Hown3 : Hid (OwnB w3 w.heap.size A3 (m2 + k2) c3 (ls.take (k + 1)).flatten) := by
            show OwnB _ _ _ _ _ _
            rw [Hf.out]; exact hown3
          clear hown3
          go_roundg (gk - 1)
          case measure => have := hgk2.out; omega
          case rel => exact ⟨k + 1, m2 + k2, A3, c3, by have := hgk2.out; show gk - 1 + (k + 1) = _; omega, by omega, by go_num, hsum, rfl, Hown3, hb2.trans hb3⟩
        · obtain rfl : k = j := by omega
          have hmm : m2 = m := by
            have h1 := hown2.out.len
            rw [List.take_of_length_le (by rw [Hlen.out]; exact Nat.le_refl _)] at h1
            have := HT.out
            omega
          subst hmm
          go_wp2_with fail
          go_ret
          have ho := hown2.out
          rw [List.take_of_length_le (by rw [Hlen.out]; exact Nat.le_refl _)] at ho
          exact ⟨A2, c2, rfl, ho.cap, ho.capMax, ho, hb2⟩

theorem RdL.twoW (w : World) (t : TypeId) (A A' : Option Addr) (n c n' c' : Nat) (l l' : List Int) (hc : n ≤ c ∧ c ≤ maxLen) (hc' : n' ≤ c' ∧ c' ≤ maxLen) (h : Rd w A n l) (h' : Rd w A' n' l') :
    RdL (w.alloc (.cells #[.slice A n c, .slice A' n' c'] t)) (some ⟨w.heap.size, 0, none⟩) 2 [l, l'] := by
  have hb : Below w.heap.size w (w.alloc (.cells #[.slice A n c, .slice A' n' c'] t)) := (Below.refl _ _).alloc (Nat.le_refl _) _
  refine ⟨rfl, fun _ => ⟨w.heap.size, 0, rfl, by simp, fun i hi => ?_⟩⟩
  have e : ∀ j, (w.alloc (.cells #[.slice A n c, .slice A' n' c'] t)).cell? ⟨w.heap.size, j, none⟩ = #[Value.slice A n c, .slice A' n' c'][j]? := fun j => by rw [World.cell?_alloc_mark]
  match i, hi with
  | 0, _ => exact ⟨A, c, by rw [e]; simp [h.len], by simpa [h.len] using hc.1, hc.2, by simpa [h.len] using h.below hb⟩
  | 1, _ => exact ⟨A', c', by rw [e]; simp [h'.len], by simpa [h'.len] using hc'.1, hc'.2, by simpa [h'.len] using h'.below hb⟩

theorem lay_bytes (A A' : Option Addr) (n c n' c' : Nat) (l l' : List Int) (w : World) (hc : n ≤ c ∧ c ≤ maxLen) (hc' : n' ≤ c' ∧ c' ≤ maxLen) (hm : n + n' ≤ 140737488355328) (h : Rd w A n l) (h' : Rd w A' n' l') :
    Calls Tryz.prog 101 #[.slice A n c, .slice A' n' c'] w (RowIs (n + n') (l ++ l') w) := by
  have hb := (Below.refl w.heap.size w).alloc (Nat.le_refl _) (.cells #[.slice A n c, .slice A' n' c'] 22)
  have hcc := concat_any (some ⟨w.heap.size, 0, none⟩) 2 2 [l, l'] _ (by omega) (RdL.twoW w 22 A A' n c n' c' l l' hc hc' h h') (by simp [h.len, h'.len]; omega)
  rw [show [l, l'].flatten = l ++ l' by simp, show (l ++ l').length = n + n' by simp [h.len, h'.len]] at hcc
  have Hcc := Lib.hid hcc
  have Hb := Lib.hid hb
  clear hb hcc h h'
  go_enter Tryz.func101, Tryz.ntmps101
  go_wp2_with fail
  refine Hcc.out.mono ?_
  rintro e w1 ⟨A1, c1, rfl, h1, h2, hown, hb1⟩
  have Hown := Lib.hid hown
  have Hb1 := Lib.hid hb1
  clear hown hb1
  go_wp2_with fail
  go_ret
  exact ⟨A1, c1, rfl, h1, h2, Hown.out.mono (by simp), below_trans Hb.out Hb1.out⟩

/-- A number's bytes, the highest first. -/
def be16 (x : Int) : List Int := [x / 256, x % 256]
def be32 (x : Int) : List Int := [x / 16777216, x / 65536 % 256, x / 256 % 256, x % 256]
theorem u8_lays (A : Option Addr) (n c : Nat) (l : List Int) (x : Int) (w : World) (hx : 0 ≤ x ∧ x < 256) (hc : n ≤ c ∧ c ≤ maxLen) (hm : n + 1 ≤ 140737488355328) (h : Rd w A n l) :
    Calls Tryz.prog 95 #[.slice A n c, .int .u8 x] w (RowIs (n + 1) (l ++ [x]) w) := by
  have hb := (Below.refl w.heap.size w).alloc (Nat.le_refl _) (.cells ([x].map (Value.int .u8)).toArray 5)
  have hl := lay_bytes A (some ⟨w.heap.size, 0, none⟩) n c 1 1 l [x] _ hc (by simp [maxLen]) hm (h.below hb) (Rd.const w [x] 5 (0, 0) (by simpa using hx))
  obtain ⟨hx0, hx1⟩ := hx
  have Hl := Lib.hid hl
  have Hb := Lib.hid hb
  clear hb hl h
  go_enter Tryz.func95, Tryz.ntmps95
  go_wp2_with fail
  refine Hl.out.mono ?_
  rintro e w1 ⟨A1, c1, rfl, h1, h2, hown, hb1⟩
  have Hown := Lib.hid hown
  have Hb1 := Lib.hid hb1
  clear hown hb1
  go_wp2_with fail
  go_ret
  exact ⟨A1, c1, rfl, h1, h2, Hown.out.mono (by simp), below_trans Hb.out Hb1.out⟩
theorem u16_lays (A : Option Addr) (n c : Nat) (l : List Int) (x : Int) (w : World) (hx : 0 ≤ x ∧ x < 65536) (hc : n ≤ c ∧ c ≤ maxLen) (hm : n + 2 ≤ 140737488355328) (h : Rd w A n l) :
    Calls Tryz.prog 69 #[.slice A n c, .int .u16 x] w (RowIs (n + 2) (l ++ (be16 x)) w) := by
  have hb := (Below.refl w.heap.size w).alloc (Nat.le_refl _) (.cells ((be16 x).map (Value.int .u8)).toArray 5)
  have hl := lay_bytes A (some ⟨w.heap.size, 0, none⟩) n c 2 2 l (be16 x) _ hc (by simp [maxLen]) hm (h.below hb) (Rd.const w (be16 x) 5 (0, 0) (by unfold be16; simp; omega))
  obtain ⟨hx0, hx1⟩ := hx
  have Hl := Lib.hid hl
  have Hb := Lib.hid hb
  clear hb hl h
  go_enter Tryz.func69, Tryz.ntmps69
  go_wp2_with fail
  refine Hl.out.mono ?_
  rintro e w1 ⟨A1, c1, rfl, h1, h2, hown, hb1⟩
  have Hown := Lib.hid hown
  have Hb1 := Lib.hid hb1
  clear hown hb1
  go_wp2_with fail
  go_ret
  exact ⟨A1, c1, rfl, h1, h2, Hown.out.mono (by simp), below_trans Hb.out Hb1.out⟩
theorem u32_lays (A : Option Addr) (n c : Nat) (l : List Int) (x : Int) (w : World) (hx : 0 ≤ x ∧ x < 4294967296) (hc : n ≤ c ∧ c ≤ maxLen) (hm : n + 4 ≤ 140737488355328) (h : Rd w A n l) :
    Calls Tryz.prog 93 #[.slice A n c, .int .u32 x] w (RowIs (n + 4) (l ++ (be32 x)) w) := by
  have hb := (Below.refl w.heap.size w).alloc (Nat.le_refl _) (.cells ((be32 x).map (Value.int .u8)).toArray 5)
  have hl := lay_bytes A (some ⟨w.heap.size, 0, none⟩) n c 4 4 l (be32 x) _ hc (by simp [maxLen]) hm (h.below hb) (Rd.const w (be32 x) 5 (0, 0) (by unfold be32; simp; omega))
  obtain ⟨hx0, hx1⟩ := hx
  have Hl := Lib.hid hl
  have Hb := Lib.hid hb
  clear hb hl h
  go_enter Tryz.func93, Tryz.ntmps93
  go_wp2_with fail
  refine Hl.out.mono ?_
  rintro e w1 ⟨A1, c1, rfl, h1, h2, hown, hb1⟩
  have Hown := Lib.hid hown
  have Hb1 := Lib.hid hb1
  clear hown hb1
  go_wp2_with fail
  go_ret
  exact ⟨A1, c1, rfl, h1, h2, Hown.out.mono (by simp), below_trans Hb.out Hb1.out⟩

end Go.Proofs.YtheknmihnkennaaGreat
