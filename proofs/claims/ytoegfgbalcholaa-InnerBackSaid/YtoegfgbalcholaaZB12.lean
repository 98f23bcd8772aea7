/-
  Texts laid together: SegPut, InWakes, InAs, InSame.
-/
import Derived.Test.YtoegfgbalcholaaZB11
import Derived.Test.YtoegfgbalcholaaZB08
import Derived.Test.YtoegfgbalcholaaZB03
import Derived.Laws.StructEq
import Derived.Test.YtoegfgbalcholaaZB07
import Derived.Test.YtoegfgbalcholaaZB10
import Derived.Deep.QuietTactic
import Derived.BigQuiet

/-
  The contract of culvertref06's Put (and May).
-/
namespace Go.Proofs.Ytoegfgbalcholaa
set_option maxRecDepth 10000
open Go.RowKit

def b2 (n : Int) : List Int := [n / 256 % 256, n % 256]
def b4 (n : Int) : List Int := [n / 16777216 % 256, n / 65536 % 256, n / 256 % 256, n % 256]
def segHd (s : Seg) (off f : Int) : List Int := b2 s.sp ++ b2 s.dp ++ b4 s.sq ++ b4 s.ak ++ [off, s.fl] ++ b2 s.wn ++ b2 f ++ b2 s.ug
def optB (s : Seg) : List Int := padTo4 (bytesO s.os)
def offS (s : Seg) : Int := (20 + ((optB s).length : Int)) / 4 * 16
def lenB (s : Seg) : Nat := 20 + (optB s).length + s.d.length
def fieldS (src dst : Int) (s : Seg) : Int := 65535 - sumL (pseudoL src dst 6 (lenB s) ++ (segHd s (offS s) 0 ++ optB s ++ s.d))
def segB (src dst : Int) (s : Seg) : List Int := segHd s (offS s) (fieldS src dst s) ++ optB s ++ s.d
theorem seg_cells {W : World} {z : Nat} {v0 v1 v2 v3 v4 v5 v6 v7 v8 : Value} (h : W.heap[z]? = some (.cells #[v0, v1, v2, v3, v4, v5, v6, v7, v8] 46 (0, 0))) :
    W.cell? ⟨z, 0, none⟩ = some v0 ∧ W.cell? ⟨z, 1, none⟩ = some v1 ∧ W.cell? ⟨z, 2, none⟩ = some v2 ∧ W.cell? ⟨z, 3, none⟩ = some v3 ∧ W.cell? ⟨z, 4, none⟩ = some v4 ∧ W.cell? ⟨z, 5, none⟩ = some v5 ∧ W.cell? ⟨z, 6, none⟩ = some v6 ∧ W.cell? ⟨z, 7, none⟩ = some v7 ∧ W.cell? ⟨z, 8, none⟩ = some v8 :=
  ⟨blk_cell h 0, blk_cell h 1, blk_cell h 2, blk_cell h 3, blk_cell h 4, blk_cell h 5, blk_cell h 6, blk_cell h 7, blk_cell h 8⟩
theorem padTo4_bytes_ {b : List Int} (h : ∀ x ∈ b, 0 ≤ x ∧ x < 256) : ∀ x ∈ padTo4 b, 0 ≤ x ∧ x < 256 := by
  intro x hx
  rcases List.mem_append.1 hx with h1 | h1
  · exact h x h1
  · rw [List.eq_of_mem_replicate h1]; omega
theorem segHd_bytes (s : Seg) (off f : Int) (hf : 0 ≤ s.fl ∧ s.fl < 256) (ho : 0 ≤ off ∧ off < 256) : ∀ x ∈ segHd s off f, 0 ≤ x ∧ x < 256 := by
  intro x hx
  simp [segHd, b2, b4] at hx
  omega
end Go.Proofs.Ytoegfgbalcholaa

/-
  culvertlaw16's quote and wakes, over the face (stage 16, written ahead).
-/
namespace Go.Proofs.Ytoegfgbalcholaa
set_option maxRecDepth 10000
open Go.RowKit
set_option linter.unusedSimpArgs false
set_option linter.unusedVariables false

instance tuDec : DecidableEq Tu := fun a b => if h : a.pr = b.pr ∧ a.sr = b.sr ∧ a.ds = b.ds ∧ a.sp = b.sp ∧ a.dp = b.dp then isTrue (by cases a; cases b; simp at h; simp [h]) else isFalse (fun e => h (by subst e; simp))
def quoS : Seg := ⟨5, 80, 9, 0, 16, 0, 0, [], []⟩
def quoP : List Int := segB 167772161 167772162 quoS
def quoL : List Int := packetL 0 0 false 9 6 167772161 167772162 [] quoP
def quoB : List Int := ofL quoL 8
def quoT : Tu := ⟨6, 167772161, 167772162, 5, 80⟩
theorem quo_2 : quoP.length = 20 := by decide +kernel
theorem quo_4 : quoB.length = 28 := by decide +kernel
theorem quo_5 : errQ quoB = 0 ∧ qT quoB = quoT ∧ qS quoB = 9 := by decide +kernel
theorem quo_6 : errQ (quoB.take 27) = 4 ∧ qT (quoB.take 27) = zTu ∧ qS (quoB.take 27) = 0 := by decide +kernel
theorem quo_7 : errQ (quoB.set 0 85) = 5 ∧ qT (quoB.set 0 85) = zTu ∧ qS (quoB.set 0 85) = 0 := by decide +kernel
theorem quo_8 : errQ (quoB.set 9 47) = 22 ∧ qT (quoB.set 9 47) = zTu ∧ qS (quoB.set 9 47) = 0 := by decide +kernel
theorem quo_9 : errR quoB ⟨17, 0, 0, 0, 0⟩ = 1 := by decide +kernel
theorem quo_a : rwR quoB ⟨17, 0, 0, 0, 0⟩ 0 = [] := by decide +kernel
theorem quo_b : Bytes quoL := by unfold Bytes; decide +kernel
def QuoF : Prop := ∀ w : World, Calls Try.prog 21 #[] w (RowIs 40 quoL w)
set_option maxHeartbeats 2000000 in
theorem wakes16_any (hQuo : QuoF) (hRead : ReadF16) (hRw : RwF16) (hOf : OfF16) : AwF16 := by
  intro w
  have HQuo := Lib.hid hQuo
  have HRead := Lib.hid hRead
  have HRw := Lib.hid hRw
  have HOf := Lib.hid hOf
  obtain ⟨Q, eQ⟩ : ∃ Q, quoL = Q := ⟨_, rfl⟩
  obtain ⟨b, eb⟩ : ∃ b, quoB = b := ⟨_, rfl⟩
  have h4 := quo_4; have h5 := quo_5; have h6 := quo_6; have h7 := quo_7; have h8 := quo_8; have h9 := quo_9; have ha := quo_a; have hbq := quo_b
  rw [eb] at h4 h5 h6 h7 h8 h9 ha
  rw [eQ] at hbq
  have HQ := Lib.hid eQ
  have Hb := Lib.hid (show ofL Q 8 = b by rw [← eQ, ← eb]; rfl)
  have H4 := Lib.hid h4; have H5 := Lib.hid h5; have H6 := Lib.hid h6; have H7 := Lib.hid h7; have H8 := Lib.hid h8; have H9 := Lib.hid h9; have Ha := Lib.hid ha
  have HbQ := Lib.hid hbq
  have Hby := Lib.hid (show Bytes b by rw [← Hb.out]; exact fun x hx => hbq x (List.mem_of_mem_take hx))
  clear hQuo hRead hRw hOf eQ eb h4 h5 h6 h7 h8 h9 ha hbq
  go_enter Try.func13, Try.ntmps13
  go_wp2_with fail
  refine (HQuo.out _).mono ?_
  rintro e w1 ⟨A1, c1, rfl, hc1, hcm1, ho1, hb1⟩
  rw [HQ.out] at ho1
  have HR1 := Lib.hid (ho1.rd HbQ.out)
  have HB1 := Lib.hid hb1
  have Hc1 := Lib.hid (And.intro hc1 hcm1)
  clear hc1 hcm1 ho1 hb1
  go_wp2_with fail
  refine (HOf.out A1 40 c1 Q 8 b 28 _ Hc1.out (by decide) HR1.out (by decide) Hb.out H4.out).mono ?_
  rintro e w2 ⟨A2, c2, rfl, hc2, hcm2, ho2, hb2⟩
  have HO2 := Lib.hid ho2
  have HR2 := Lib.hid (ho2.rd Hby.out)
  have HB2 := Lib.hid (below_trans HB1.out hb2)
  have Hc2 := Lib.hid (And.intro hc2 hcm2)
  have hc2i : (28 : Int) ≤ (c2 : Int) := by omega
  clear hc2 hcm2 ho2 hb2
  go_wp2_with fail
  refine (HRead.out A2 28 c2 b ⟨6, 167772161, 167772162, 5, 80⟩ 9 0 _ Hc2.out (by decide) HR2.out H5.out.2.1 H5.out.2.2 H5.out.1).mono ?_
  rintro e w3 ⟨rfl, hb3⟩
  obtain ⟨z3, ez3⟩ : ∃ y, w3.heap.size = y := ⟨_, rfl⟩
  obtain ⟨w4, ew4⟩ : ∃ v, w3.alloc (.cells #[.int .u8 6, .int .u32 167772161, .int .u32 167772162, .int .u16 5, .int .u16 80, .int .u32 9] 28) = v := ⟨_, rfl⟩
  have HK4 := Lib.hid (show w4.heap[z3]? = some (.cells #[.int .u8 6, .int .u32 167772161, .int .u32 167772162, .int .u16 5, .int .u16 80, .int .u32 9] 28 (0, 0)) by rw [← ew4, ← ez3]; exact heap_alloc_new w3 _)
  have hba : Below w3.heap.size w3 w4 := by rw [← ew4]; exact (Below.refl _ _).alloc (Nat.le_refl _) _
  have HB24 := Lib.hid (below_trans hb3 hba)
  have Ew4 := Lib.hid ew4
  have Ez3 := Lib.hid ez3
  clear ew4 ez3 hba hb3
  go_upto_region 5 with (fail)
  rw [Ew4.out]
  try rw [Ez3.out]
  clear Ew4 Ez3
  have HO4 := Lib.hid (HO2.out.on HB24.out)
  have HR4 := Lib.hid (HR2.out.below HB24.out)
  have HB4 := Lib.hid (below_trans HB2.out HB24.out)
  go_wp2_with fail
  refine (HRead.out A2 27 _ (b.take 27) ⟨0, 0, 0, 0, 0⟩ 0 4 _ ⟨by have := Hc2.out; omega, Hc2.out.2⟩ (by decide) (HR4.out.take (by omega)) H6.out.2.1 H6.out.2.2 H6.out.1).mono ?_
  rintro e wr5 ⟨rfl, hb5⟩
  obtain ⟨z5, ez5⟩ : ∃ y, wr5.heap.size = y := ⟨_, rfl⟩
  obtain ⟨wa5, ew5⟩ : ∃ v, wr5.alloc (.cells #[.int .u8 0, .int .u32 0, .int .u32 0, .int .u16 0, .int .u16 0, .int .u32 0] 28) = v := ⟨_, rfl⟩
  have hba : Below wr5.heap.size wr5 wa5 := by rw [← ew5]; exact (Below.refl _ _).alloc (Nat.le_refl _) _
  have HBr5 := Lib.hid (below_trans hb5 hba)
  have Ew5 := Lib.hid ew5
  have Ez5 := Lib.hid ez5
  clear ew5 ez5 hba hb5
  go_upto_region 6 with (fail)
  rw [Ew5.out]
  try rw [Ez5.out]
  clear Ew5 Ez5
  have HR6 := Lib.hid (HR4.out.below HBr5.out)
  have HK6 := Lib.hid (blk_on HK4.out HBr5.out)
  have HBw6 := Lib.hid (below_trans HB4.out HBr5.out)
  go_upto_region 7 with (first | (refine wpList_app rfl (.const (.slice none 0 0)) (.tmp 30) rfl wa5.heap.size none A2 0 0 28 c2 [] b rfl rfl (OwnB.nil _ _) HR6.out (by omega) (Nat.le_refl _) ?_; intro A7 c7 w7 ho7 _ hb7 _) | (refine wpList_app rfl (.const (.slice none 0 0)) (.tmp 32) rfl w7.heap.size none A2 0 0 28 c2 [] b rfl rfl (OwnB.nil _ _) (HR6.out.below hb7) (by omega) (Nat.le_refl _) ?_; intro A8 c8 w8 ho8 _ hb8 _))
  have HO7 := Lib.hid (show OwnB w8 wa5.heap.size A7 28 c7 b from OwnB.on (by simpa using ho7) hb8)
  have HO8 := Lib.hid (show OwnB w8 w7.heap.size A8 28 c8 b by simpa using ho8)
  have HB8 := Lib.hid (show Below wa5.heap.size wa5 w8 from below_trans hb7 hb8)
  have hw78 := hb7.size
  obtain ⟨g7, rfl, hg7, hl7⟩ := (show OwnB w7 wa5.heap.size A7 28 c7 b by simpa using ho7).addr (by omega)
  obtain ⟨g8, rfl, hg8, hl8⟩ := HO8.out.addr (by omega)
  have Hg := Lib.hid (show g7 < g8 ∧ wa5.heap.size ≤ g7 from ⟨by omega, hg7⟩)
  have e1 := HO7.out.cell 0 (by omega)
  have e2 := HO8.out.cell 9 (by omega)
  have f1 : w8.frozen? ⟨g7, 0, none⟩ = false := World.ownsRow.frozenAt HO7.out _
  have f2 : w8.frozen? ⟨g8, 9, none⟩ = false := World.ownsRow.frozenAt HO8.out _
  have h7c : (28 : Int) ≤ (c7 : Int) := by have := HO7.out.cap; omega
  have h8c : (28 : Int) ≤ (c8 : Int) := by have := HO8.out.cap; omega
  have hne : ¬ g7 = g8 := by omega
  have hne2 : ¬ g8 = g7 := by omega
  obtain ⟨w9, e9⟩ : ∃ v, (w8.setCell ⟨g7, 0, none⟩ (.int .u8 85)).setCell ⟨g8, 9, none⟩ (.int .u8 47) = v := ⟨_, rfl⟩
  have hbs : ∀ (j : Nat) (x : Int), 0 ≤ x ∧ x < 256 → ∀ y ∈ b.set j x, 0 ≤ y ∧ y < 256 := fun j x hx y hy => by
    rcases List.mem_or_eq_of_mem_set hy with h | rfl
    · exact Hby.out y h
    · exact hx
  have HR9a := Lib.hid (show Rd w9 (some ⟨g7, 0, none⟩) 28 (b.set 0 85) by
    rw [← e9]
    refine ((HO7.out.set_ 0 85).rd (hbs 0 85 (by omega))).but (S := fun k => k = g8) ((But.refl (fun k => k = g8) _).setCell (p := ⟨g8, 9, none⟩) rfl _) (fun g o e _ hk => ?_)
    injection e with e
    injection e with e _ _
    omega)
  have HR9b := Lib.hid (show Rd w9 (some ⟨g8, 0, none⟩) 28 (b.set 9 47) by
    rw [← e9]
    have hO : OwnB (w8.setCell ⟨g7, 0, none⟩ (.int .u8 85)) w7.heap.size (some ⟨g8, 0, none⟩) 28 c8 b := HO8.out.but (S := fun k => k = g7) ((But.refl (fun k => k = g7) _).setCell (p := ⟨g7, 0, none⟩) rfl _) (fun k hk e => by omega)
    exact (hO.set_ 9 47).rd (hbs 9 47 (by omega)))
  have HB9 := Lib.hid (show Below wa5.heap.size wa5 w9 by rw [← e9]; exact (HB8.out.setCell (p := ⟨g7, 0, none⟩) hg7 _).setCell (p := ⟨g8, 9, none⟩) (by show wa5.heap.size ≤ g8; omega) _)
  have E9 := Lib.hid e9
  have Hcc := Lib.hid (show (28 ≤ c7 ∧ c7 ≤ maxLen) ∧ 28 ≤ c8 ∧ c8 ≤ maxLen from ⟨⟨HO7.out.cap, HO7.out.capMax⟩, HO8.out.cap, HO8.out.capMax⟩)
  clear ho7 hb7 ho8 hb8 hg7 hl7 hg8 hl8 e9 hbs hw78
  go_upto_region 8 with (fail)
  rw [E9.out]
  clear e1 e2 f1 f2 E9 HO7 HO8
  have HR9 := Lib.hid (HR6.out.below HB9.out)
  have HK9 := Lib.hid (blk_on HK6.out HB9.out)
  have HBw9 := Lib.hid (below_trans HBw6.out HB9.out)
  go_wp2_with fail
  refine (HRead.out (some ⟨g7, 0, none⟩) 28 _ (b.set 0 85) ⟨0, 0, 0, 0, 0⟩ 0 5 _ Hcc.out.1 (by decide) HR9a.out H7.out.2.1 H7.out.2.2 H7.out.1).mono ?_
  rintro e wr10 ⟨rfl, hb10⟩
  obtain ⟨z10, ez10⟩ : ∃ y, wr10.heap.size = y := ⟨_, rfl⟩
  obtain ⟨wa10, ew10⟩ : ∃ v, wr10.alloc (.cells #[.int .u8 0, .int .u32 0, .int .u32 0, .int .u16 0, .int .u16 0, .int .u32 0] 28) = v := ⟨_, rfl⟩
  have hba : Below wr10.heap.size wr10 wa10 := by rw [← ew10]; exact (Below.refl _ _).alloc (Nat.le_refl _) _
  have HBr10 := Lib.hid (below_trans hb10 hba)
  have Ew10 := Lib.hid ew10
  have Ez10 := Lib.hid ez10
  clear ew10 ez10 hba hb10
  go_upto_region 9 with (fail)
  rw [Ew10.out]
  try rw [Ez10.out]
  clear Ew10 Ez10
  have HBw10 := Lib.hid (below_trans HBw9.out HBr10.out)
  go_wp2_with fail
  refine (HRead.out (some ⟨g8, 0, none⟩) 28 _ (b.set 9 47) ⟨0, 0, 0, 0, 0⟩ 0 22 _ Hcc.out.2 (by decide) (HR9b.out.below HBr10.out) H8.out.2.1 H8.out.2.2 H8.out.1).mono ?_
  rintro e wr11 ⟨rfl, hb11⟩
  obtain ⟨z11, ez11⟩ : ∃ y, wr11.heap.size = y := ⟨_, rfl⟩
  obtain ⟨wa11, ew11⟩ : ∃ v, wr11.alloc (.cells #[.int .u8 0, .int .u32 0, .int .u32 0, .int .u16 0, .int .u16 0, .int .u32 0] 28) = v := ⟨_, rfl⟩
  have hba : Below wr11.heap.size wr11 wa11 := by rw [← ew11]; exact (Below.refl _ _).alloc (Nat.le_refl _) _
  have HBr11 := Lib.hid (below_trans hb11 hba)
  have Ew11 := Lib.hid ew11
  have Ez11 := Lib.hid ez11
  clear ew11 ez11 hba hb11
  go_upto_region 10 with (fail)
  rw [Ew11.out]
  try rw [Ez11.out]
  clear Ew11 Ez11
  have HBw11 := Lib.hid (below_trans HBw10.out HBr11.out)
  have HB911 := Lib.hid (below_trans HBr10.out HBr11.out)
  go_wp2_with fail
  refine (HRw.out A2 28 c2 b ⟨17, 0, 0, 0, 0⟩ 0 _ [] 0 1 Hc2.out (by decide) (HR9.out.below HB911.out) ⟨by decide, by decide, by decide, by decide, by decide⟩ (by decide) Ha.out rfl H9.out).mono ?_
  rintro e w12 ⟨A12, c12, rfl, -, hb12⟩
  have HK12 := Lib.hid (blk_on (blk_on HK9.out HB911.out) hb12)
  have HBw12 := Lib.hid (below_trans HBw11.out hb12)
  clear hb12
  obtain ⟨k0, k1, k2, k3, k4, k5⟩ := cells6 HK12.out
  have heq : ∀ W : World, (binOp .eql 28 (.agg #[.int .u8 6, .int .u32 167772161, .int .u32 167772162, .int .u16 5, .int .u16 80, .int .u32 9]) (.agg #[.int .u8 6, .int .u32 167772161, .int .u32 167772162, .int .u16 5, .int .u16 80, .int .u32 9])).run Try.prog W = .ok (.bool true) W := fun W => by
    rw [run_eql_struct, run_equalIn_struct W 9999 28 _ _ (by kernel_rfl) (by kernel_rfl)]
    go_simp
  go_wp2_with fail
  go_ret
  exact ⟨rfl, HBw12.out⟩
end Go.Proofs.Ytoegfgbalcholaa

/-
  A rewritten quote is the quote of the packet that would have been so: plain lists (stage 16, written ahead): nothing of the program.
-/
namespace Go.Proofs.Ytoegfgbalcholaa
set_option maxRecDepth 10000
set_option linter.unusedSimpArgs false
set_option linter.unusedVariables false

theorem bytes_ext {a b : List Int} (hl : a.length = b.length) (h : ∀ i, a.getD i 0 = b.getD i 0) : a = b := by
  refine List.ext_getElem hl (fun i h1 h2 => ?_)
  have key : ∀ (l : List Int) (hh : i < l.length), l[i] = l.getD i 0 := fun l hh => by simp [List.getD, hh]
  rw [key _ h1, key _ h2, h]
/-- Bytes that differ in some words alone: their sums. -/
theorem ws_diff {b : List Int} (hb : Bytes b) : ∀ (ks : List Nat) (a : List Int), Bytes a → a.length = b.length → ks.Nodup → (∀ k ∈ ks, 2 * k + 1 < a.length) → (∀ i, i / 2 ∉ ks → a.getD i 0 = b.getD i 0) →
    ws false b = ws false a + (ks.map (fun k => wordL b k - wordL a k)).sum
  | [], a, _, hl, _, _, h => by
    rw [bytes_ext hl (fun i => h i (by simp))]; simp
  | k :: ks, a, ha, hl, hn, hk, h => by
    obtain ⟨hn1, hn2⟩ := List.nodup_cons.1 hn
    have hkl := hk k (List.mem_cons_self ..)
    have hbb := wordL_bd hb k
    have := ws_diff hb ks (layL a k (wordL b k)) (layL_byte ha k hbb) (by rw [layL_len]; exact hl) hn2 (fun j hj => by rw [layL_len]; exact hk j (List.mem_cons_of_mem _ hj)) (fun i hi => by
      by_cases e : i / 2 = k
      · have hw : wordL (layL a k (wordL b k)) k = wordL b k := wordL_lay_same _ _ _ hkl
        exact getD_eq_word (layL_byte ha k hbb) hb hw e
      · rw [getD_lay _ _ _ _ e]
        exact h i (fun hm => by rcases List.mem_cons.1 hm with h | h; exact e h; exact hi h))
    rw [ws_lay _ _ _ hkl] at this
    have hmap : ks.map (fun j => wordL b j - wordL (layL a k (wordL b k)) j) = ks.map (fun j => wordL b j - wordL a j) := List.map_congr_left (fun j hj => by rw [wordL_lay_other _ _ _ _ (fun e => hn1 (by rw [e]; exact hj))])
    rw [hmap] at this
    rw [List.map_cons, List.sum_cons]
    omega
/-- The words of a payload that a rewriting changes. -/
def keysQ (pr : Int) (H : Nat) : List Nat := if pr = 1 then [H + 2] else [H, H + 1] ++ (if pr = 6 then [H + 2, H + 3] else [])
theorem keys_ports (b : List Int) (t : Tu) (s : Int) : (portsQ b t s).map (·.1) = keysQ (b.getD 9 0) (qH b) := by
  unfold portsQ keysQ
  by_cases h1 : b.getD 9 0 = 1
  · rw [if_pos h1, if_pos h1]; rfl
  · rw [if_neg h1, if_neg h1]
    by_cases h6 : b.getD 9 0 = 6
    · rw [if_pos h6, if_pos h6]; rfl
    · rw [if_neg h6, if_neg h6]; rfl
theorem ps_keys (pr : Int) (H : Nat) (a b : List Int) : ((keysQ pr H).map (fun k => wordL b k - wordL a k)).sum = psQ pr H b - psQ pr H a := by
  unfold keysQ psQ
  by_cases h1 : pr = 1
  · rw [if_pos h1, if_pos h1, if_pos h1]; simp only [List.map_cons, List.map_nil, List.sum_cons, List.sum_nil]; omega
  · rw [if_neg h1, if_neg h1, if_neg h1]
    by_cases h6 : pr = 6
    · rw [if_pos h6, if_pos h6, if_pos h6]; simp only [List.map_cons, List.map_nil, List.sum_cons, List.sum_nil, List.cons_append, List.nil_append]; omega
    · rw [if_neg h6, if_neg h6, if_neg h6]; simp only [List.map_cons, List.map_nil, List.sum_cons, List.sum_nil, List.cons_append, List.nil_append]; omega
/-- Two packets that differ in addresses, ports (number), fields alone, both right. -/
structure TwoQ (pr : Int) (H : Nat) (a b : List Int) : Prop where
  ba : Bytes a
  bb : Bytes b
  len : a.length = b.length
  is_ : pr = 6 ∨ pr = 17 ∨ pr = 1
  h10 : 10 ≤ H
  l8 : 2 * H + 8 ≤ a.length
  lF : 2 * qF pr H + 2 ≤ a.length
  a9 : a.getD 9 0 = pr
  aH : qH a = H
  far : ∀ i, (i / 2 < 5 ∨ 9 < i / 2) → i / 2 ≠ qF pr H → i / 2 ∉ keysQ pr H → a.getD i 0 = b.getD i 0
  hs : (ws false (b.take (2 * H)) - ws false (a.take (2 * H))) % 65535 = 0
  ps : (((if pr = 1 then 0 else hsQ b - hsQ a)) + (ws false (b.drop (2 * H)) - ws false (a.drop (2 * H)))) % 65535 = 0
theorem keys_in {pr : Int} {H k : Nat} (hp : pr = 6 ∨ pr = 17 ∨ pr = 1) (h : k ∈ keysQ pr H) : H ≤ k ∧ k ≤ H + 3 ∧ k ≠ qF pr H := by
  unfold keysQ at h
  unfold qF
  by_cases h1 : pr = 1
  · rw [if_pos h1] at h
    rcases List.mem_singleton.1 h
    rw [if_neg (by omega), if_neg (by omega)]; omega
  · rw [if_neg h1] at h
    by_cases h6 : pr = 6
    · rw [if_pos h6] at h
      rw [if_pos h6]
      simp only [List.cons_append, List.nil_append, List.mem_cons, List.not_mem_nil, or_false] at h
      omega
    · rw [if_neg h6] at h
      rw [if_neg h6, if_pos (by omega)]
      simp only [List.cons_append, List.nil_append, List.mem_cons, List.not_mem_nil, or_false] at h
      omega
theorem keys_nodup (pr : Int) (H : Nat) : (keysQ pr H).Nodup := by
  unfold keysQ
  by_cases h1 : pr = 1
  · rw [if_pos h1]; simp
  · rw [if_neg h1]
    by_cases h6 : pr = 6
    · rw [if_pos h6]; simp
    · rw [if_neg h6]; simp
theorem getD_takeQ (l : List Int) (m i : Nat) (h : i < m) : (l.take m).getD i 0 = l.getD i 0 := by
  simp only [List.getD]
  rw [List.getElem?_take_of_lt h]
theorem getD_dropQ (l : List Int) (m i : Nat) : (l.drop m).getD i 0 = l.getD (m + i) 0 := by
  simp only [List.getD, List.getElem?_drop]
theorem Bytes.takeQ {l : List Int} (h : Bytes l) (m : Nat) : Bytes (l.take m) := fun x hx => h x (List.mem_of_mem_take hx)
theorem Bytes.dropQ {l : List Int} (h : Bytes l) (m : Nat) : Bytes (l.drop m) := fun x hx => h x (List.mem_of_mem_drop hx)
theorem wordL_takeQ (l : List Int) (m k : Nat) (h : 2 * k + 1 < m) : wordL (l.take m) k = wordL l k := by
  unfold wordL; rw [getD_takeQ _ _ _ (by omega), getD_takeQ _ _ _ h]
theorem wordL_dropQ (l : List Int) (H k : Nat) : wordL (l.drop (2 * H)) k = wordL l (H + k) := by
  unfold wordL; rw [getD_dropQ, getD_dropQ, show 2 * H + 2 * k = 2 * (H + k) by omega, show 2 * H + (2 * k + 1) = 2 * (H + k) + 1 by omega]
theorem keys_shift (pr : Int) (H : Nat) : keysQ pr H = (keysQ pr 0).map (H + ·) := by
  unfold keysQ
  by_cases h1 : pr = 1
  · rw [if_pos h1, if_pos h1]; rfl
  · rw [if_neg h1, if_neg h1]
    by_cases h6 : pr = 6
    · rw [if_pos h6, if_pos h6]; rfl
    · rw [if_neg h6, if_neg h6]; rfl
theorem qF_shift (pr : Int) (H : Nat) : qF pr H = H + qF pr 0 := by
  unfold qF; split
  · omega
  · split <;> omega
/-- The header's field, and the payload's, of the two. -/
theorem TwoQ.fields {pr : Int} {H : Nat} {a b : List Int} (h : TwoQ pr H a b) :
    (wordL b 5 + hsQ b - (wordL a 5 + hsQ a)) % 65535 = 0 ∧ (wordL b (qF pr H) + (if pr = 1 then 0 else hsQ b) + psQ pr H b - (wordL a (qF pr H) + (if pr = 1 then 0 else hsQ a) + psQ pr H a)) % 65535 = 0 := by
  have h10 := h.h10
  have hl := h.l8
  have hlen := h.len
  constructor
  · have := ws_diff (h.bb.takeQ (2 * H)) [5, 6, 7, 8, 9] (a.take (2 * H)) (h.ba.takeQ _) (by rw [List.length_take, List.length_take, hlen]) (by decide) (fun k hk => by
      rw [List.length_take]
      simp only [List.mem_cons, List.not_mem_nil, or_false] at hk
      omega) (fun i hi => by
      by_cases h2 : i < 2 * H
      · rw [getD_takeQ _ _ _ h2, getD_takeQ _ _ _ h2]
        simp only [List.mem_cons, List.not_mem_nil, or_false] at hi
        have hF : H + 1 ≤ qF pr H := by unfold qF; split; omega; split <;> omega
        exact h.far i (by omega) (by omega) (fun hm => by have := (keys_in h.is_ hm).1; omega)
      · simp only [List.getD]
        rw [List.getElem?_eq_none (by rw [List.length_take]; omega), List.getElem?_eq_none (by rw [List.length_take]; omega)])
    have hs := h.hs
    simp only [List.map_cons, List.map_nil, List.sum_cons, List.sum_nil] at this
    rw [wordL_takeQ _ _ 5 (by omega), wordL_takeQ _ _ 6 (by omega), wordL_takeQ _ _ 7 (by omega), wordL_takeQ _ _ 8 (by omega), wordL_takeQ _ _ 9 (by omega), wordL_takeQ _ _ 5 (by omega), wordL_takeQ _ _ 6 (by omega), wordL_takeQ _ _ 7 (by omega), wordL_takeQ _ _ 8 (by omega), wordL_takeQ _ _ 9 (by omega)] at this
    unfold hsQ
    omega
  · have hkn : ((qF pr 0) :: keysQ pr 0).Nodup := List.nodup_cons.2 ⟨fun hm => (keys_in h.is_ hm).2.2 rfl, keys_nodup _ _⟩
    have hFl := h.lF
    have hFs := qF_shift pr H
    have := ws_diff (h.bb.dropQ (2 * H)) ((qF pr 0) :: keysQ pr 0) (a.drop (2 * H)) (h.ba.dropQ _) (by rw [List.length_drop, List.length_drop, hlen]) hkn (fun k hk => by
      rw [List.length_drop]
      rcases List.mem_cons.1 hk with e | e
      · omega
      · have := (keys_in h.is_ e).2.1; omega) (fun i hi => by
      rw [getD_dropQ, getD_dropQ]
      refine h.far (2 * H + i) (by omega) (fun e => hi ?_) (fun hm => hi ?_)
      · rw [show i / 2 = qF pr 0 by omega]; exact List.mem_cons_self ..
      · rw [keys_shift] at hm
        obtain ⟨j, hj, e⟩ := List.mem_map.1 hm
        rw [show i / 2 = j by omega]
        exact List.mem_cons_of_mem _ hj)
    rw [List.map_cons, List.sum_cons, wordL_dropQ, wordL_dropQ, ← hFs, List.map_congr_left (g := fun k => wordL b (H + k) - wordL a (H + k)) (fun k _ => by rw [wordL_dropQ, wordL_dropQ])] at this
    have hk := ps_keys pr H a b
    rw [keys_shift, List.map_map] at hk
    have e2 : (keysQ pr 0).map ((fun k => wordL b k - wordL a k) ∘ (H + ·)) = (keysQ pr 0).map (fun k => wordL b (H + k) - wordL a (H + k)) := rfl
    rw [e2] at hk
    rw [hk] at this
    have hps := h.ps
    by_cases h1 : pr = 1
    · rw [if_pos h1] at hps ⊢
      rw [if_pos h1]
      omega
    · rw [if_neg h1] at hps ⊢
      rw [if_neg h1]
      omega
end Go.Proofs.Ytoegfgbalcholaa

/-
  culvertlaw16's places and InnerBack's closure (stage 16, written ahead).
-/
namespace Go.Proofs.Ytoegfgbalcholaa
set_option maxRecDepth 10000
open Go.RowKit
set_option linter.unusedSimpArgs false
set_option linter.unusedVariables false

theorem seg_eq {a b : List Int} {lo hi : Nat} (hl : a.length = b.length) (h : ∀ i, lo ≤ i → i < hi → a.getD i 0 = b.getD i 0) : (a.take hi).drop lo = (b.take hi).drop lo := by
  refine List.ext_getElem (by rw [List.length_drop, List.length_drop, List.length_take, List.length_take, hl]) (fun i h1 h2 => ?_)
  rw [List.getElem_drop, List.getElem_drop, List.getElem_take, List.getElem_take]
  rw [List.length_drop, List.length_take] at h1 h2
  have := h (lo + i) (by omega) (by omega)
  simpa [List.getD, show lo + i < a.length by omega, show lo + i < b.length by omega] using this
/-- Behind the ports a rewriting changes its field alone. -/
theorem RwIs.behind {b r : List Int} {t : Tu} {s : Int} (h : RwIs b r t s) (he : errQ b = 0) {i : Nat} (hi : 2 * qH b + 8 ≤ i) (hp : i / 2 ∉ partQ b) : r.getD i 0 = b.getD i 0 := by
  obtain ⟨⟨_, h10, _, _⟩, hpr⟩ := errQ_ok he
  refine h.far i (by omega) hp (fun p hp2 e => ?_)
  rcases List.mem_append.1 hp2 with hp2 | hp2
  · have hin : p.1 = 6 ∨ p.1 = 7 ∨ p.1 = 8 ∨ p.1 = 9 := by unfold headQ at hp2; simp only [List.mem_cons, List.not_mem_nil, or_false] at hp2; rcases hp2 with rfl | rfl | rfl | rfl <;> simp
    omega
  · have hm : p.1 ∈ keysQ (b.getD 9 0) (qH b) := by rw [← keys_ports b t s]; exact List.mem_map.2 ⟨p, hp2, rfl⟩
    have := keys_in (by rcases hpr with h | h | h; exact .inl h; exact .inr (.inl h); exact .inr (.inr h.1)) hm
    omega
def QuietIs16 (x : Bool) (w : World) (e : Ending) (w' : World) : Prop := e = .returned (.bool x) ∧ Below w.heap.size w w'
set_option maxHeartbeats 1000000 in
theorem same16_any (p q : Nat) (A B : Option Addr) (n c m d lo hi : Nat) (loi hii : Int) (a b : List Int) (w : World) (hp : w.heap[p]? = some (.cells #[.slice A n c] 22 (0, 0))) (hq : w.heap[q]? = some (.cells #[.slice B m d] 22 (0, 0)))
    (ha : Rd w A n a) (hb : Rd w B m b) (hc : n ≤ c ∧ c ≤ maxLen) (hd : m ≤ d ∧ d ≤ maxLen) (h0 : 0 < n) (hnm : n = m) (hlo : lo ≤ hi) (hhi : hi ≤ n) (el : loi = (lo : Int)) (eh : hii = (hi : Int)) (x : Bool) (he : decide ((a.take hi).drop lo = (b.take hi).drop lo) = x) :
    Calls Try.prog 20 #[.int .i64 loi, .int .i64 hii, .pointer (some ⟨p, 0, none⟩), .pointer (some ⟨q, 0, none⟩)] w (QuietIs16 x w) := by
  obtain ⟨A', r1, hr1⟩ := ha.part (c := c) lo hi loi hii h0 hlo hhi hc.1 hc.2 el eh
  obtain ⟨B', r2, hr2⟩ := hb.part (c := d) lo hi loi hii (by omega) hlo (by omega) hd.1 hd.2 el eh
  obtain ⟨L, eL⟩ : ∃ L, (a.take hi).drop lo = L := ⟨_, rfl⟩
  obtain ⟨M, eM⟩ : ∃ M, (b.take hi).drop lo = M := ⟨_, rfl⟩
  rw [eL, eM] at he
  rw [eL] at hr1
  rw [eM] at hr2
  have Hse := Lib.hid ((strs_eqB L M hr1.byte hr2.byte).trans he)
  have hbq : ∀ q : Nat, Below w.heap.size w (w.drewN q) := fun q => ⟨rfl, rfl, rfl, Nat.le_refl _, fun _ _ => rfl⟩
  have k1 := fun q => conv_rd (hr1.below (hbq q)) (c - lo)
  have k2 := fun q => conv_rd (hr2.below (hbq q)) (d - lo)
  have g1 : w.cell? ⟨p, 0, none⟩ = some (.slice A n c) := blk_cell hp 0
  have g2 : w.cell? ⟨q, 0, none⟩ = some (.slice B m d) := blk_cell hq 0
  clear hp hq ha hb hc hd h0 hnm hlo hhi el eh he eL eM hr1 hr2 hbq
  go_enter Try.func20, Try.ntmps20
  go_wp2_with fail
  go_quiet (fail)
  go_wp2_with fail
  go_ret
  exact ⟨ret_bool Hse.out, rfl, rfl, rfl, Nat.le_refl _, fun _ _ => rfl⟩
def PlacesIs (f : Nat) (w : World) (e : Ending) (w' : World) : Prop := ∃ A, e = .returned (.slice A 2 2) ∧ RdI w' A 2 ([5, f].map (fun g : Nat => 2 * (g : Int))) ∧ Below w.heap.size w w'
theorem places16_any (pr : Int) (N : Nat) (f : Nat) (w : World) (hN : N ≤ 1000) (hp : pr = 6 ∨ pr = 17 ∨ pr = 1) (hf : 2 * f = N + (if pr = 6 then 16 else if pr = 17 then 6 else 2)) :
    Calls Try.prog 19 #[.int .u8 pr, .int .i64 (N : Int)] w (PlacesIs f w) := by
  have hb : ∀ y : Int, Below w.heap.size w (w.alloc (.cells #[.int .i64 10, .int .i64 y] 3)) := fun y => (Below.refl _ _).alloc (Nat.le_refl _) _
  have hni : (N : Int) ≤ 1000 := by omega
  have t1 : IntKind.i64.wrap ((N : Int) + 16) = (N : Int) + 16 := IntWalk.i64_in _ (by omega)
  have t2 : IntKind.i64.wrap ((N : Int) + 6) = (N : Int) + 6 := IntWalk.i64_in _ (by omega)
  have t3 : IntKind.i64.wrap ((N : Int) + 2) = (N : Int) + 2 := IntWalk.i64_in _ (by omega)
  have hrd : ∀ y : Int, RdI (w.alloc (.cells #[.int .i64 10, .int .i64 y] 3)) (some ⟨w.heap.size, 0, none⟩) 2 [10, y] := fun y => RdI.const w w.heap.size rfl [10, y] _ _
  have Hb := Lib.hid hb
  have Hr := Lib.hid hrd
  have Hf := Lib.hid hf
  clear hb hrd hf
  rcases hp with rfl | rfl | rfl
  · go_enter Try.func19, Try.ntmps19
    go_wp2_with fail
    go_ret
    refine ⟨_, rfl, ?_, Hb.out _⟩
    have e : ([5, f].map (fun g : Nat => 2 * (g : Int))) = [10, (N : Int) + 16] := by simp only [List.map_cons, List.map_nil]; have := Hf.out; simp at this; congr 2; omega
    rw [e]; exact Hr.out _
  · go_enter Try.func19, Try.ntmps19
    go_wp2_with fail
    go_ret
    refine ⟨_, rfl, ?_, Hb.out _⟩
    have e : ([5, f].map (fun g : Nat => 2 * (g : Int))) = [10, (N : Int) + 6] := by simp only [List.map_cons, List.map_nil]; have := Hf.out; simp at this; congr 2; omega
    rw [e]; exact Hr.out _
  · go_enter Try.func19, Try.ntmps19
    go_wp2_with fail
    go_ret
    refine ⟨_, rfl, ?_, Hb.out _⟩
    have e : ([5, f].map (fun g : Nat => 2 * (g : Int))) = [10, (N : Int) + 2] := by simp only [List.map_cons, List.map_nil]; have := Hf.out; simp at this; congr 2; omega
    rw [e]; exact Hr.out _
end Go.Proofs.Ytoegfgbalcholaa
