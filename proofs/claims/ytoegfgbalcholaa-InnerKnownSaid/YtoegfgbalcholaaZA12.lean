/-
  Texts laid together: SegPut, InWakes, WireRead, Dg.
-/
import Derived.Test.YtoegfgbalcholaaZA11
import Derived.Test.YtoegfgbalcholaaZA08
import Derived.Test.YtoegfgbalcholaaZA03
import Derived.Laws.StructEq
import Derived.Test.YtoegfgbalcholaaZA06
import Derived.Defers
import Derived.Recover
import Derived.Test.YtoegfgbalcholaaZA01

/-
  The contract of culvertref06's Put (and May).
-/
namespace Go.Proofs.Ytoegfgbalcholaa
set_option maxRecDepth 10000
open Go.RowKit

def b2 (n : Int) : List Int := [n / 256 % 256, n % 256]
def b4 (n : Int) : List Int := [n / 16777216 % 256, n / 65536 % 256, n / 256 % 256, n % 256]
def segHd (s : Seg) (off f : Int) : List Int := b2 s.sp ++ b2 s.dp ++ b4 s.sq ++ b4 s.ak ++ [off, s.fl] ++ b2 s.wn ++ b2 f ++ b2 s.ug
def optB (s : Seg) : List Int := padTo4 (bytesO s.os)
def offS (s : Seg) : Int := (20 + ((optB s).length : Int)) / 4 * 16
def lenB (s : Seg) : Nat := 20 + (optB s).length + s.d.length
def fieldS (src dst : Int) (s : Seg) : Int := 65535 - sumL (pseudoL src dst 6 (lenB s) ++ (segHd s (offS s) 0 ++ optB s ++ s.d))
def segB (src dst : Int) (s : Seg) : List Int := segHd s (offS s) (fieldS src dst s) ++ optB s ++ s.d
theorem seg_cells {W : World} {z : Nat} {v0 v1 v2 v3 v4 v5 v6 v7 v8 : Value} (h : W.heap[z]? = some (.cells #[v0, v1, v2, v3, v4, v5, v6, v7, v8] 46 (0, 0))) :
    W.cell? ⟨z, 0, none⟩ = some v0 ∧ W.cell? ⟨z, 1, none⟩ = some v1 ∧ W.cell? ⟨z, 2, none⟩ = some v2 ∧ W.cell? ⟨z, 3, none⟩ = some v3 ∧ W.cell? ⟨z, 4, none⟩ = some v4 ∧ W.cell? ⟨z, 5, none⟩ = some v5 ∧ W.cell? ⟨z, 6, none⟩ = some v6 ∧ W.cell? ⟨z, 7, none⟩ = some v7 ∧ W.cell? ⟨z, 8, none⟩ = some v8 :=
  ⟨blk_cell h 0, blk_cell h 1, blk_cell h 2, blk_cell h 3, blk_cell h 4, blk_cell h 5, blk_cell h 6, blk_cell h 7, blk_cell h 8⟩
theorem padTo4_bytes_ {b : List Int} (h : ∀ x ∈ b, 0 ≤ x ∧ x < 256) : ∀ x ∈ padTo4 b, 0 ≤ x ∧ x < 256 := by
  intro x hx
  rcases List.mem_append.1 hx with h1 | h1
  · exact h x h1
  · rw [List.eq_of_mem_replicate h1]; omega
theorem segHd_bytes (s : Seg) (off f : Int) (hf : 0 ≤ s.fl ∧ s.fl < 256) (ho : 0 ≤ off ∧ off < 256) : ∀ x ∈ segHd s off f, 0 ≤ x ∧ x < 256 := by
  intro x hx
  simp [segHd, b2, b4] at hx
  omega
end Go.Proofs.Ytoegfgbalcholaa

/-
  culvertlaw16's quote and wakes, over the face (stage 16, written ahead).
-/
namespace Go.Proofs.Ytoegfgbalcholaa
set_option maxRecDepth 10000
open Go.RowKit
set_option linter.unusedSimpArgs false
set_option linter.unusedVariables false

instance tuDec : DecidableEq Tu := fun a b => if h : a.pr = b.pr ∧ a.sr = b.sr ∧ a.ds = b.ds ∧ a.sp = b.sp ∧ a.dp = b.dp then isTrue (by cases a; cases b; simp at h; simp [h]) else isFalse (fun e => h (by subst e; simp))
def quoS : Seg := ⟨5, 80, 9, 0, 16, 0, 0, [], []⟩
def quoP : List Int := segB 167772161 167772162 quoS
def quoL : List Int := packetL 0 0 false 9 6 167772161 167772162 [] quoP
def quoB : List Int := ofL quoL 8
def quoT : Tu := ⟨6, 167772161, 167772162, 5, 80⟩
theorem quo_2 : quoP.length = 20 := by decide +kernel
theorem quo_3 : quoL.length = 40 := by decide +kernel
theorem quo_4 : quoB.length = 28 := by decide +kernel
theorem quo_5 : errQ quoB = 0 ∧ qT quoB = quoT ∧ qS quoB = 9 := by decide +kernel
theorem quo_6 : errQ (quoB.take 27) = 4 ∧ qT (quoB.take 27) = zTu ∧ qS (quoB.take 27) = 0 := by decide +kernel
theorem quo_7 : errQ (quoB.set 0 85) = 5 ∧ qT (quoB.set 0 85) = zTu ∧ qS (quoB.set 0 85) = 0 := by decide +kernel
theorem quo_8 : errQ (quoB.set 9 47) = 22 ∧ qT (quoB.set 9 47) = zTu ∧ qS (quoB.set 9 47) = 0 := by decide +kernel
theorem quo_9 : errR quoB ⟨17, 0, 0, 0, 0⟩ = 1 := by decide +kernel
theorem quo_a : rwR quoB ⟨17, 0, 0, 0, 0⟩ 0 = [] := by decide +kernel
theorem quo_b : Bytes quoL := by unfold Bytes; decide +kernel
def QuoF : Prop := ∀ w : World, Calls Try.prog 21 #[] w (RowIs 40 quoL w)
set_option maxHeartbeats 2000000 in
theorem wakes16_any (hQuo : QuoF) (hRead : ReadF16) (hRw : RwF16) (hOf : OfF16) : AwF16 := by
  intro w
  have HQuo := Lib.hid hQuo
  have HRead := Lib.hid hRead
  have HRw := Lib.hid hRw
  have HOf := Lib.hid hOf
  obtain ⟨Q, eQ⟩ : ∃ Q, quoL = Q := ⟨_, rfl⟩
  obtain ⟨b, eb⟩ : ∃ b, quoB = b := ⟨_, rfl⟩
  have h4 := quo_4; have h5 := quo_5; have h6 := quo_6; have h7 := quo_7; have h8 := quo_8; have h9 := quo_9; have ha := quo_a; have hbq := quo_b
  rw [eb] at h4 h5 h6 h7 h8 h9 ha
  rw [eQ] at hbq
  have HQ := Lib.hid eQ
  have Hb := Lib.hid (show ofL Q 8 = b by rw [← eQ, ← eb]; rfl)
  have H4 := Lib.hid h4; have H5 := Lib.hid h5; have H6 := Lib.hid h6; have H7 := Lib.hid h7; have H8 := Lib.hid h8; have H9 := Lib.hid h9; have Ha := Lib.hid ha
  have HbQ := Lib.hid hbq
  have Hby := Lib.hid (show Bytes b by rw [← Hb.out]; exact fun x hx => hbq x (List.mem_of_mem_take hx))
  clear hQuo hRead hRw hOf eQ eb h4 h5 h6 h7 h8 h9 ha hbq
  go_enter Try.func13, Try.ntmps13
  go_wp2_with fail
  refine (HQuo.out _).mono ?_
  rintro e w1 ⟨A1, c1, rfl, hc1, hcm1, ho1, hb1⟩
  rw [HQ.out] at ho1
  have HR1 := Lib.hid (ho1.rd HbQ.out)
  have HB1 := Lib.hid hb1
  have Hc1 := Lib.hid (And.intro hc1 hcm1)
  clear hc1 hcm1 ho1 hb1
  go_wp2_with fail
  refine (HOf.out A1 40 c1 Q 8 b 28 _ Hc1.out (by decide) HR1.out (by decide) Hb.out H4.out).mono ?_
  rintro e w2 ⟨A2, c2, rfl, hc2, hcm2, ho2, hb2⟩
  have HO2 := Lib.hid ho2
  have HR2 := Lib.hid (ho2.rd Hby.out)
  have HB2 := Lib.hid (below_trans HB1.out hb2)
  have Hc2 := Lib.hid (And.intro hc2 hcm2)
  have hc2i : (28 : Int) ≤ (c2 : Int) := by omega
  clear hc2 hcm2 ho2 hb2
  go_wp2_with fail
  refine (HRead.out A2 28 c2 b ⟨6, 167772161, 167772162, 5, 80⟩ 9 0 _ Hc2.out (by decide) HR2.out H5.out.2.1 H5.out.2.2 H5.out.1).mono ?_
  rintro e w3 ⟨rfl, hb3⟩
  obtain ⟨z3, ez3⟩ : ∃ y, w3.heap.size = y := ⟨_, rfl⟩
  obtain ⟨w4, ew4⟩ : ∃ v, w3.alloc (.cells #[.int .u8 6, .int .u32 167772161, .int .u32 167772162, .int .u16 5, .int .u16 80, .int .u32 9] 28) = v := ⟨_, rfl⟩
  have HK4 := Lib.hid (show w4.heap[z3]? = some (.cells #[.int .u8 6, .int .u32 167772161, .int .u32 167772162, .int .u16 5, .int .u16 80, .int .u32 9] 28 (0, 0)) by rw [← ew4, ← ez3]; exact heap_alloc_new w3 _)
  have hba : Below w3.heap.size w3 w4 := by rw [← ew4]; exact (Below.refl _ _).alloc (Nat.le_refl _) _
  have HB24 := Lib.hid (below_trans hb3 hba)
  have Ew4 := Lib.hid ew4
  have Ez3 := Lib.hid ez3
  clear ew4 ez3 hba hb3
  go_upto_region 5 with (fail)
  rw [Ew4.out]
  try rw [Ez3.out]
  clear Ew4 Ez3
  have HO4 := Lib.hid (HO2.out.on HB24.out)
  have HR4 := Lib.hid (HR2.out.below HB24.out)
  have HB4 := Lib.hid (below_trans HB2.out HB24.out)
  go_wp2_with fail
  refine (HRead.out A2 27 _ (b.take 27) ⟨0, 0, 0, 0, 0⟩ 0 4 _ ⟨by have := Hc2.out; omega, Hc2.out.2⟩ (by decide) (HR4.out.take (by omega)) H6.out.2.1 H6.out.2.2 H6.out.1).mono ?_
  rintro e wr5 ⟨rfl, hb5⟩
  obtain ⟨z5, ez5⟩ : ∃ y, wr5.heap.size = y := ⟨_, rfl⟩
  obtain ⟨wa5, ew5⟩ : ∃ v, wr5.alloc (.cells #[.int .u8 0, .int .u32 0, .int .u32 0, .int .u16 0, .int .u16 0, .int .u32 0] 28) = v := ⟨_, rfl⟩
  have hba : Below wr5.heap.size wr5 wa5 := by rw [← ew5]; exact (Below.refl _ _).alloc (Nat.le_refl _) _
  have HBr5 := Lib.hid (below_trans hb5 hba)
  have Ew5 := Lib.hid ew5
  have Ez5 := Lib.hid ez5
  clear ew5 ez5 hba hb5
  go_upto_region 6 with (fail)
  rw [Ew5.out]
  try rw [Ez5.out]
  clear Ew5 Ez5
  have HR6 := Lib.hid (HR4.out.below HBr5.out)
  have HK6 := Lib.hid (blk_on HK4.out HBr5.out)
  have HBw6 := Lib.hid (below_trans HB4.out HBr5.out)
  go_upto_region 7 with (first | (refine wpList_app rfl (.const (.slice none 0 0)) (.tmp 30) rfl wa5.heap.size none A2 0 0 28 c2 [] b rfl rfl (OwnB.nil _ _) HR6.out (by omega) (Nat.le_refl _) ?_; intro A7 c7 w7 ho7 _ hb7 _) | (refine wpList_app rfl (.const (.slice none 0 0)) (.tmp 32) rfl w7.heap.size none A2 0 0 28 c2 [] b rfl rfl (OwnB.nil _ _) (HR6.out.below hb7) (by omega) (Nat.le_refl _) ?_; intro A8 c8 w8 ho8 _ hb8 _))
  have HO7 := Lib.hid (show OwnB w8 wa5.heap.size A7 28 c7 b from OwnB.on (by simpa using ho7) hb8)
  have HO8 := Lib.hid (show OwnB w8 w7.heap.size A8 28 c8 b by simpa using ho8)
  have HB8 := Lib.hid (show Below wa5.heap.size wa5 w8 from below_trans hb7 hb8)
  have hw78 := hb7.size
  obtain ⟨g7, rfl, hg7, hl7⟩ := (show OwnB w7 wa5.heap.size A7 28 c7 b by simpa using ho7).addr (by omega)
  obtain ⟨g8, rfl, hg8, hl8⟩ := HO8.out.addr (by omega)
  have Hg := Lib.hid (show g7 < g8 ∧ wa5.heap.size ≤ g7 from ⟨by omega, hg7⟩)
  have e1 := HO7.out.cell 0 (by omega)
  have e2 := HO8.out.cell 9 (by omega)
  have f1 : w8.frozen? ⟨g7, 0, none⟩ = false := World.ownsRow.frozenAt HO7.out _
  have f2 : w8.frozen? ⟨g8, 9, none⟩ = false := World.ownsRow.frozenAt HO8.out _
  have h7c : (28 : Int) ≤ (c7 : Int) := by have := HO7.out.cap; omega
  have h8c : (28 : Int) ≤ (c8 : Int) := by have := HO8.out.cap; omega
  have hne : ¬ g7 = g8 := by omega
  have hne2 : ¬ g8 = g7 := by omega
  obtain ⟨w9, e9⟩ : ∃ v, (w8.setCell ⟨g7, 0, none⟩ (.int .u8 85)).setCell ⟨g8, 9, none⟩ (.int .u8 47) = v := ⟨_, rfl⟩
  have hbs : ∀ (j : Nat) (x : Int), 0 ≤ x ∧ x < 256 → ∀ y ∈ b.set j x, 0 ≤ y ∧ y < 256 := fun j x hx y hy => by
    rcases List.mem_or_eq_of_mem_set hy with h | rfl
    · exact Hby.out y h
    · exact hx
  have HR9a := Lib.hid (show Rd w9 (some ⟨g7, 0, none⟩) 28 (b.set 0 85) by
    rw [← e9]
    refine ((HO7.out.set_ 0 85).rd (hbs 0 85 (by omega))).but (S := fun k => k = g8) ((But.refl (fun k => k = g8) _).setCell (p := ⟨g8, 9, none⟩) rfl _) (fun g o e _ hk => ?_)
    injection e with e
    injection e with e _ _
    omega)
  have HR9b := Lib.hid (show Rd w9 (some ⟨g8, 0, none⟩) 28 (b.set 9 47) by
    rw [← e9]
    have hO : OwnB (w8.setCell ⟨g7, 0, none⟩ (.int .u8 85)) w7.heap.size (some ⟨g8, 0, none⟩) 28 c8 b := HO8.out.but (S := fun k => k = g7) ((But.refl (fun k => k = g7) _).setCell (p := ⟨g7, 0, none⟩) rfl _) (fun k hk e => by omega)
    exact (hO.set_ 9 47).rd (hbs 9 47 (by omega)))
  have HB9 := Lib.hid (show Below wa5.heap.size wa5 w9 by rw [← e9]; exact (HB8.out.setCell (p := ⟨g7, 0, none⟩) hg7 _).setCell (p := ⟨g8, 9, none⟩) (by show wa5.heap.size ≤ g8; omega) _)
  have E9 := Lib.hid e9
  have Hcc := Lib.hid (show (28 ≤ c7 ∧ c7 ≤ maxLen) ∧ 28 ≤ c8 ∧ c8 ≤ maxLen from ⟨⟨HO7.out.cap, HO7.out.capMax⟩, HO8.out.cap, HO8.out.capMax⟩)
  clear ho7 hb7 ho8 hb8 hg7 hl7 hg8 hl8 e9 hbs hw78
  go_upto_region 8 with (fail)
  rw [E9.out]
  clear e1 e2 f1 f2 E9 HO7 HO8
  have HR9 := Lib.hid (HR6.out.below HB9.out)
  have HK9 := Lib.hid (blk_on HK6.out HB9.out)
  have HBw9 := Lib.hid (below_trans HBw6.out HB9.out)
  go_wp2_with fail
  refine (HRead.out (some ⟨g7, 0, none⟩) 28 _ (b.set 0 85) ⟨0, 0, 0, 0, 0⟩ 0 5 _ Hcc.out.1 (by decide) HR9a.out H7.out.2.1 H7.out.2.2 H7.out.1).mono ?_
  rintro e wr10 ⟨rfl, hb10⟩
  obtain ⟨z10, ez10⟩ : ∃ y, wr10.heap.size = y := ⟨_, rfl⟩
  obtain ⟨wa10, ew10⟩ : ∃ v, wr10.alloc (.cells #[.int .u8 0, .int .u32 0, .int .u32 0, .int .u16 0, .int .u16 0, .int .u32 0] 28) = v := ⟨_, rfl⟩
  have hba : Below wr10.heap.size wr10 wa10 := by rw [← ew10]; exact (Below.refl _ _).alloc (Nat.le_refl _) _
  have HBr10 := Lib.hid (below_trans hb10 hba)
  have Ew10 := Lib.hid ew10
  have Ez10 := Lib.hid ez10
  clear ew10 ez10 hba hb10
  go_upto_region 9 with (fail)
  rw [Ew10.out]
  try rw [Ez10.out]
  clear Ew10 Ez10
  have HBw10 := Lib.hid (below_trans HBw9.out HBr10.out)
  go_wp2_with fail
  refine (HRead.out (some ⟨g8, 0, none⟩) 28 _ (b.set 9 47) ⟨0, 0, 0, 0, 0⟩ 0 22 _ Hcc.out.2 (by decide) (HR9b.out.below HBr10.out) H8.out.2.1 H8.out.2.2 H8.out.1).mono ?_
  rintro e wr11 ⟨rfl, hb11⟩
  obtain ⟨z11, ez11⟩ : ∃ y, wr11.heap.size = y := ⟨_, rfl⟩
  obtain ⟨wa11, ew11⟩ : ∃ v, wr11.alloc (.cells #[.int .u8 0, .int .u32 0, .int .u32 0, .int .u16 0, .int .u16 0, .int .u32 0] 28) = v := ⟨_, rfl⟩
  have hba : Below wr11.heap.size wr11 wa11 := by rw [← ew11]; exact (Below.refl _ _).alloc (Nat.le_refl _) _
  have HBr11 := Lib.hid (below_trans hb11 hba)
  have Ew11 := Lib.hid ew11
  have Ez11 := Lib.hid ez11
  clear ew11 ez11 hba hb11
  go_upto_region 10 with (fail)
  rw [Ew11.out]
  try rw [Ez11.out]
  clear Ew11 Ez11
  have HBw11 := Lib.hid (below_trans HBw10.out HBr11.out)
  have HB911 := Lib.hid (below_trans HBr10.out HBr11.out)
  go_wp2_with fail
  refine (HRw.out A2 28 c2 b ⟨17, 0, 0, 0, 0⟩ 0 _ [] 0 1 Hc2.out (by decide) (HR9.out.below HB911.out) ⟨by decide, by decide, by decide, by decide, by decide⟩ (by decide) Ha.out rfl H9.out).mono ?_
  rintro e w12 ⟨A12, c12, rfl, -, hb12⟩
  have HK12 := Lib.hid (blk_on (blk_on HK9.out HB911.out) hb12)
  have HBw12 := Lib.hid (below_trans HBw11.out hb12)
  clear hb12
  obtain ⟨k0, k1, k2, k3, k4, k5⟩ := cells6 HK12.out
  have heq : ∀ W : World, (binOp .eql 28 (.agg #[.int .u8 6, .int .u32 167772161, .int .u32 167772162, .int .u16 5, .int .u16 80, .int .u32 9]) (.agg #[.int .u8 6, .int .u32 167772161, .int .u32 167772162, .int .u16 5, .int .u16 80, .int .u32 9])).run Try.prog W = .ok (.bool true) W := fun W => by
    rw [run_eql_struct, run_equalIn_struct W 9999 28 _ _ (by kernel_rfl) (by kernel_rfl)]
    go_simp
  go_wp2_with fail
  go_ret
  exact ⟨rfl, HBw12.out⟩
end Go.Proofs.Ytoegfgbalcholaa

/-
  The contract of package wire's Read over a function value that is handed in: what the function does is asked as a premise.
-/
namespace Go.Proofs.Ytoegfgbalcholaa
set_option maxRecDepth 10000
open Go.RowKit

/-- The deferred function of during, of a frame that returns: the error is told, the reader is shut. -/
theorem catch_idle (g p q : Nat) (A : Option Addr) (n c : Nat) (at_ x y : Int) (w : World) (hpq : p ≠ q) (hgq : g ≠ q) (hgp : g ≠ p) (hg : w.heap[g]? = some (rdrBlock g A n c at_ x)) (hp : w.heap[p]? = some (.cells #[.pointer (some ⟨g, 0, none⟩)] 92 (0, 0))) (hq : w.heap[q]? = some (.cells #[.int .i64 y] 29 (0, 0))) :
    CallsD Try.prog 87 #[.pointer (some ⟨p, 0, none⟩), .pointer (some ⟨q, 0, none⟩)] .returning w fun e u' w' => e = .returned (.tuple #[]) ∧ u' = .returning ∧ w'.cell? ⟨q, 0, none⟩ = some (.int .i64 x) ∧ But (fun k => k = g ∨ k = q) w w' := by
  obtain ⟨c0, c1, c2, c3, f0, f1, f2, f3⟩ := rdrC hg
  have hpc : w.cell? ⟨p, 0, none⟩ = some (.pointer (some ⟨g, 0, none⟩)) := by simp [World.cell?, hp]
  have hqc : w.cell? ⟨q, 0, none⟩ = some (.int .i64 y) := by simp [World.cell?, hq]
  have hqf : w.frozen? ⟨q, 0, none⟩ = false := by simp [World.frozen?, hq]
  have hqp := hpq.symm
  have hqg := hgq.symm
  have hpg := hgp.symm
  have hsame := gave_same g
  have Hb : Hid (But (fun k => k = g ∨ k = q) w (((((w.setCell ⟨q, 0, none⟩ (.int .i64 x)).setCell ⟨g, 0, none⟩ (.pointer none)).setCell ⟨g, 1, none⟩ (.slice none 0 0)).setCell ⟨g, 2, none⟩ (.int .i64 0)).setCell ⟨g, 3, none⟩ (.int .i64 0))) :=
    (((((But.refl (fun k => k = g ∨ k = q) w).setCell (p := ⟨q, 0, none⟩) (.inr rfl) _).setCell (p := ⟨g, 0, none⟩) (.inl rfl) _).setCell (p := ⟨g, 1, none⟩) (.inl rfl) _).setCell (p := ⟨g, 2, none⟩) (.inl rfl) _).setCell (p := ⟨g, 3, none⟩) (.inl rfl) _
  refine callsD_of_wpS Try.func87 rfl fun c₀ cs hu => ?_
  simp only [Try.ntmps87, List.size_toArray, List.length_cons, List.length_nil, Nat.reduceAdd, Nat.reduceSub, Array.replicate_succ, Array.replicate_zero, List.push_toArray, List.append_toArray, List.nil_append, List.cons_append]
  apply wpS_seq
  refine wpS_of_wp ?_
  go_wp2_with fail
  refine (show Code.wpS _ _ _ _ _ _ from ?_)
  apply wpS_seq
  refine wpS_of_wp ?_
  go_wp2_with fail
  refine (show Code.wpS _ _ _ _ _ _ from ?_)
  apply wpS_seq
  apply wpS_region
  simp [wpOpsS, go_sem, recoverD, hu, Exit.thenS]
  apply wpS_seq
  refine wpS_of_wp ?_
  go_wp2_with fail
  refine (show Code.wpS _ _ _ _ _ _ from ?_)
  refine wpS_cond (t := false) rfl ?_
  simp only [Bool.false_eq_true, if_false]
  refine wpS_of_wp (wp_skip ?_)
  refine ⟨rfl, _, by cases c₀; simp_all, .tuple #[], by simp [results, Try.results87], rfl, rfl, ?_, Hb.out⟩
  go_simp
/-- The deferred function of during, of a frame that panics with the reader's own panic: the error is told, the reader is shut, and the panic is taken back. -/
theorem catch_gave (g p q : Nat) (A : Option Addr) (n c : Nat) (at_ x y : Int) (w : World) (hpq : p ≠ q) (hgq : g ≠ q) (hgp : g ≠ p) (hg : w.heap[g]? = some (rdrBlock g A n c at_ x)) (hp : w.heap[p]? = some (.cells #[.pointer (some ⟨g, 0, none⟩)] 92 (0, 0))) (hq : w.heap[q]? = some (.cells #[.int .i64 y] 29 (0, 0))) :
    CallsD Try.prog 87 #[.pointer (some ⟨p, 0, none⟩), .pointer (some ⟨q, 0, none⟩)] (.panicking (gaveUp g)) w fun e u' w' => e = .returned (.tuple #[]) ∧ u' = .panicking [{ v := .iface 124 (.agg #[.pointer (some ⟨g, 0, none⟩)]), recovered := true }] ∧ w'.cell? ⟨q, 0, none⟩ = some (.int .i64 x) ∧ But (fun k => k = g ∨ k = q) w w' := by
  obtain ⟨c0, c1, c2, c3, f0, f1, f2, f3⟩ := rdrC hg
  have hpc : w.cell? ⟨p, 0, none⟩ = some (.pointer (some ⟨g, 0, none⟩)) := by simp [World.cell?, hp]
  have hqc : w.cell? ⟨q, 0, none⟩ = some (.int .i64 y) := by simp [World.cell?, hq]
  have hqf : w.frozen? ⟨q, 0, none⟩ = false := by simp [World.frozen?, hq]
  have hqp := hpq.symm
  have hqg := hgq.symm
  have hpg := hgp.symm
  have hsame := gave_same g
  have Hb : Hid (But (fun k => k = g ∨ k = q) w (((((w.setCell ⟨q, 0, none⟩ (.int .i64 x)).setCell ⟨g, 0, none⟩ (.pointer none)).setCell ⟨g, 1, none⟩ (.slice none 0 0)).setCell ⟨g, 2, none⟩ (.int .i64 0)).setCell ⟨g, 3, none⟩ (.int .i64 0))) :=
    (((((But.refl (fun k => k = g ∨ k = q) w).setCell (p := ⟨q, 0, none⟩) (.inr rfl) _).setCell (p := ⟨g, 0, none⟩) (.inl rfl) _).setCell (p := ⟨g, 1, none⟩) (.inl rfl) _).setCell (p := ⟨g, 2, none⟩) (.inl rfl) _).setCell (p := ⟨g, 3, none⟩) (.inl rfl) _
  refine callsD_of_wpS Try.func87 rfl fun c₀ cs hu => ?_
  simp only [Try.ntmps87, List.size_toArray, List.length_cons, List.length_nil, Nat.reduceAdd, Nat.reduceSub, Array.replicate_succ, Array.replicate_zero, List.push_toArray, List.append_toArray, List.nil_append, List.cons_append]
  apply wpS_seq
  refine wpS_of_wp ?_
  go_wp2_with fail
  refine (show Code.wpS _ _ _ _ _ _ from ?_)
  apply wpS_seq
  refine wpS_of_wp ?_
  go_wp2_with fail
  refine (show Code.wpS _ _ _ _ _ _ from ?_)
  apply wpS_seq
  apply wpS_region
  simp [wpOpsS, go_sem, recoverD, hu, Exit.thenS]
  apply wpS_seq
  refine wpS_of_wp ?_
  go_wp2_with fail
  refine (show Code.wpS _ _ _ _ _ _ from ?_)
  refine wpS_cond (t := false) rfl ?_
  simp only [Bool.false_eq_true, if_false]
  refine wpS_of_wp (wp_skip ?_)
  refine ⟨rfl, _, rfl, .tuple #[], by simp [results, Try.results87], rfl, rfl, ?_, Hb.out⟩
  go_simp

/-- What a function that is handed to Read did: it came to its end, or the reader gave up with x (then it is as it gave up; 0: it did not); of what was there S and the reader have turned; R holds then. -/
def Did (S : Nat → Prop) (g : Nat) (R : Int → World → Prop) (w : World) (e : Ending) (w' : World) : Prop :=
  ∃ x A n c at_, ((e = .returned (.tuple #[]) ∧ x = 0) ∨ e = .panicked (gaveUp g)) ∧ w'.heap[g]? = some (rdrBlock g A n c at_ x) ∧ But (fun k => S k ∨ k = g) w w' ∧ R x w'

/-- What during tells. -/
def DuringIs (S : Nat → Prop) (g : Nat) (R : World → Int → World → Prop) (w : World) (e : Ending) (w' : World) : Prop :=
  ∃ x w1 w2, e = .returned (.int .i64 x) ∧ Below w.heap.size w w1 ∧ w1.heap.size = w.heap.size + 2 ∧ R w1 x w2 ∧ But (fun k => k = g ∨ (w.heap.size ≤ k ∧ k < w.heap.size + 2)) w2 w' ∧ But (fun k => S k ∨ k = g) w w'

theorem during_any (S : Nat → Prop) (B g F : Nat) (caps : Array Value) (l : List Int) (R : World → Int → World → Prop) (w : World) (hS : ∀ k, S k → k < w.heap.size) (hgw : g < w.heap.size) (h : Rdr w B g l 0)
    (hF : ∀ args W, (callFunc F args).run Try.prog W = .ok (.enter F args) W)
    (hdo : ∀ w1, Below w.heap.size w w1 → w1.heap.size = w.heap.size + 2 → Rdr w1 B g l 0 → Calls Try.prog F (#[.pointer (some ⟨g, 0, none⟩)] ++ caps) w1 (Did S g (R w1) w1)) :
    Calls Try.prog 74 #[.pointer (some ⟨g, 0, none⟩), .func (.func F) #[] caps] w (DuringIs S g R w) := by
  have hmf : ∀ (fn : Fn) (first cap : Array Value) (w : World), (Instr.makeFunc fn first cap).run Try.prog w = .ok (.func fn first cap) w := fun _ _ _ _ => rfl
  have hb0 : Below w.heap.size w ((w.alloc (.cells #[.pointer (some ⟨g, 0, none⟩)] 92)).alloc (.cells #[.int .i64 0] 29)) := ((Below.refl _ _).alloc (Nat.le_refl _) _).alloc (by simp) _
  have Hdo := Lib.hid (hdo _ hb0 (by simp) (h.below hb0))
  have Hb0 := Lib.hid hb0
  clear hb0 hdo
  go_enter_defers Try.func74, Try.ntmps74
  go_wp2_with fail
  refine Hdo.out.mono ?_
  rintro e w2 ⟨x, A, n, c, at_, he, hg, hb, hR⟩
  have hp2 : w2.heap[w.heap.size]? = some (.cells #[.pointer (some ⟨g, 0, none⟩)] 92 (0, 0)) := hb.blk (by rw [Below.heap_alloc _ _ _ (by simp)]; exact heap_alloc_new w _) (fun hh => by rcases hh with hh | hh; have := hS _ hh; omega; omega)
  have hq2 : w2.heap[w.heap.size + 1]? = some (.cells #[.int .i64 0] 29 (0, 0)) := hb.blk (by have := heap_alloc_new (w.alloc (.cells #[.pointer (some ⟨g, 0, none⟩)] 92)) (.cells #[.int .i64 0] 29); simpa using this) (fun hh => by rcases hh with hh | hh; have := hS _ hh; omega; omega)
  have hbw := But.trans2 (S := fun k => S k ∨ k = g) (But.of Hb0.out) hb (fun _ _ h => h)
  have hend : ∀ w3, w3.cell? ⟨w.heap.size + 1, 0, none⟩ = some (.int .i64 x) → But (fun k => k = g ∨ k = w.heap.size + 1) w2 w3 → DuringIs S g R w (.returned (.int .i64 x)) w3 := by
    intro w3 _ hb3
    refine ⟨x, _, w2, rfl, Hb0.out, by simp, hR, hb3.mono (fun k _ hk => by rcases hk with hk | hk; exact .inl hk; exact .inr (by omega)), But.trans2 hbw hb3 (fun k hk hh => by rcases hh with hh | hh; exact .inr hh; omega)⟩
  have Hend := Lib.hid hend
  have Hp2 := Lib.hid hp2
  have Hq2 := Lib.hid hq2
  have Hg := Lib.hid hg
  clear hp2 hq2 hg hbw hend hb hR
  rcases he with ⟨rfl, rfl⟩ | rfl
  · have hqc : w2.cell? ⟨w.heap.size + 1, 0, none⟩ = some (.int .i64 0) := by simp [World.cell?, Hq2.out]
    have hqf : w2.frozen? ⟨w.heap.size + 1, 0, none⟩ = false := by simp [World.frozen?, Hq2.out]
    go_wp2_with fail
    have hb0 : But (fun k => k = w.heap.size + 1) w2 (w2.setCell ⟨w.heap.size + 1, 0, none⟩ (.int .i64 0)) := (But.refl (fun k => k = w.heap.size + 1) w2).setCell (p := ⟨w.heap.size + 1, 0, none⟩) rfl _
    refine leaves_cons (f := 87) (args := #[.pointer (some ⟨w.heap.size, 0, none⟩), .pointer (some ⟨w.heap.size + 1, 0, none⟩)]) (by simp) (by simp [go_sem]) ?_
    refine (catch_idle g w.heap.size (w.heap.size + 1) A n c at_ 0 0 _ (by omega) (by omega) (by omega) (hb0.blk Hg.out (by omega)) (hb0.blk Hp2.out (by omega)) (by rw [setCell_block Hq2.out]; simp)).mono ?_
    rintro e u' w3 ⟨rfl, rfl, hc, hb⟩
    have Hb := Lib.hid (Hend.out w3 hc (But.trans (hb0.mono (fun k _ hk => .inr hk)) hb))
    clear hb hb0
    simp [Leaves, settle, results, go_sem, Try.results74, hc]
    exact Hb.out
  · refine leaves_cons (f := 87) (args := #[.pointer (some ⟨w.heap.size, 0, none⟩), .pointer (some ⟨w.heap.size + 1, 0, none⟩)]) (by simp) (by simp [go_sem]) ?_
    refine (catch_gave g w.heap.size (w.heap.size + 1) A n c at_ x 0 _ (by omega) (by omega) (by omega) Hg.out Hp2.out Hq2.out).mono ?_
    rintro e u' w3 ⟨rfl, rfl, hc, hb⟩
    have Hb := Lib.hid (Hend.out w3 hc hb)
    clear hb
    simp [Leaves, settle, results, go_sem, Try.results74, hc]
    exact Hb.out

/-- What Read tells: what the reader gave up with, or 0; R held when the function was done, and since then only what Read itself made has turned. -/
def ReadIs (S : Nat → Prop) (R : World → Int → World → Prop) (w : World) (e : Ending) (w' : World) : Prop :=
  ∃ x w1 w2, e = .returned (.int .i64 x) ∧ Below w.heap.size w w1 ∧ R w1 x w2 ∧ But (fun k => w.heap.size ≤ k ∧ k < w1.heap.size) w2 w' ∧ But S w w'

theorem slAt_own {w : World} {B : Nat} {A : Option Addr} {n c : Nat} {l : List Int} (h : OwnB w B A n c l) : SlAt A c ∧ ∀ b o, A = some ⟨b, o, none⟩ → B ≤ b ∧ b < w.heap.size := by
  rcases h.2 with ⟨e, _⟩ | ⟨g, cap, cur, e, hB, hg, _⟩
  · injection e with e1 _ e3
    subst e1; subst e3
    exact ⟨.inl ⟨rfl, rfl⟩, fun _ _ e => by cases e⟩
  · injection e with e1 _ _
    subst e1
    exact ⟨.inr ⟨g, 0, rfl⟩, fun _ _ e => by injection e with e; injection e with e _; rw [← e]; exact ⟨hB, lt_of_block hg⟩⟩

/-- A function that has a body is entered. -/
theorem enter_of {f : FuncId} {fn : Func} {c : Code} (hf : Try.prog.funcs[f]? = some fn) (hname : (fn.name == "runtime.NumGoroutine") = false) (hb : fn.body = some c) (args : Array Value) (W : World) : (callFunc f args).run Try.prog W = .ok (.enter f args) W := by
  have hn : ¬ fn.name = "runtime.NumGoroutine" := by simpa using hname
  simp [callFunc, hf, hb, hn, go_sem]

theorem func_nil (F : Nat) (caps : Array Value) (w : World) : (binOp .eql 103 (.func (.func F) #[] caps) .nilFunc).run Try.prog w = .ok (.bool false) w := by
  have h : ∀ d : Nat, (Op.equalIn (d + 1) 103 (.func (.func F) #[] caps) .nilFunc).run Try.prog w = .ok false w := fun d => by
    simp [Op.equalIn, run_underlying Try.underlying103]
  simp only [binOp]
  simp [Op.equal, Op.maxDepth, h 9999]

theorem read_any (S : Nat → Prop) (F n c : Nat) (caps : Array Value) (args : Nat → Array Value) (hargs : ∀ g, #[.pointer (some ⟨g, 0, none⟩)] ++ caps = args g) (A : Option Addr) (l : List Int) (R : World → Int → World → Prop) (w : World) (hS : ∀ k, S k → k < w.heap.size) (hn : n ≤ 140737488355328) (hr : Rd w A n l)
    (hF : ∀ args W, (callFunc F args).run Try.prog W = .ok (.enter F args) W)
    (hdo : ∀ w1 g, Below w.heap.size w w1 → w.heap.size ≤ g → g < w1.heap.size → Rdr w1 w.heap.size g l 0 → Calls Try.prog F (args g) w1 (Did S g (R w1) w1)) :
    Calls Try.prog 44 #[.slice A n c, .func (.func F) #[] caps] w (ReadIs S R w) := by
  have Hdo := Lib.hid hdo
  have Hcl := Lib.hid (clone_any A n c l w hn hr)
  have hnil := func_nil F caps
  have Hargs := Lib.hid hargs
  clear hargs
  have hbyte := hr.byte
  clear hdo hr
  go_enter Try.func44, Try.ntmps44
  go_wp2_with fail
  refine Hcl.out.mono ?_
  rintro e w1 ⟨A1, c1, rfl, hnc1, hc1, hown, hb1⟩
  have hs1 := slAt_own hown
  have hlen := hown.len
  have hba : Below w1.heap.size w1 (w1.alloc (rdrBlock w1.heap.size A1 n c1 0 0)) := (Below.refl _ _).alloc (Nat.le_refl _) _
  have hR : Rdr (w1.alloc (rdrBlock w1.heap.size A1 n c1 0 0)) w.heap.size w1.heap.size l 0 :=
    ⟨A1, n, c1, hnc1, hc1, hs1.1, ⟨hb1.size, hs1.2⟩, ⟨by omega, by omega⟩, heap_alloc_new w1 _, (hown.rd hbyte).below hba⟩
  have Hd := Lib.hid (during_any S w.heap.size w1.heap.size F caps l R (w1.alloc (rdrBlock w1.heap.size A1 n c1 0 0)) (fun k hk => by have := hS k hk; have := hb1.size; simp; omega) (by simp) hR hF
    (fun w2 h2 h2s h2r => by rw [Hargs.out]; exact Hdo.out w2 w1.heap.size (below_trans hb1 (below_trans hba h2)) hb1.size (by rw [h2s]; simp; omega) h2r))
  have Hb1 := Lib.hid hb1
  have Hba := Lib.hid hba
  clear hown hb1 hba hR hlen hs1 hbyte
  go_wp2_with fail
  refine Hd.out.mono ?_
  rintro e w2 ⟨x, wd, w3, rfl, hbd, hsd, hR, hb2, hb3⟩
  have Hx : Hid (ReadIs S R w (.returned (.int .i64 x)) w2) := by
    have hsz : (w1.alloc (rdrBlock w1.heap.size A1 n c1 0 0)).heap.size = w1.heap.size + 1 := by simp
    refine ⟨x, wd, w3, rfl, below_trans Hb1.out (below_trans Hba.out hbd), hR, ?_, ?_⟩
    · refine hb2.mono (fun k _ hk => ?_)
      have := Hb1.out.size
      rw [hsz] at hk hsd
      omega
    · refine But.trans2 (But.of (below_trans Hb1.out Hba.out)) hb3 (fun k hk hh => ?_)
      rcases hh with hh | hh
      · exact hh
      · have := Hb1.out.size; omega
  clear hR hb2 hb3 hbd hsd
  go_wp2_with fail
  go_ret
  exact Hx.out

end Go.Proofs.Ytoegfgbalcholaa

/-
  Datagrams as numbers and a list.
-/
namespace Go.Proofs.Ytoegfgbalcholaa
set_option maxRecDepth 10000

/-- A datagram, plainly. -/
structure Dg where
  sp : Int
  dp : Int
  d : List Int
structure DgNum (s : Dg) : Prop where
  sp : 0 ≤ s.sp ∧ s.sp < 65536
  dp : 0 ≤ s.dp ∧ s.dp < 65536
end Go.Proofs.Ytoegfgbalcholaa
