/-
  Texts laid together: OptPlain, SegPut, InWakes.
-/
import Derived.Test.YtoegfgbalcholaaZC11
import Derived.Test.YtoegfgbalcholaaZC09
import Derived.Test.YtoegfgbalcholaaZC03
import Derived.Laws.StructEq

/-
  Options' bytes, plainly: what is laid is read again, and what is read may be laid. No function of the program.
-/
namespace Go.Proofs.Ytoegfgbalcholaa
set_option maxRecDepth 10000
open Go.RowKit

theorem badB_false {l : Int × List Int} (h : badB l = false) : 2 ≤ l.1 ∧ l.2.length ≤ 38 := by
  unfold badB at h
  simp at h
  omega
theorem behindO_ok (a b : List (Int × List Int)) : behindO a (b, 0) = (a ++ b, 0) := by simp [behindO]
/-- What stands behind options that are laid is read behind them. -/
theorem parseL_bytes (r : List Int) : ∀ (ls : List (Int × List Int)), (∀ l ∈ ls, 2 ≤ l.1) → parseL (bytesO ls ++ r) = behindO ls (parseL r)
  | [], _ => by
    simp only [bytesO, List.flatMap_nil, List.nil_append]
    exact (behindO_nil (parseL r) (parseF_err _ _)).symm
  | l :: ls, h => by
    have h2 := h l (by simp)
    have ih := parseL_bytes r ls (fun x hx => h x (by simp [hx]))
    have e : bytesO (l :: ls) ++ r = l.1 :: (2 + (l.2.length : Int)) :: (l.2 ++ (bytesO ls ++ r)) := by simp [bytesO, bytesOne]
    rw [e, parseL_opt _ _ _ (by omega) (by omega), if_neg (by omega), if_neg (by simp; omega)]
    have e2 : (2 + (l.2.length : Int) - 2).toNat = l.2.length := by omega
    rw [e2, List.take_left, List.drop_left, ih, behindO_app]
    rfl
theorem parseL_zeros (k : Nat) : parseL (List.replicate k 0) = ([], 0) := by
  cases k with
  | zero => rfl
  | succ k => rw [List.replicate_succ, parseL_zero, if_pos (by simp)]
theorem padTo4_len (b : List Int) : (padTo4 b).length % 4 = 0 ∧ b.length ≤ (padTo4 b).length ∧ (padTo4 b).length ≤ b.length + 3 := by
  unfold padTo4
  simp
  omega
/-- What Put tells is read as the options. -/
theorem parseO_put {ls : List (Int × List Int)} (h : ls.any badB = false) (hl : (bytesO ls).length ≤ 40) : parseO (padTo4 (bytesO ls)) = (ls, 0) := by
  have hp := padTo4_len (bytesO ls)
  unfold parseO
  rw [if_neg (by omega)]
  have hk : ∀ l ∈ ls, 2 ≤ l.1 := fun l hl' => (badB_false (by rw [List.any_eq_false] at h; simpa using h l hl')).1
  unfold padTo4
  rw [parseL_bytes _ ls hk, parseL_zeros, behindO_ok, List.append_nil]

theorem Reads.byte {w : World} : ∀ {os : List OptV} {ls : List (Int × List Int)}, Reads w os ls → ∀ l ∈ ls, (0 ≤ l.1 ∧ l.1 < 256) ∧ ∀ x ∈ l.2, 0 ≤ x ∧ x < 256
  | [], [], _, l, hl => by simp at hl
  | o :: os, l' :: ls, h, l, hl => by
    rcases List.mem_cons.1 hl with rfl | hl
    · obtain ⟨h1, h2, _, _, h5⟩ := h.1
      exact ⟨by rw [← h1]; exact h2, h5.byte⟩
    · exact Reads.byte h.2 l hl
theorem bytesO_bytes {ls : List (Int × List Int)} (h : ∀ l ∈ ls, (0 ≤ l.1 ∧ l.1 < 256) ∧ ∀ x ∈ l.2, 0 ≤ x ∧ x < 256) (h2 : ∀ l ∈ ls, l.2.length ≤ 38) : ∀ x ∈ bytesO ls, 0 ≤ x ∧ x < 256 := by
  intro x hx
  obtain ⟨l, hl, hx⟩ := List.mem_flatMap.1 hx
  have h3 := h l hl
  have h4 := h2 l hl
  simp only [bytesOne, List.mem_append, List.mem_cons, List.not_mem_nil, or_false] at hx
  rcases hx with (rfl | rfl) | hx
  · exact h3.1
  · omega
  · exact h3.2 x hx
end Go.Proofs.Ytoegfgbalcholaa

/-
  The contract of culvertref06's Put (and May).
-/
namespace Go.Proofs.Ytoegfgbalcholaa
set_option maxRecDepth 10000
open Go.RowKit

def b2 (n : Int) : List Int := [n / 256 % 256, n % 256]
def b4 (n : Int) : List Int := [n / 16777216 % 256, n / 65536 % 256, n / 256 % 256, n % 256]
def segHd (s : Seg) (off f : Int) : List Int := b2 s.sp ++ b2 s.dp ++ b4 s.sq ++ b4 s.ak ++ [off, s.fl] ++ b2 s.wn ++ b2 f ++ b2 s.ug
def optB (s : Seg) : List Int := padTo4 (bytesO s.os)
def offS (s : Seg) : Int := (20 + ((optB s).length : Int)) / 4 * 16
def lenB (s : Seg) : Nat := 20 + (optB s).length + s.d.length
def fieldS (src dst : Int) (s : Seg) : Int := 65535 - sumL (pseudoL src dst 6 (lenB s) ++ (segHd s (offS s) 0 ++ optB s ++ s.d))
def segB (src dst : Int) (s : Seg) : List Int := segHd s (offS s) (fieldS src dst s) ++ optB s ++ s.d
theorem seg_cells {W : World} {z : Nat} {v0 v1 v2 v3 v4 v5 v6 v7 v8 : Value} (h : W.heap[z]? = some (.cells #[v0, v1, v2, v3, v4, v5, v6, v7, v8] 46 (0, 0))) :
    W.cell? ⟨z, 0, none⟩ = some v0 ∧ W.cell? ⟨z, 1, none⟩ = some v1 ∧ W.cell? ⟨z, 2, none⟩ = some v2 ∧ W.cell? ⟨z, 3, none⟩ = some v3 ∧ W.cell? ⟨z, 4, none⟩ = some v4 ∧ W.cell? ⟨z, 5, none⟩ = some v5 ∧ W.cell? ⟨z, 6, none⟩ = some v6 ∧ W.cell? ⟨z, 7, none⟩ = some v7 ∧ W.cell? ⟨z, 8, none⟩ = some v8 :=
  ⟨blk_cell h 0, blk_cell h 1, blk_cell h 2, blk_cell h 3, blk_cell h 4, blk_cell h 5, blk_cell h 6, blk_cell h 7, blk_cell h 8⟩
theorem padTo4_bytes_ {b : List Int} (h : ∀ x ∈ b, 0 ≤ x ∧ x < 256) : ∀ x ∈ padTo4 b, 0 ≤ x ∧ x < 256 := by
  intro x hx
  rcases List.mem_append.1 hx with h1 | h1
  · exact h x h1
  · rw [List.eq_of_mem_replicate h1]; omega
theorem segHd_bytes (s : Seg) (off f : Int) (hf : 0 ≤ s.fl ∧ s.fl < 256) (ho : 0 ≤ off ∧ off < 256) : ∀ x ∈ segHd s off f, 0 ≤ x ∧ x < 256 := by
  intro x hx
  simp [segHd, b2, b4] at hx
  omega
end Go.Proofs.Ytoegfgbalcholaa

/-
  culvertlaw16's quote and wakes, over the face (stage 16, written ahead).
-/
namespace Go.Proofs.Ytoegfgbalcholaa
set_option maxRecDepth 10000
open Go.RowKit
set_option linter.unusedSimpArgs false
set_option linter.unusedVariables false

instance tuDec : DecidableEq Tu := fun a b => if h : a.pr = b.pr ∧ a.sr = b.sr ∧ a.ds = b.ds ∧ a.sp = b.sp ∧ a.dp = b.dp then isTrue (by cases a; cases b; simp at h; simp [h]) else isFalse (fun e => h (by subst e; simp))
def quoS : Seg := ⟨5, 80, 9, 0, 16, 0, 0, [], []⟩
def quoP : List Int := segB 167772161 167772162 quoS
def quoL : List Int := packetL 0 0 false 9 6 167772161 167772162 [] quoP
def quoB : List Int := ofL quoL 8
def quoT : Tu := ⟨6, 167772161, 167772162, 5, 80⟩
theorem quo_2 : quoP.length = 20 := by decide +kernel
theorem quo_4 : quoB.length = 28 := by decide +kernel
theorem quo_5 : errQ quoB = 0 ∧ qT quoB = quoT ∧ qS quoB = 9 := by decide +kernel
theorem quo_6 : errQ (quoB.take 27) = 4 ∧ qT (quoB.take 27) = zTu ∧ qS (quoB.take 27) = 0 := by decide +kernel
theorem quo_7 : errQ (quoB.set 0 85) = 5 ∧ qT (quoB.set 0 85) = zTu ∧ qS (quoB.set 0 85) = 0 := by decide +kernel
theorem quo_8 : errQ (quoB.set 9 47) = 22 ∧ qT (quoB.set 9 47) = zTu ∧ qS (quoB.set 9 47) = 0 := by decide +kernel
theorem quo_9 : errR quoB ⟨17, 0, 0, 0, 0⟩ = 1 := by decide +kernel
theorem quo_a : rwR quoB ⟨17, 0, 0, 0, 0⟩ 0 = [] := by decide +kernel
theorem quo_b : Bytes quoL := by unfold Bytes; decide +kernel
def QuoF : Prop := ∀ w : World, Calls Try.prog 21 #[] w (RowIs 40 quoL w)
set_option maxHeartbeats 2000000 in
theorem wakes16_any (hQuo : QuoF) (hRead : ReadF16) (hRw : RwF16) (hOf : OfF16) : AwF16 := by
  intro w
  have HQuo := Lib.hid hQuo
  have HRead := Lib.hid hRead
  have HRw := Lib.hid hRw
  have HOf := Lib.hid hOf
  obtain ⟨Q, eQ⟩ : ∃ Q, quoL = Q := ⟨_, rfl⟩
  obtain ⟨b, eb⟩ : ∃ b, quoB = b := ⟨_, rfl⟩
  have h4 := quo_4; have h5 := quo_5; have h6 := quo_6; have h7 := quo_7; have h8 := quo_8; have h9 := quo_9; have ha := quo_a; have hbq := quo_b
  rw [eb] at h4 h5 h6 h7 h8 h9 ha
  rw [eQ] at hbq
  have HQ := Lib.hid eQ
  have Hb := Lib.hid (show ofL Q 8 = b by rw [← eQ, ← eb]; rfl)
  have H4 := Lib.hid h4; have H5 := Lib.hid h5; have H6 := Lib.hid h6; have H7 := Lib.hid h7; have H8 := Lib.hid h8; have H9 := Lib.hid h9; have Ha := Lib.hid ha
  have HbQ := Lib.hid hbq
  have Hby := Lib.hid (show Bytes b by rw [← Hb.out]; exact fun x hx => hbq x (List.mem_of_mem_take hx))
  clear hQuo hRead hRw hOf eQ eb h4 h5 h6 h7 h8 h9 ha hbq
  go_enter Try.func13, Try.ntmps13
  go_wp2_with fail
  refine (HQuo.out _).mono ?_
  rintro e w1 ⟨A1, c1, rfl, hc1, hcm1, ho1, hb1⟩
  rw [HQ.out] at ho1
  have HR1 := Lib.hid (ho1.rd HbQ.out)
  have HB1 := Lib.hid hb1
  have Hc1 := Lib.hid (And.intro hc1 hcm1)
  clear hc1 hcm1 ho1 hb1
  go_wp2_with fail
  refine (HOf.out A1 40 c1 Q 8 b 28 _ Hc1.out (by decide) HR1.out (by decide) Hb.out H4.out).mono ?_
  rintro e w2 ⟨A2, c2, rfl, hc2, hcm2, ho2, hb2⟩
  have HO2 := Lib.hid ho2
  have HR2 := Lib.hid (ho2.rd Hby.out)
  have HB2 := Lib.hid (below_trans HB1.out hb2)
  have Hc2 := Lib.hid (And.intro hc2 hcm2)
  have hc2i : (28 : Int) ≤ (c2 : Int) := by omega
  clear hc2 hcm2 ho2 hb2
  go_wp2_with fail
  refine (HRead.out A2 28 c2 b ⟨6, 167772161, 167772162, 5, 80⟩ 9 0 _ Hc2.out (by decide) HR2.out H5.out.2.1 H5.out.2.2 H5.out.1).mono ?_
  rintro e w3 ⟨rfl, hb3⟩
  obtain ⟨z3, ez3⟩ : ∃ y, w3.heap.size = y := ⟨_, rfl⟩
  obtain ⟨w4, ew4⟩ : ∃ v, w3.alloc (.cells #[.int .u8 6, .int .u32 167772161, .int .u32 167772162, .int .u16 5, .int .u16 80, .int .u32 9] 28) = v := ⟨_, rfl⟩
  have HK4 := Lib.hid (show w4.heap[z3]? = some (.cells #[.int .u8 6, .int .u32 167772161, .int .u32 167772162, .int .u16 5, .int .u16 80, .int .u32 9] 28 (0, 0)) by rw [← ew4, ← ez3]; exact heap_alloc_new w3 _)
  have hba : Below w3.heap.size w3 w4 := by rw [← ew4]; exact (Below.refl _ _).alloc (Nat.le_refl _) _
  have HB24 := Lib.hid (below_trans hb3 hba)
  have Ew4 := Lib.hid ew4
  have Ez3 := Lib.hid ez3
  clear ew4 ez3 hba hb3
  go_upto_region 5 with (fail)
  rw [Ew4.out]
  try rw [Ez3.out]
  clear Ew4 Ez3
  have HO4 := Lib.hid (HO2.out.on HB24.out)
  have HR4 := Lib.hid (HR2.out.below HB24.out)
  have HB4 := Lib.hid (below_trans HB2.out HB24.out)
  go_wp2_with fail
  refine (HRead.out A2 27 _ (b.take 27) ⟨0, 0, 0, 0, 0⟩ 0 4 _ ⟨by have := Hc2.out; omega, Hc2.out.2⟩ (by decide) (HR4.out.take (by omega)) H6.out.2.1 H6.out.2.2 H6.out.1).mono ?_
  rintro e wr5 ⟨rfl, hb5⟩
  obtain ⟨z5, ez5⟩ : ∃ y, wr5.heap.size = y := ⟨_, rfl⟩
  obtain ⟨wa5, ew5⟩ : ∃ v, wr5.alloc (.cells #[.int .u8 0, .int .u32 0, .int .u32 0, .int .u16 0, .int .u16 0, .int .u32 0] 28) = v := ⟨_, rfl⟩
  have hba : Below wr5.heap.size wr5 wa5 := by rw [← ew5]; exact (Below.refl _ _).alloc (Nat.le_refl _) _
  have HBr5 := Lib.hid (below_trans hb5 hba)
  have Ew5 := Lib.hid ew5
  have Ez5 := Lib.hid ez5
  clear ew5 ez5 hba hb5
  go_upto_region 6 with (fail)
  rw [Ew5.out]
  try rw [Ez5.out]
  clear Ew5 Ez5
  have HR6 := Lib.hid (HR4.out.below HBr5.out)
  have HK6 := Lib.hid (blk_on HK4.out HBr5.out)
  have HBw6 := Lib.hid (below_trans HB4.out HBr5.out)
  go_upto_region 7 with (first | (refine wpList_app rfl (.const (.slice none 0 0)) (.tmp 30) rfl wa5.heap.size none A2 0 0 28 c2 [] b rfl rfl (OwnB.nil _ _) HR6.out (by omega) (Nat.le_refl _) ?_; intro A7 c7 w7 ho7 _ hb7 _) | (refine wpList_app rfl (.const (.slice none 0 0)) (.tmp 32) rfl w7.heap.size none A2 0 0 28 c2 [] b rfl rfl (OwnB.nil _ _) (HR6.out.below hb7) (by omega) (Nat.le_refl _) ?_; intro A8 c8 w8 ho8 _ hb8 _))
  have HO7 := Lib.hid (show OwnB w8 wa5.heap.size A7 28 c7 b from OwnB.on (by simpa using ho7) hb8)
  have HO8 := Lib.hid (show OwnB w8 w7.heap.size A8 28 c8 b by simpa using ho8)
  have HB8 := Lib.hid (show Below wa5.heap.size wa5 w8 from below_trans hb7 hb8)
  have hw78 := hb7.size
  obtain ⟨g7, rfl, hg7, hl7⟩ := (show OwnB w7 wa5.heap.size A7 28 c7 b by simpa using ho7).addr (by omega)
  obtain ⟨g8, rfl, hg8, hl8⟩ := HO8.out.addr (by omega)
  have Hg := Lib.hid (show g7 < g8 ∧ wa5.heap.size ≤ g7 from ⟨by omega, hg7⟩)
  have e1 := HO7.out.cell 0 (by omega)
  have e2 := HO8.out.cell 9 (by omega)
  have f1 : w8.frozen? ⟨g7, 0, none⟩ = false := World.ownsRow.frozenAt HO7.out _
  have f2 : w8.frozen? ⟨g8, 9, none⟩ = false := World.ownsRow.frozenAt HO8.out _
  have h7c : (28 : Int) ≤ (c7 : Int) := by have := HO7.out.cap; omega
  have h8c : (28 : Int) ≤ (c8 : Int) := by have := HO8.out.cap; omega
  have hne : ¬ g7 = g8 := by omega
  have hne2 : ¬ g8 = g7 := by omega
  obtain ⟨w9, e9⟩ : ∃ v, (w8.setCell ⟨g7, 0, none⟩ (.int .u8 85)).setCell ⟨g8, 9, none⟩ (.int .u8 47) = v := ⟨_, rfl⟩
  have hbs : ∀ (j : Nat) (x : Int), 0 ≤ x ∧ x < 256 → ∀ y ∈ b.set j x, 0 ≤ y ∧ y < 256 := fun j x hx y hy => by
    rcases List.mem_or_eq_of_mem_set hy with h | rfl
    · exact Hby.out y h
    · exact hx
  have HR9a := Lib.hid (show Rd w9 (some ⟨g7, 0, none⟩) 28 (b.set 0 85) by
    rw [← e9]
    refine ((HO7.out.set_ 0 85).rd (hbs 0 85 (by omega))).but (S := fun k => k = g8) ((But.refl (fun k => k = g8) _).setCell (p := ⟨g8, 9, none⟩) rfl _) (fun g o e _ hk => ?_)
    injection e with e
    injection e with e _ _
    omega)
  have HR9b := Lib.hid (show Rd w9 (some ⟨g8, 0, none⟩) 28 (b.set 9 47) by
    rw [← e9]
    have hO : OwnB (w8.setCell ⟨g7, 0, none⟩ (.int .u8 85)) w7.heap.size (some ⟨g8, 0, none⟩) 28 c8 b := HO8.out.but (S := fun k => k = g7) ((But.refl (fun k => k = g7) _).setCell (p := ⟨g7, 0, none⟩) rfl _) (fun k hk e => by omega)
    exact (hO.set_ 9 47).rd (hbs 9 47 (by omega)))
  have HB9 := Lib.hid (show Below wa5.heap.size wa5 w9 by rw [← e9]; exact (HB8.out.setCell (p := ⟨g7, 0, none⟩) hg7 _).setCell (p := ⟨g8, 9, none⟩) (by show wa5.heap.size ≤ g8; omega) _)
  have E9 := Lib.hid e9
  have Hcc := Lib.hid (show (28 ≤ c7 ∧ c7 ≤ maxLen) ∧ 28 ≤ c8 ∧ c8 ≤ maxLen from ⟨⟨HO7.out.cap, HO7.out.capMax⟩, HO8.out.cap, HO8.out.capMax⟩)
  clear ho7 hb7 ho8 hb8 hg7 hl7 hg8 hl8 e9 hbs hw78
  go_upto_region 8 with (fail)
  rw [E9.out]
  clear e1 e2 f1 f2 E9 HO7 HO8
  have HR9 := Lib.hid (HR6.out.below HB9.out)
  have HK9 := Lib.hid (blk_on HK6.out HB9.out)
  have HBw9 := Lib.hid (below_trans HBw6.out HB9.out)
  go_wp2_with fail
  refine (HRead.out (some ⟨g7, 0, none⟩) 28 _ (b.set 0 85) ⟨0, 0, 0, 0, 0⟩ 0 5 _ Hcc.out.1 (by decide) HR9a.out H7.out.2.1 H7.out.2.2 H7.out.1).mono ?_
  rintro e wr10 ⟨rfl, hb10⟩
  obtain ⟨z10, ez10⟩ : ∃ y, wr10.heap.size = y := ⟨_, rfl⟩
  obtain ⟨wa10, ew10⟩ : ∃ v, wr10.alloc (.cells #[.int .u8 0, .int .u32 0, .int .u32 0, .int .u16 0, .int .u16 0, .int .u32 0] 28) = v := ⟨_, rfl⟩
  have hba : Below wr10.heap.size wr10 wa10 := by rw [← ew10]; exact (Below.refl _ _).alloc (Nat.le_refl _) _
  have HBr10 := Lib.hid (below_trans hb10 hba)
  have Ew10 := Lib.hid ew10
  have Ez10 := Lib.hid ez10
  clear ew10 ez10 hba hb10
  go_upto_region 9 with (fail)
  rw [Ew10.out]
  try rw [Ez10.out]
  clear Ew10 Ez10
  have HBw10 := Lib.hid (below_trans HBw9.out HBr10.out)
  go_wp2_with fail
  refine (HRead.out (some ⟨g8, 0, none⟩) 28 _ (b.set 9 47) ⟨0, 0, 0, 0, 0⟩ 0 22 _ Hcc.out.2 (by decide) (HR9b.out.below HBr10.out) H8.out.2.1 H8.out.2.2 H8.out.1).mono ?_
  rintro e wr11 ⟨rfl, hb11⟩
  obtain ⟨z11, ez11⟩ : ∃ y, wr11.heap.size = y := ⟨_, rfl⟩
  obtain ⟨wa11, ew11⟩ : ∃ v, wr11.alloc (.cells #[.int .u8 0, .int .u32 0, .int .u32 0, .int .u16 0, .int .u16 0, .int .u32 0] 28) = v := ⟨_, rfl⟩
  have hba : Below wr11.heap.size wr11 wa11 := by rw [← ew11]; exact (Below.refl _ _).alloc (Nat.le_refl _) _
  have HBr11 := Lib.hid (below_trans hb11 hba)
  have Ew11 := Lib.hid ew11
  have Ez11 := Lib.hid ez11
  clear ew11 ez11 hba hb11
  go_upto_region 10 with (fail)
  rw [Ew11.out]
  try rw [Ez11.out]
  clear Ew11 Ez11
  have HBw11 := Lib.hid (below_trans HBw10.out HBr11.out)
  have HB911 := Lib.hid (below_trans HBr10.out HBr11.out)
  go_wp2_with fail
  refine (HRw.out A2 28 c2 b ⟨17, 0, 0, 0, 0⟩ 0 _ [] 0 1 Hc2.out (by decide) (HR9.out.below HB911.out) ⟨by decide, by decide, by decide, by decide, by decide⟩ (by decide) Ha.out rfl H9.out).mono ?_
  rintro e w12 ⟨A12, c12, rfl, -, hb12⟩
  have HK12 := Lib.hid (blk_on (blk_on HK9.out HB911.out) hb12)
  have HBw12 := Lib.hid (below_trans HBw11.out hb12)
  clear hb12
  obtain ⟨k0, k1, k2, k3, k4, k5⟩ := cells6 HK12.out
  have heq : ∀ W : World, (binOp .eql 28 (.agg #[.int .u8 6, .int .u32 167772161, .int .u32 167772162, .int .u16 5, .int .u16 80, .int .u32 9]) (.agg #[.int .u8 6, .int .u32 167772161, .int .u32 167772162, .int .u16 5, .int .u16 80, .int .u32 9])).run Try.prog W = .ok (.bool true) W := fun W => by
    rw [run_eql_struct, run_equalIn_struct W 9999 28 _ _ (by kernel_rfl) (by kernel_rfl)]
    go_simp
  go_wp2_with fail
  go_ret
  exact ⟨rfl, HBw12.out⟩
end Go.Proofs.Ytoegfgbalcholaa
