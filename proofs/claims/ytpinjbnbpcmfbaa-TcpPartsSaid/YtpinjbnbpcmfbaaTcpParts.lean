/-
  TcpParts holds: a segment's data in two segments, the second one's Seq behind the first one's data, Fin in the second alone: both are segments, together as long as it, and their data, one behind the other, are its.
-/
import Derived.Test.YtpinjbnbpcmfbaaTcpLaw
import Derived.RegionTactic
import Derived.BigRegion
import Derived.Deep.DeepCutAuto
import Derived.Laws.BitsAllLaws
namespace Go.Proofs.Ytpinjbnbpcmfbaa.tcpParts
set_option maxRecDepth 10000
open Go.ChangeShapes Go.WideShapes Go.ChangeAt Go.RowKit
set_option linter.unusedVariables false
set_option linter.unusedSimpArgs false

theorem cut_tail {w : World} {A : Option Addr} {n c : Nat} {l : List Int} (h : Rd w A n l) (lo : Nat) (hlo : lo ≤ n) (hc : n ≤ c) (hcm : c ≤ maxLen) :
    ∃ A', (∀ W : World, (Instr.sliceAt 25 (.slice A n c) (some (.int .i64 (lo : Int))) none none).run Try.prog W = .ok (.slice A' (n - lo) (c - lo)) W) ∧ Rd w A' (n - lo) (l.drop lo) := by
  rcases Nat.eq_zero_or_pos n with h0 | h0
  · subst h0
    obtain rfl : lo = 0 := by omega
    have hl : l = [] := List.eq_nil_of_length_eq_zero h.len
    subst hl
    unfold maxLen at hcm
    have i2 : (0 : Int) ≤ (c : Int) := by omega
    cases A with
    | none => exact ⟨none, fun W => by go_simp, Rd.nil _ _⟩
    | some a =>
      by_cases hc0 : c = 0
      · subst hc0; exact ⟨some a, fun W => by go_simp, Rd.nil _ _⟩
      · exact ⟨some (a.add 0), fun W => by go_simp, Rd.nil _ _⟩
  · exact h.rest (c := c) lo (lo : Int) h0 hlo hc hcm rfl
def Two (n ga gb : Nat) : Prop := (ga = n ∧ gb = n + 1) ∨ (ga = n + 1 ∧ gb = n)
theorem four_sets {w : World} {ga gb : Nat} (hab : ga ≠ gb) {sp dp sq ak fl wn ug sp' dp' sq' ak' fl' wn' ug' : Value} {o d o' d' : Value} {t : TypeId} (hA : w.heap[ga]? = some (.cells #[sp, dp, sq, ak, fl, wn, ug, o, d] t (0, 0))) (hB : w.heap[gb]? = some (.cells #[sp', dp', sq', ak', fl', wn', ug', o', d'] t (0, 0))) (x y u v : Value) :
    ((((w.setCell ⟨ga, 8, none⟩ x).setCell ⟨gb, 8, none⟩ y).setCell ⟨ga, 4, none⟩ u).setCell ⟨gb, 2, none⟩ v).drew.heap[ga]? = some (.cells #[sp, dp, sq, ak, u, wn, ug, o, x] t (0, 0)) ∧ ((((w.setCell ⟨ga, 8, none⟩ x).setCell ⟨gb, 8, none⟩ y).setCell ⟨ga, 4, none⟩ u).setCell ⟨gb, 2, none⟩ v).drew.heap[gb]? = some (.cells #[sp', dp', v, ak', fl', wn', ug', o', y] t (0, 0)) ∧ But (fun k => k = ga ∨ k = gb) w ((((w.setCell ⟨ga, 8, none⟩ x).setCell ⟨gb, 8, none⟩ y).setCell ⟨ga, 4, none⟩ u).setCell ⟨gb, 2, none⟩ v).drew := by
  have b1 : But (fun k => k = ga) w (w.setCell ⟨ga, 8, none⟩ x) := (But.refl (fun k => k = ga) _).setCell (p := ⟨ga, 8, none⟩) rfl _
  have b2 : But (fun k => k = gb) (w.setCell ⟨ga, 8, none⟩ x) ((w.setCell ⟨ga, 8, none⟩ x).setCell ⟨gb, 8, none⟩ y) := (But.refl (fun k => k = gb) _).setCell (p := ⟨gb, 8, none⟩) rfl _
  have b3 : But (fun k => k = ga) ((w.setCell ⟨ga, 8, none⟩ x).setCell ⟨gb, 8, none⟩ y) (((w.setCell ⟨ga, 8, none⟩ x).setCell ⟨gb, 8, none⟩ y).setCell ⟨ga, 4, none⟩ u) := (But.refl (fun k => k = ga) _).setCell (p := ⟨ga, 4, none⟩) rfl _
  have b4 : But (fun k => k = gb) (((w.setCell ⟨ga, 8, none⟩ x).setCell ⟨gb, 8, none⟩ y).setCell ⟨ga, 4, none⟩ u) ((((w.setCell ⟨ga, 8, none⟩ x).setCell ⟨gb, 8, none⟩ y).setCell ⟨ga, 4, none⟩ u).setCell ⟨gb, 2, none⟩ v) := (But.refl (fun k => k = gb) _).setCell (p := ⟨gb, 2, none⟩) rfl _
  refine ⟨?_, ?_, ?_⟩
  · have h1 := setCell_block (i := 8) hA x
    have h2 := b2.blk h1 hab
    have h3 := setCell_block (i := 4) h2 u
    have h4 := b4.blk h3 hab
    simp at h4
    exact h4
  · have h1 := b1.blk hB hab.symm
    have h2 := setCell_block (i := 8) h1 y
    have h3 := b3.blk h2 hab.symm
    have h4 := setCell_block (i := 2) h3 v
    simp at h4
    exact h4
  · exact ((((b1.mono (fun _ _ h => .inl h)).trans (b2.mono (fun _ _ h => .inr h))).trans (b3.mono (fun _ _ h => .inl h))).trans (b4.mono (fun _ _ h => .inr h))).drew
theorem clear_fin (x : Int) (hx : 0 ≤ x ∧ x < 256) : bits .andNot .u8 x 1 = x - x % 2 := by
  have h : ∀ a : Fin 256, ((a.val &&& 254 : Nat) : Int) = (a.val : Int) - (a.val : Int) % 2 := by decide +kernel
  rw [u8_andNot x 1 hx.1 hx.2 (by omega) (by omega)]
  have h2 := h ⟨x.toNat, by omega⟩
  simp only at h2
  rw [show (255 - (1 : Int).toNat : Nat) = 254 from rfl, h2]
  omega
theorem str_size (a : List Int) : (strOfNums a).size = a.length := by simp [strOfNums, ByteArray.size]
theorem str_app (a b : List Int) : strOfNums a ++ strOfNums b = strOfNums (a ++ b) := by
  apply ByteArray.ext
  simp [strOfNums]

theorem length_told (sp dp sq ak fl wn ug : Int) (AO : Option Addr) (nO cO : Nat) (AD : Option Addr) (nD cD : Nat) (x : Int) (w : World) (hf : 0 ≤ fl ∧ fl < 256) (hx : lenS fl nD = x) :
    Calls Try.prog 17 #[.agg #[.int .u16 sp, .int .u16 dp, .int .u32 sq, .int .u32 ak, .int .u8 fl, .int .u16 wn, .int .u16 ug, .slice AO nO cO, .slice AD nD cD]] w fun e w' => e = .returned (.int .u32 x) ∧ Below w.heap.size w w' := by
  subst hx; exact length_any ⟨sp, dp, sq, ak, fl, wn, ug, [], []⟩ AO nO cO AD nD cD w hf
/-- The two parts of a segment. -/
def headS (s : Seg) (K : Nat) : Seg := ⟨s.sp, s.dp, s.sq, s.ak, s.fl - s.fl % 2, s.wn, s.ug, s.os, s.d.take K⟩
def tailS (s : Seg) (K : Nat) : Seg := ⟨s.sp, s.dp, (s.sq + (K : Int)) % 4294967296, s.ak, s.fl, s.wn, s.ug, s.os, s.d.drop K⟩
theorem parts_good {s : Seg} (h : Good s) (K : Nat) (hK : K ≤ s.d.length) : Good (headS s K) ∧ Good (tailS s K) ∧ lenB (headS s K) + lenB (tailS s K) = lenB s + (lenB s - s.d.length) ∧ (headS s K).d.length = K ∧ (tailS s K).d.length = s.d.length - K := by
  obtain ⟨h1, h2, h3⟩ := h.may
  have e1 : (headS s K).d.length = K := by simp [headS]; omega
  have e2 : (tailS s K).d.length = s.d.length - K := by simp [tailS]
  have o1 : optB (headS s K) = optB s := rfl
  have o2 : optB (tailS s K) = optB s := rfl
  have l1 : lenB (headS s K) = 20 + (optB s).length + K := by unfold lenB; rw [e1, o1]
  have l2 : lenB (tailS s K) = 20 + (optB s).length + (s.d.length - K) := by unfold lenB; rw [e2, o2]
  have l0 : lenB s = 20 + (optB s).length + s.d.length := rfl
  have hn := h.num
  obtain ⟨n1, n2, n3, n4, n5, n6, n7⟩ := hn
  refine ⟨⟨⟨n1, n2, n3, n4, by simp only [headS]; omega, n6, n7⟩, h.os, fun x hx => h.d x (List.mem_of_mem_take hx), ?_⟩, ⟨⟨n1, n2, by simp only [tailS]; omega, n4, n5, n6, n7⟩, h.os, fun x hx => h.d x (List.mem_of_mem_drop hx), ?_⟩, by omega, e1, e2⟩
  · rw [errS_zero]; unfold mayT
    rw [show (headS s K).os = s.os from rfl, h1, Bool.and_eq_true, Bool.and_eq_true]
    exact ⟨⟨rfl, by simpa using h2⟩, by simp; omega⟩
  · rw [errS_zero]; unfold mayT
    rw [show (tailS s K).os = s.os from rfl, h1, Bool.and_eq_true, Bool.and_eq_true]
    exact ⟨⟨rfl, by simpa using h2⟩, by simp; omega⟩

set_option maxHeartbeats 8000000 in
theorem walk (w : World) (src : Int) (w0 : (Lit.int .u32 src).wf = true) (dst : Int) (w1 : (Lit.int .u32 dst).wf = true) (v : Value) (hv : SegAt 140737488355328 140737488355328 w v) (at_ : Int) (w2 : (Lit.int .u16 at_).wf = true) :
    Calls Try.prog 7 #[.int .u32 src, .int .u32 dst, v, .int .u16 at_] w fun e w' => e = .returned (.bool true) ∧ Below w.heap.size w w' := by
  obtain ⟨s, AO, nO, cO, oss, AD, nD, cD, rfl, hs, hnO, hnD⟩ := hv
  obtain ⟨ha0, ha1⟩ := bounds_u16 w2
  have hba : Below w.heap.size w (w.alloc (.cells #[.int .u16 s.sp, .int .u16 s.dp, .int .u32 s.sq, .int .u32 s.ak, .int .u8 s.fl, .int .u16 s.wn, .int .u16 s.ug, .slice AO nO cO, .slice AD nD cD] 27)) := (Below.refl _ _).alloc (Nat.le_refl _) _
  have hk := heap_alloc_new w (.cells #[.int .u16 s.sp, .int .u16 s.dp, .int .u32 s.sq, .int .u32 s.ak, .int .u8 s.fl, .int .u16 s.wn, .int .u16 s.ug, .slice AO nO cO, .slice AD nD cD] 27)
  obtain ⟨z, hz⟩ : ∃ z, w.heap.size = z := ⟨_, rfl⟩
  rw [hz] at hk
  have Hz := Lib.hid hz
  have Hk := Lib.hid hk
  have Hba := Lib.hid hba
  have Hs := Lib.hid hs
  have hfl := hs.num.fl
  have hb1 := and8_bit 1 (by omega) s.fl hfl
  simp at hb1
  have Hm := Lib.hid (may_seg s AO nO cO oss AD nD cD _ hnO hnD (hs.below hba))
  clear hs hba hk w0 w1 w2
  by_cases h0 : errS s = 0
  case neg =>
    rw [show mayT s = false by have := (errS_zero s).2; cases hm : mayT s; rfl; exact absurd (this hm) h0] at Hm
    clear h0 hb1
    go_enter Try.func7, Try.ntmps7
    go_wp2_with fail
    refine Hm.out.mono ?_
    rintro e w1 ⟨rfl, hb1⟩
    have Hb1 := Lib.hid (below_trans Hba.out hb1)
    clear hb1
    go_wp2_with fail
    refine (wakes_any _).mono ?_
    rintro e w2 ⟨rfl, hb2⟩
    have Hb2 := Lib.hid (below_trans Hb1.out hb2)
    clear hb2
    go_wp2_with fail
    go_ret
    exact ⟨rfl, Hb2.out⟩
  rw [(errS_zero s).1 h0] at Hm
  have hg : Good s := ⟨Hs.out.num, Hs.out.os.byte, Hs.out.d.byte, h0⟩
  by_cases hsyn : s.fl / 2 % 2 = 0
  case neg =>
    have hsb : (s.fl / 2 % 2 * 2 != 0) = true := by simp; omega
    clear h0 hg hsyn
    go_enter Try.func7, Try.ntmps7
    go_wp2_with fail
    refine Hm.out.mono ?_
    rintro e w1 ⟨rfl, hb1'⟩
    have Hb1 := Lib.hid (below_trans Hba.out hb1')
    have c4 := blk_cell (blk_on Hk.out hb1') 4
    clear hb1'
    go_wp2_with fail
    refine (wakes_any _).mono ?_
    rintro e w2 ⟨rfl, hb2⟩
    have Hb2 := Lib.hid (below_trans Hb1.out hb2)
    clear hb2
    go_wp2_with fail
    go_ret
    exact ⟨rfl, Hb2.out⟩
  rw [hsyn] at hb1
  obtain ⟨nA, hK⟩ : ∃ nA : Nat, at_ % ((nD : Int) + 1) = (nA : Int) := ⟨(at_ % ((nD : Int) + 1)).toNat, by have := Int.emod_nonneg at_ (show (nD : Int) + 1 ≠ 0 by omega); omega⟩
  have hKn : nA ≤ nD := by have := Int.emod_lt_of_pos at_ (show (0 : Int) < (nD : Int) + 1 by omega); omega
  have HK := Lib.hid hK
  have hdl : s.d.length = nD := Hs.out.d.len
  have hpg := parts_good hg nA (by rw [hdl]; exact hKn)
  have HG := Lib.hid hg
  have HPG := Lib.hid hpg
  have HH0 := Lib.hid h0
  have Hdl := Lib.hid hdl
  have Hsyn := Lib.hid hsyn
  have hnD2 : nD ≤ 1480 := by rw [← hdl]; have h1 := hg.may.2.2; unfold lenB at h1; omega
  have hni : (nD : Int) ≤ 1480 := by omega
  clear hg hpg h0 hdl hsyn hK
  go_enter Try.func7, Try.ntmps7
  go_wp2_with fail
  refine Hm.out.mono ?_
  rintro e w1 ⟨rfl, hb1'⟩
  have Hb1 := Lib.hid (below_trans Hba.out hb1')
  have Hk1 := Lib.hid (blk_on Hk.out hb1')
  obtain ⟨c0, c1, c2, c3, c4, c5, c6, c7, c8⟩ := seg_cells Hk1.out
  clear hb1'
  go_wp2_with fail
  simp only [HK.out]
  have hzw : z < w1.heap.size := lt_of_block Hk1.out
  have hz1 : ¬ w1.heap.size = z := by omega
  have hz2 : ¬ z = w1.heap.size := by omega
  have hz3 : ¬ w1.heap.size + 1 = z := by omega
  have hz4 : ¬ z = w1.heap.size + 1 := by omega
  go_upto_region 4 with (fail)
  go_cut [10, 11] (fun s10 s11 wx => ∃ ga gb : Nat, s10 = .pointer (some ⟨ga, 0, none⟩) ∧ s11 = .pointer (some ⟨gb, 0, none⟩) ∧ Two w1.heap.size ga gb ∧ ((w1.alloc (.cells #[.int .u16 s.sp, .int .u16 s.dp, .int .u32 s.sq, .int .u32 s.ak, .int .u8 s.fl, .int .u16 s.wn, .int .u16 s.ug, .slice AO nO cO, .slice AD nD cD] 27)).alloc (.cells #[.int .u16 s.sp, .int .u16 s.dp, .int .u32 s.sq, .int .u32 s.ak, .int .u8 s.fl, .int .u16 s.wn, .int .u16 s.ug, .slice AO nO cO, .slice AD nD cD] 27)).drew = wx)
  case first =>
    go_region
    · go_wp2_with fail
      go_meet
      exact ⟨_, _, rfl, rfl, .inl ⟨rfl, rfl⟩, rfl⟩
    · go_wp2_with fail
      go_meet
      exact ⟨_, _, rfl, rfl, .inr ⟨rfl, rfl⟩, rfl⟩
  case rest =>
  obtain ⟨ga, gb, rfl, rfl, htwo, ew3⟩ := hcut
  have hfz := heap_alloc_new w1 (.cells #[.int .u16 s.sp, .int .u16 s.dp, .int .u32 s.sq, .int .u32 s.ak, .int .u8 s.fl, .int .u16 s.wn, .int .u16 s.ug, .slice AO nO cO, .slice AD nD cD] 27)
  have hsz := heap_alloc_new (w1.alloc (.cells #[.int .u16 s.sp, .int .u16 s.dp, .int .u32 s.sq, .int .u32 s.ak, .int .u8 s.fl, .int .u16 s.wn, .int .u16 s.ug, .slice AO nO cO, .slice AD nD cD] 27)) (.cells #[.int .u16 s.sp, .int .u16 s.dp, .int .u32 s.sq, .int .u32 s.ak, .int .u8 s.fl, .int .u16 s.wn, .int .u16 s.ug, .slice AO nO cO, .slice AD nD cD] 27)
  rw [show (w1.alloc (.cells #[.int .u16 s.sp, .int .u16 s.dp, .int .u32 s.sq, .int .u32 s.ak, .int .u8 s.fl, .int .u16 s.wn, .int .u16 s.ug, .slice AO nO cO, .slice AD nD cD] 27)).heap.size = w1.heap.size + 1 by simp] at hsz
  rw [← Below.heap_alloc _ (.cells #[.int .u16 s.sp, .int .u16 s.dp, .int .u32 s.sq, .int .u32 s.ak, .int .u8 s.fl, .int .u16 s.wn, .int .u16 s.ug, .slice AO nO cO, .slice AD nD cD] 27) _ (by simp)] at hfz
  have hb3 : Below w1.heap.size w1 wc := by rw [← ew3]; exact Below.drew (((Below.refl _ _).alloc (Nat.le_refl _) _).alloc (by simp) _)
  have hc1 : wc.heap[w1.heap.size]? = some (.cells #[.int .u16 s.sp, .int .u16 s.dp, .int .u32 s.sq, .int .u32 s.ak, .int .u8 s.fl, .int .u16 s.wn, .int .u16 s.ug, .slice AO nO cO, .slice AD nD cD] 27 (0, 0)) := by rw [← ew3]; exact hfz
  have hc2 : wc.heap[w1.heap.size + 1]? = some (.cells #[.int .u16 s.sp, .int .u16 s.dp, .int .u32 s.sq, .int .u32 s.ak, .int .u8 s.fl, .int .u16 s.wn, .int .u16 s.ug, .slice AO nO cO, .slice AD nD cD] 27 (0, 0)) := by rw [← ew3]; exact hsz
  have hA : wc.heap[ga]? = some (.cells #[.int .u16 s.sp, .int .u16 s.dp, .int .u32 s.sq, .int .u32 s.ak, .int .u8 s.fl, .int .u16 s.wn, .int .u16 s.ug, .slice AO nO cO, .slice AD nD cD] 27 (0, 0)) := by
    rcases htwo with ⟨rfl, rfl⟩ | ⟨rfl, rfl⟩
    · exact hc1
    · exact hc2
  have hB : wc.heap[gb]? = some (.cells #[.int .u16 s.sp, .int .u16 s.dp, .int .u32 s.sq, .int .u32 s.ak, .int .u8 s.fl, .int .u16 s.wn, .int .u16 s.ug, .slice AO nO cO, .slice AD nD cD] 27 (0, 0)) := by
    rcases htwo with ⟨rfl, rfl⟩ | ⟨rfl, rfl⟩
    · exact hc2
    · exact hc1
  have hab : ga ≠ gb ∧ w1.heap.size ≤ ga ∧ w1.heap.size ≤ gb := by rcases htwo with ⟨rfl, rfl⟩ | ⟨rfl, rfl⟩ <;> omega
  have hk3 := blk_on Hk1.out hb3
  have Hb3 := Lib.hid (below_trans Hb1.out hb3)
  have HF := Lib.hid (four_sets hab.1 hA hB)
  obtain ⟨AT, hcut, hrt⟩ := cut_tail (c := cD) Hs.out.d nA hKn Hs.out.dc.1 Hs.out.dc.2
  have Hrt := Lib.hid hrt
  have hgab := hab.1
  have hgba := hab.1.symm
  have hgaz : ga ≠ z := by omega
  have hgbz : gb ≠ z := by omega
  have hzga := hgaz.symm
  have hzgb := hgbz.symm
  have Hgab := Lib.hid hab
  have Hzw := Lib.hid hzw
  obtain ⟨p0, p1, p2, p3, p4, p5, p6, p7, p8⟩ := seg_cells hA
  obtain ⟨q0, q1, q2, q3, q4, q5, q6, q7, q8⟩ := seg_cells hB
  obtain ⟨r0, r1, r2, r3, r4, r5, r6, r7, r8⟩ := seg_cells hk3
  have pf := blk_free hA
  have qf := blk_free hB
  have HK3 := Lib.hid hk3
  have hKi : (nA : Int) ≤ (cD : Int) := by have := Hs.out.dc.1; omega
  have hfin := clear_fin s.fl hfl
  clear htwo ew3 hfz hsz hb3 hc1 hc2 hA hB hk3 hrt c0 c1 c2 c3 c4 c5 c6 c7 c8 hz1 hz2 hz3 hz4 hzw hab
  go_wp2_with fail
  go_region
  go_wp2_with fail
  clear p0 p1 p2 p3 p4 p5 p6 p7 p8 q0 q1 q2 q3 q4 q5 q6 q7 q8 r0 r1 r2 r3 r4 r5 r6 r7 r8 pf qf hcut
  obtain ⟨w5, ew5⟩ : ∃ w5, ((((wc.setCell ⟨ga, 8, none⟩ (.slice AD nA cD)).setCell ⟨gb, 8, none⟩ (.slice AT (nD - nA) (cD - nA))).setCell ⟨ga, 4, none⟩ (.int .u8 (s.fl - s.fl % 2))).setCell ⟨gb, 2, none⟩ (.int .u32 ((s.sq + (nA : Int)) % 4294967296))).drew = w5 := ⟨_, rfl⟩
  have hF := HF.out (.slice AD nA cD) (.slice AT (nD - nA) (cD - nA)) (.int .u8 (s.fl - s.fl % 2)) (.int .u32 ((s.sq + (nA : Int)) % 4294967296))
  rw [ew5] at hF ⊢
  obtain ⟨hA5, hB5, hBut⟩ := hF
  have HA := Lib.hid hA5
  have HB := Lib.hid hB5
  have HK := Lib.hid (hBut.blk HK3.out (by omega))
  have hzsz := Hz.out
  have hzw := Hzw.out
  have hgl := Hgab.out
  have Hb5 := Lib.hid (Hb3.out.trans (hBut.below (B := w.heap.size) (fun k hk => by omega) Hb3.out.size))
  have hpa := HPG.out.1.num
  have hpb := HPG.out.2.1.num
  have Hst := Lib.hid (show SegRd w (tailS s nA) AO nO cO oss AT (nD - nA) (cD - nA) from ⟨hpb, Hs.out.oc, ⟨by have := Hs.out.dc.1; omega, by have := Hs.out.dc.2; omega⟩, Hs.out.o, Hs.out.os, Hrt.out⟩)
  have Hsh := Lib.hid (show SegRd w (headS s nA) AO nO cO oss AD nA cD from ⟨hpa, Hs.out.oc, ⟨by have := Hs.out.dc.1; omega, Hs.out.dc.2⟩, Hs.out.o, Hs.out.os, Hs.out.d.take hKn⟩)
  clear hA5 hB5 hBut ew5 hzsz hzw hgl hpa hpb
  obtain ⟨LA, eLA⟩ : ∃ L, segB src dst (headS s nA) = L := ⟨_, rfl⟩
  obtain ⟨LB, eLB⟩ : ∃ L, segB src dst (tailS s nA) = L := ⟨_, rfl⟩
  obtain ⟨L0, eL0⟩ : ∃ L, segB src dst s = L := ⟨_, rfl⟩
  obtain ⟨mA, emA⟩ : ∃ m, lenB (headS s nA) = m := ⟨_, rfl⟩
  obtain ⟨mB, emB⟩ : ∃ m, lenB (tailS s nA) = m := ⟨_, rfl⟩
  obtain ⟨m0, em0⟩ : ∃ m, lenB s = m := ⟨_, rfl⟩
  obtain ⟨nB, enB⟩ : ∃ n, nD - nA = n := ⟨_, rfl⟩
  have hpg := HPG.out
  have hlens := hpg.2.2.1
  rw [emA, emB, em0, Hdl.out] at hlens
  have hm0 : nD ≤ m0 ∧ m0 ≤ 1480 := by have h1 := em0; have h2 := HG.out.may.2.2; rw [em0] at h2; unfold lenB at h1; have := Hdl.out; omega
  obtain ⟨hd, ehd⟩ : ∃ hd : Nat, (m0 : Int) - (nD : Int) = (hd : Int) := ⟨m0 - nD, by omega⟩
  have hsumI : (mA : Int) + (mB : Int) = (m0 : Int) + (hd : Int) := by omega
  have hAB : mA ≤ 1480 ∧ mB ≤ 1480 := ⟨by rw [← emA]; exact hpg.1.may.2.2, by rw [← emB]; exact hpg.2.1.may.2.2⟩
  have ByA := Lib.hid (show ∀ x ∈ LA, 0 ≤ x ∧ x < 256 by rw [← eLA]; exact hpg.1.bytes src dst)
  have ByB := Lib.hid (show ∀ x ∈ LB, 0 ≤ x ∧ x < 256 by rw [← eLB]; exact hpg.2.1.bytes src dst)
  have EA := Lib.hid (show errSeg src dst LA = 0 by rw [← eLA]; exact hpg.1.err src dst)
  have EB := Lib.hid (show errSeg src dst LB = 0 by rw [← eLB]; exact hpg.2.1.err src dst)
  have SA := Lib.hid (show segOf LA (offB LA) = ⟨s.sp, s.dp, s.sq, s.ak, s.fl - s.fl % 2, s.wn, s.ug, s.os, s.d.take nA⟩ by rw [← eLA]; exact hpg.1.segOf src dst)
  have SB := Lib.hid (show segOf LB (offB LB) = ⟨s.sp, s.dp, (s.sq + (nA : Int)) % 4294967296, s.ak, s.fl, s.wn, s.ug, s.os, s.d.drop nA⟩ by rw [← eLB]; exact hpg.2.1.segOf src dst)
  have NA := Lib.hid (show (s.d.take nA).length = nA from hpg.2.2.2.1)
  have NB := Lib.hid (show (s.d.drop nA).length = nB by rw [← enB, ← Hdl.out]; exact hpg.2.2.2.2)
  have HnO := Lib.hid (show nO ≤ 20 by rw [← Hs.out.o.len, Hs.out.os.len]; exact HG.out.few)
  have PA := Lib.hid (fun w1 (h : SegRd w1 (headS s nA) AO nO cO oss AD nA cD) => put6_told src dst (headS s nA) AO nO cO oss AD nA cD w1 LA mA hnO (by omega) h hpg.1.ok emA eLA)
  have PB := Lib.hid (fun w1 (h : SegRd w1 (tailS s nA) AO nO cO oss AT (nD - nA) (cD - nA)) => put6_told src dst (tailS s nA) AO nO cO oss AT (nD - nA) (cD - nA) w1 LB mB hnO (by omega) h hpg.2.1.ok emB eLB)
  have P0 := Lib.hid (fun w1 (h : SegRd w1 s AO nO cO oss AD nD cD) => put6_told src dst s AO nO cO oss AD nD cD w1 L0 m0 hnO hnD h HG.out.ok em0 eL0)
  have HnB := Lib.hid enB
  have hKB : nA + nB = nD := by omega
  have HKB := Lib.hid hKB
  clear hpg hlens eLA eLB eL0 emA emB em0 hKB enB
  refine (PA.out _ (Hsh.out.below Hb5.out)).mono ?_
  rintro e w6 ⟨AX, cX, rfl, kX, lX, hoX, hb6⟩
  have Hb6 := Lib.hid (below_trans Hb5.out hb6)
  have HA := Lib.hid (blk_on HA.out hb6)
  have HB := Lib.hid (blk_on HB.out hb6)
  have HK := Lib.hid (blk_on HK.out hb6)
  have RX := Lib.hid (hoX.rd ByA.out)
  have CX := Lib.hid (And.intro kX lX)
  obtain ⟨q0, q1, q2, q3, q4, q5, q6, q7, q8⟩ := seg_cells HB.out
  clear hb6 hoX kX lX
  go_wp2_with fail
  clear q0 q1 q2 q3 q4 q5 q6 q7 q8
  refine (PB.out _ (Hst.out.below Hb6.out)).mono ?_
  rintro e w7 ⟨AY, cY, rfl, kY, lY, hoY, hb7⟩
  have Hb7 := Lib.hid (below_trans Hb6.out hb7)
  have HA := Lib.hid (blk_on HA.out hb7)
  have HB := Lib.hid (blk_on HB.out hb7)
  have HK := Lib.hid (blk_on HK.out hb7)
  have RX := Lib.hid (RX.out.below hb7)
  have RY := Lib.hid (hoY.rd ByB.out)
  have CY := Lib.hid (And.intro kY lY)
  clear hb7 hoY kY lY
  go_wp2_with fail
  refine (tparse_lit src dst AX mA cX LA s.sp s.dp s.sq s.ak (s.fl - s.fl % 2) s.wn s.ug s.os (s.d.take nA) nA _ CX.out RX.out EA.out SA.out NA.out).mono ?_
  rintro e w8 ⟨AP, nP, cP, oP, AE, cE, rfl, hsP, hnP, -, -, -, hb8⟩
  obtain ⟨zp, hzp⟩ : ∃ zp, w8.heap.size = zp := ⟨_, rfl⟩
  have hkP := heap_alloc_new w8 (.cells #[.int .u16 s.sp, .int .u16 s.dp, .int .u32 s.sq, .int .u32 s.ak, .int .u8 (s.fl - s.fl % 2), .int .u16 s.wn, .int .u16 s.ug, .slice AP nP cP, .slice AE nA cE] 27)
  have hbP : Below w8.heap.size w8 (w8.alloc (.cells #[.int .u16 s.sp, .int .u16 s.dp, .int .u32 s.sq, .int .u32 s.ak, .int .u8 (s.fl - s.fl % 2), .int .u16 s.wn, .int .u16 s.ug, .slice AP nP cP, .slice AE nA cE] 27)) := (Below.refl _ _).alloc (Nat.le_refl _) _
  rw [hzp] at hkP
  have Hzp := Lib.hid hzp
  have hb8' := below_trans hb8 hbP
  have Hb8 := Lib.hid (below_trans Hb7.out hb8')
  have HP := Lib.hid hkP
  have HsP := Lib.hid (hsP.below hbP)
  have HnP := Lib.hid hnP
  have HA := Lib.hid (blk_on HA.out hb8')
  have HB := Lib.hid (blk_on HB.out hb8')
  have HK := Lib.hid (blk_on HK.out hb8')
  have RY := Lib.hid (RY.out.below hb8')
  clear hb8 hb8' hkP hbP hsP hnP RX CX
  go_wp2_with fail
  clear hzp
  refine (tparse_lit src dst AY mB cY LB s.sp s.dp ((s.sq + (nA : Int)) % 4294967296) s.ak s.fl s.wn s.ug s.os (s.d.drop nA) nB _ CY.out RY.out EB.out SB.out NB.out).mono ?_
  rintro e w9 ⟨AQ, nQ, cQ, oQ, AF, cF, rfl, hsQ, hnQ, -, -, -, hb9⟩
  obtain ⟨zq, hzq⟩ : ∃ zq, w9.heap.size = zq := ⟨_, rfl⟩
  have hkQ := heap_alloc_new w9 (.cells #[.int .u16 s.sp, .int .u16 s.dp, .int .u32 ((s.sq + (nA : Int)) % 4294967296), .int .u32 s.ak, .int .u8 s.fl, .int .u16 s.wn, .int .u16 s.ug, .slice AQ nQ cQ, .slice AF nB cF] 27)
  have hbQ : Below w9.heap.size w9 (w9.alloc (.cells #[.int .u16 s.sp, .int .u16 s.dp, .int .u32 ((s.sq + (nA : Int)) % 4294967296), .int .u32 s.ak, .int .u8 s.fl, .int .u16 s.wn, .int .u16 s.ug, .slice AQ nQ cQ, .slice AF nB cF] 27)) := (Below.refl _ _).alloc (Nat.le_refl _) _
  rw [hzq] at hkQ
  have Hzq := Lib.hid hzq
  have hb9' := below_trans hb9 hbQ
  have Hb9 := Lib.hid (below_trans Hb8.out hb9')
  have HQ := Lib.hid hkQ
  have HP := Lib.hid (blk_on HP.out hb9')
  have HsP := Lib.hid (HsP.out.below hb9')
  have HsQ := Lib.hid (hsQ.below hbQ)
  have HnQ := Lib.hid hnQ
  have HA := Lib.hid (blk_on HA.out hb9')
  have HB := Lib.hid (blk_on HB.out hb9')
  have HK := Lib.hid (blk_on HK.out hb9')
  clear hb9 hb9' hkQ hbQ hsQ hnQ RY CY
  obtain ⟨a0, a1, a2, a3, a4, a5, a6, a7, a8⟩ := seg_cells HP.out
  obtain ⟨b0, b1, b2, b3, b4, b5, b6, b7, b8⟩ := seg_cells HA.out
  go_wp2_with fail
  clear a0 a1 a2 a3 a4 a5 a6 a7 a8 b0 b1 b2 b3 b4 b5 b6 b7 b8 hzq
  refine (same_yes (headS s nA) AP AO nP cP nO cO oP oss AE AD nA cE nA cD _ (by have := HnP.out; omega) HsP.out (Hsh.out.below Hb9.out)).mono ?_
  rintro e w10 ⟨rfl, hb10⟩
  have Hb10 := Lib.hid (below_trans Hb9.out hb10)
  have HP := Lib.hid (blk_on HP.out hb10)
  have HQ := Lib.hid (blk_on HQ.out hb10)
  have HsP := Lib.hid (HsP.out.below hb10)
  have HsQ := Lib.hid (HsQ.out.below hb10)
  have HA := Lib.hid (blk_on HA.out hb10)
  have HB := Lib.hid (blk_on HB.out hb10)
  have HK := Lib.hid (blk_on HK.out hb10)
  clear hb10
  obtain ⟨a0, a1, a2, a3, a4, a5, a6, a7, a8⟩ := seg_cells HQ.out
  obtain ⟨b0, b1, b2, b3, b4, b5, b6, b7, b8⟩ := seg_cells HB.out
  go_wp2_with fail
  clear a0 a1 a2 a3 a4 a5 a6 a7 a8 b0 b1 b2 b3 b4 b5 b6 b7 b8
  refine (same_yes (tailS s nA) AQ AO nQ cQ nO cO oQ oss AF AT nB cF (nD - nA) (cD - nA) _ (by have := HnQ.out; omega) HsQ.out (Hst.out.below Hb10.out)).mono ?_
  rintro e w11 ⟨rfl, hb11⟩
  have Hb11 := Lib.hid (below_trans Hb10.out hb11)
  have HP := Lib.hid (blk_on HP.out hb11)
  have HQ := Lib.hid (blk_on HQ.out hb11)
  have HsP := Lib.hid (HsP.out.below hb11)
  have HsQ := Lib.hid (HsQ.out.below hb11)
  have HA := Lib.hid (blk_on HA.out hb11)
  have HB := Lib.hid (blk_on HB.out hb11)
  have HK := Lib.hid (blk_on HK.out hb11)
  clear hb11
  obtain ⟨a0, a1, a2, a3, a4, a5, a6, a7, a8⟩ := seg_cells HK.out
  go_wp2_with fail
  clear a0 a1 a2 a3 a4 a5 a6 a7 a8
  refine (P0.out _ (Hs.out.below Hb11.out)).mono ?_
  rintro e w12 ⟨AZ, cZ, rfl, -, -, -, hb12⟩
  have Hb12 := Lib.hid (below_trans Hb11.out hb12)
  have HP := Lib.hid (blk_on HP.out hb12)
  have HQ := Lib.hid (blk_on HQ.out hb12)
  have HsP := Lib.hid (HsP.out.below hb12)
  have HsQ := Lib.hid (HsQ.out.below hb12)
  have HA := Lib.hid (blk_on HA.out hb12)
  have HB := Lib.hid (blk_on HB.out hb12)
  have HK := Lib.hid (blk_on HK.out hb12)
  clear hb12
  obtain ⟨a0, a1, a2, a3, a4, a5, a6, a7, a8⟩ := seg_cells HK.out
  obtain ⟨b0, b1, b2, b3, b4, b5, b6, b7, b8⟩ := seg_cells HA.out
  go_wp2_with fail
  clear a0 a1 a2 a3 a4 a5 a6 a7 a8 b0 b1 b2 b3 b4 b5 b6 b7 b8
  have hb13 : Below w12.heap.size w12 w12.drew := Below.drew (Below.refl _ _)
  obtain ⟨w13, ew13⟩ : ∃ w13, w12.drew = w13 := ⟨_, rfl⟩
  rw [ew13] at hb13
  have Hb13 := Lib.hid (below_trans Hb12.out hb13)
  have HP := Lib.hid (blk_on HP.out hb13)
  have HQ := Lib.hid (blk_on HQ.out hb13)
  have HsP := Lib.hid (HsP.out.below hb13)
  have HsQ := Lib.hid (HsQ.out.below hb13)
  have HA := Lib.hid (blk_on HA.out hb13)
  have HB := Lib.hid (blk_on HB.out hb13)
  have HK := Lib.hid (blk_on HK.out hb13)
  clear hb13
  obtain ⟨s1, es1⟩ : ∃ s1, strOfNums (s.d.take nA) = s1 := ⟨_, rfl⟩
  obtain ⟨s2, es2⟩ : ∃ s2, strOfNums (s.d.drop nA) = s2 := ⟨_, rfl⟩
  obtain ⟨s3, es3⟩ : ∃ s3, strOfNums s.d = s3 := ⟨_, rfl⟩
  have hs12 : s1 ++ s2 = s3 := by rw [← es1, ← es2, ← es3, str_app, List.take_append_drop]
  have hss : ¬ 9223372036854775807 < s1.size + s2.size := by rw [← es1, ← es2, str_size, str_size]; have h1 := NA.out; have h2 := NB.out; have h3 := HKB.out; omega
  have Es1 := Lib.hid es1
  have Es2 := Lib.hid es2
  have Es3 := Lib.hid es3
  clear es1 es2 es3
  have HS := Lib.hid (show (fun w' : World => (w'.cell? ⟨z, 0, none⟩ = some (.int .u16 s.sp) ∧ w'.cell? ⟨z, 1, none⟩ = some (.int .u16 s.dp) ∧ w'.cell? ⟨z, 2, none⟩ = some (.int .u32 s.sq) ∧ w'.cell? ⟨z, 3, none⟩ = some (.int .u32 s.ak) ∧ w'.cell? ⟨z, 4, none⟩ = some (.int .u8 s.fl) ∧ w'.cell? ⟨z, 5, none⟩ = some (.int .u16 s.wn) ∧ w'.cell? ⟨z, 6, none⟩ = some (.int .u16 s.ug) ∧ w'.cell? ⟨z, 7, none⟩ = some (.slice AO nO cO) ∧ w'.cell? ⟨z, 8, none⟩ = some (.slice AD nD cD)) ∧ (w'.cell? ⟨ga, 0, none⟩ = some (.int .u16 s.sp) ∧ w'.cell? ⟨ga, 1, none⟩ = some (.int .u16 s.dp) ∧ w'.cell? ⟨ga, 2, none⟩ = some (.int .u32 s.sq) ∧ w'.cell? ⟨ga, 3, none⟩ = some (.int .u32 s.ak) ∧ w'.cell? ⟨ga, 4, none⟩ = some (.int .u8 (s.fl - s.fl % 2)) ∧ w'.cell? ⟨ga, 5, none⟩ = some (.int .u16 s.wn) ∧ w'.cell? ⟨ga, 6, none⟩ = some (.int .u16 s.ug) ∧ w'.cell? ⟨ga, 7, none⟩ = some (.slice AO nO cO) ∧ w'.cell? ⟨ga, 8, none⟩ = some (.slice AD nA cD)) ∧ (w'.cell? ⟨gb, 0, none⟩ = some (.int .u16 s.sp) ∧ w'.cell? ⟨gb, 1, none⟩ = some (.int .u16 s.dp) ∧ w'.cell? ⟨gb, 2, none⟩ = some (.int .u32 ((s.sq + (nA : Int)) % 4294967296)) ∧ w'.cell? ⟨gb, 3, none⟩ = some (.int .u32 s.ak) ∧ w'.cell? ⟨gb, 4, none⟩ = some (.int .u8 s.fl) ∧ w'.cell? ⟨gb, 5, none⟩ = some (.int .u16 s.wn) ∧ w'.cell? ⟨gb, 6, none⟩ = some (.int .u16 s.ug) ∧ w'.cell? ⟨gb, 7, none⟩ = some (.slice AO nO cO) ∧ w'.cell? ⟨gb, 8, none⟩ = some (.slice AT (nD - nA) (cD - nA))) ∧ (w'.cell? ⟨zp, 0, none⟩ = some (.int .u16 s.sp) ∧ w'.cell? ⟨zp, 1, none⟩ = some (.int .u16 s.dp) ∧ w'.cell? ⟨zp, 2, none⟩ = some (.int .u32 s.sq) ∧ w'.cell? ⟨zp, 3, none⟩ = some (.int .u32 s.ak) ∧ w'.cell? ⟨zp, 4, none⟩ = some (.int .u8 (s.fl - s.fl % 2)) ∧ w'.cell? ⟨zp, 5, none⟩ = some (.int .u16 s.wn) ∧ w'.cell? ⟨zp, 6, none⟩ = some (.int .u16 s.ug) ∧ w'.cell? ⟨zp, 7, none⟩ = some (.slice AP nP cP) ∧ w'.cell? ⟨zp, 8, none⟩ = some (.slice AE nA cE)) ∧ (w'.cell? ⟨zq, 0, none⟩ = some (.int .u16 s.sp) ∧ w'.cell? ⟨zq, 1, none⟩ = some (.int .u16 s.dp) ∧ w'.cell? ⟨zq, 2, none⟩ = some (.int .u32 ((s.sq + (nA : Int)) % 4294967296)) ∧ w'.cell? ⟨zq, 3, none⟩ = some (.int .u32 s.ak) ∧ w'.cell? ⟨zq, 4, none⟩ = some (.int .u8 s.fl) ∧ w'.cell? ⟨zq, 5, none⟩ = some (.int .u16 s.wn) ∧ w'.cell? ⟨zq, 6, none⟩ = some (.int .u16 s.ug) ∧ w'.cell? ⟨zq, 7, none⟩ = some (.slice AQ nQ cQ) ∧ w'.cell? ⟨zq, 8, none⟩ = some (.slice AF nB cF)) ∧ (convert 25 9 (.slice AE nA cE)).run Try.prog w' = .ok (.string s1) w' ∧ (convert 25 9 (.slice AF nB cF)).run Try.prog w' = .ok (.string s2) w' ∧ (convert 25 9 (.slice AD nD cD)).run Try.prog w' = .ok (.string s3) w') w13 from ⟨seg_cells HK.out, seg_cells HA.out, seg_cells HB.out, seg_cells HP.out, seg_cells HQ.out, by rw [← Es1.out]; exact conv_rd HsP.out.d cE, by rw [← Es2.out]; exact conv_rd HsQ.out.d cF, by rw [← Es3.out]; exact conv_rd (Hs.out.below Hb13.out).d cD⟩)
  obtain ⟨f2, ef2⟩ : ∃ f2, s.fl % 2 = f2 := ⟨_, rfl⟩
  have hf2 : 0 ≤ f2 ∧ f2 ≤ 1 := by omega
  have hsy := Hsyn.out
  have LnA := Lib.hid (fun w => length_told s.sp s.dp s.sq s.ak (s.fl - s.fl % 2) s.wn s.ug AO nO cO AD nA cD (nA : Int) w (by omega) (by unfold lenS; omega))
  have LnP := Lib.hid (fun w => length_told s.sp s.dp s.sq s.ak (s.fl - s.fl % 2) s.wn s.ug AP nP cP AE nA cE (nA : Int) w (by omega) (by unfold lenS; omega))
  have hKB := HKB.out
  have hnBe := HnB.out
  have LnB := Lib.hid (fun w => length_told s.sp s.dp ((s.sq + (nA : Int)) % 4294967296) s.ak s.fl s.wn s.ug AO nO cO AT (nD - nA) (cD - nA) ((nB : Int) + f2) w hfl (by unfold lenS; omega))
  have Ln0 := Lib.hid (fun w => length_told s.sp s.dp s.sq s.ak s.fl s.wn s.ug AO nO cO AD nD cD ((nA : Int) + ((nB : Int) + f2)) w hfl (by unfold lenS; omega))
  have hw1 : IntKind.u32.wrap ((nA : Int) + ((nB : Int) + f2)) = (nA : Int) + ((nB : Int) + f2) := wraps_u32 _ (by omega) (by omega)
  have hw2 : IntKind.u32.wrap (s.sq + (nA : Int)) = (s.sq + (nA : Int)) % 4294967296 := by simp [IntKind.wrap, IntKind.bits, IntKind.signed]
  clear hsy hf2 ef2 hKB hnBe hb1 hfl hfin hsumI ehd
  refine wp_region_held_drew (S := fun w' => (w'.cell? ⟨z, 0, none⟩ = some (.int .u16 s.sp) ∧ w'.cell? ⟨z, 1, none⟩ = some (.int .u16 s.dp) ∧ w'.cell? ⟨z, 2, none⟩ = some (.int .u32 s.sq) ∧ w'.cell? ⟨z, 3, none⟩ = some (.int .u32 s.ak) ∧ w'.cell? ⟨z, 4, none⟩ = some (.int .u8 s.fl) ∧ w'.cell? ⟨z, 5, none⟩ = some (.int .u16 s.wn) ∧ w'.cell? ⟨z, 6, none⟩ = some (.int .u16 s.ug) ∧ w'.cell? ⟨z, 7, none⟩ = some (.slice AO nO cO) ∧ w'.cell? ⟨z, 8, none⟩ = some (.slice AD nD cD)) ∧ (w'.cell? ⟨ga, 0, none⟩ = some (.int .u16 s.sp) ∧ w'.cell? ⟨ga, 1, none⟩ = some (.int .u16 s.dp) ∧ w'.cell? ⟨ga, 2, none⟩ = some (.int .u32 s.sq) ∧ w'.cell? ⟨ga, 3, none⟩ = some (.int .u32 s.ak) ∧ w'.cell? ⟨ga, 4, none⟩ = some (.int .u8 (s.fl - s.fl % 2)) ∧ w'.cell? ⟨ga, 5, none⟩ = some (.int .u16 s.wn) ∧ w'.cell? ⟨ga, 6, none⟩ = some (.int .u16 s.ug) ∧ w'.cell? ⟨ga, 7, none⟩ = some (.slice AO nO cO) ∧ w'.cell? ⟨ga, 8, none⟩ = some (.slice AD nA cD)) ∧ (w'.cell? ⟨gb, 0, none⟩ = some (.int .u16 s.sp) ∧ w'.cell? ⟨gb, 1, none⟩ = some (.int .u16 s.dp) ∧ w'.cell? ⟨gb, 2, none⟩ = some (.int .u32 ((s.sq + (nA : Int)) % 4294967296)) ∧ w'.cell? ⟨gb, 3, none⟩ = some (.int .u32 s.ak) ∧ w'.cell? ⟨gb, 4, none⟩ = some (.int .u8 s.fl) ∧ w'.cell? ⟨gb, 5, none⟩ = some (.int .u16 s.wn) ∧ w'.cell? ⟨gb, 6, none⟩ = some (.int .u16 s.ug) ∧ w'.cell? ⟨gb, 7, none⟩ = some (.slice AO nO cO) ∧ w'.cell? ⟨gb, 8, none⟩ = some (.slice AT (nD - nA) (cD - nA))) ∧ (w'.cell? ⟨zp, 0, none⟩ = some (.int .u16 s.sp) ∧ w'.cell? ⟨zp, 1, none⟩ = some (.int .u16 s.dp) ∧ w'.cell? ⟨zp, 2, none⟩ = some (.int .u32 s.sq) ∧ w'.cell? ⟨zp, 3, none⟩ = some (.int .u32 s.ak) ∧ w'.cell? ⟨zp, 4, none⟩ = some (.int .u8 (s.fl - s.fl % 2)) ∧ w'.cell? ⟨zp, 5, none⟩ = some (.int .u16 s.wn) ∧ w'.cell? ⟨zp, 6, none⟩ = some (.int .u16 s.ug) ∧ w'.cell? ⟨zp, 7, none⟩ = some (.slice AP nP cP) ∧ w'.cell? ⟨zp, 8, none⟩ = some (.slice AE nA cE)) ∧ (w'.cell? ⟨zq, 0, none⟩ = some (.int .u16 s.sp) ∧ w'.cell? ⟨zq, 1, none⟩ = some (.int .u16 s.dp) ∧ w'.cell? ⟨zq, 2, none⟩ = some (.int .u32 ((s.sq + (nA : Int)) % 4294967296)) ∧ w'.cell? ⟨zq, 3, none⟩ = some (.int .u32 s.ak) ∧ w'.cell? ⟨zq, 4, none⟩ = some (.int .u8 s.fl) ∧ w'.cell? ⟨zq, 5, none⟩ = some (.int .u16 s.wn) ∧ w'.cell? ⟨zq, 6, none⟩ = some (.int .u16 s.ug) ∧ w'.cell? ⟨zq, 7, none⟩ = some (.slice AQ nQ cQ) ∧ w'.cell? ⟨zq, 8, none⟩ = some (.slice AF nB cF)) ∧ (convert 25 9 (.slice AE nA cE)).run Try.prog w' = .ok (.string s1) w' ∧ (convert 25 9 (.slice AF nB cF)).run Try.prog w' = .ok (.string s2) w' ∧ (convert 25 9 (.slice AD nD cD)).run Try.prog w' = .ok (.string s3) w') (by kernel_rfl) (by rw [ew13]; exact HS.out) (fun hHeld => ?_)
  rw [ew13] at hHeld ⊢
  clear ew13
  as_aux_lemma =>
  refine wpAnyH_take (i := 0) (oi := { dst := some 143, op := Go.Op.load 27 (Go.Operand.tmp 10), type := 27, pos := "outright.go:100", after := #[], guard := none }) (v := ?_) rfl (by kernel_rfl) (by kernel_rfl) (by kernel_rfl) (fun _ _ _ h => h) (Or.inl ⟨by rfl, ?_⟩) (by assumption) ?_
  rotate_left 1
  · intro w' hSw; (go_simp <;> (with_reducible rfl))
  (try simp only [Act.put, List.setIfInBounds_toArray, List.set_cons_zero, List.set_cons_succ])
  refine wpAnyH_take (i := 2) (oi := { dst := some 145, op := Go.Op.load 27 (Go.Operand.tmp 11), type := 27, pos := "outright.go:100", after := #[], guard := none }) (v := ?_) rfl (by kernel_rfl) (by kernel_rfl) (by kernel_rfl) (fun _ _ _ h => h) (Or.inl ⟨by rfl, ?_⟩) (by assumption) ?_
  rotate_left 1
  · intro w' hSw; (go_simp <;> (with_reducible rfl))
  (try simp only [Act.put, List.setIfInBounds_toArray, List.set_cons_zero, List.set_cons_succ])
  refine wpAnyH_take (i := 5) (oi := { dst := some 148, op := Go.Op.load 27 (Go.Operand.tmp 6), type := 27, pos := "outright.go:100", after := #[], guard := none }) (v := ?_) rfl (by kernel_rfl) (by kernel_rfl) (by kernel_rfl) (fun _ _ _ h => h) (Or.inl ⟨by rfl, ?_⟩) (by assumption) ?_
  rotate_left 1
  · intro w' hSw; (go_simp <;> (with_reducible rfl))
  (try simp only [Act.put, List.setIfInBounds_toArray, List.set_cons_zero, List.set_cons_succ])
  refine wpAnyH_ready (rs := [1]) (by kernel_rfl) (by simp) ?_
  refine AllReadyH.cons (o := { dst := some 144, op := Go.Op.call { callee := Go.Callee.value (Go.Operand.func 17), args := #[Go.Operand.tmp 143], argTypes := #[27] }, type := 22, pos := "outright.go:100", after := #[{ on := 0, ground := Go.Ground.data }], guard := none }) rfl (fun K hK => ?_) AllReadyH.nil
  go_simp
  go_at_call 17
  refine (LnA.out _).mono ?_
  rintro e w14 ⟨rfl, hb14⟩
  have Hb14 := Lib.hid (below_trans Hb13.out hb14)
  have HP := Lib.hid (blk_on HP.out hb14)
  have HQ := Lib.hid (blk_on HQ.out hb14)
  have HsP := Lib.hid (HsP.out.below hb14)
  have HsQ := Lib.hid (HsQ.out.below hb14)
  have HA := Lib.hid (blk_on HA.out hb14)
  have HB := Lib.hid (blk_on HB.out hb14)
  have HK := Lib.hid (blk_on HK.out hb14)
  clear hb14
  have HS := Lib.hid (show (fun w' : World => (w'.cell? ⟨z, 0, none⟩ = some (.int .u16 s.sp) ∧ w'.cell? ⟨z, 1, none⟩ = some (.int .u16 s.dp) ∧ w'.cell? ⟨z, 2, none⟩ = some (.int .u32 s.sq) ∧ w'.cell? ⟨z, 3, none⟩ = some (.int .u32 s.ak) ∧ w'.cell? ⟨z, 4, none⟩ = some (.int .u8 s.fl) ∧ w'.cell? ⟨z, 5, none⟩ = some (.int .u16 s.wn) ∧ w'.cell? ⟨z, 6, none⟩ = some (.int .u16 s.ug) ∧ w'.cell? ⟨z, 7, none⟩ = some (.slice AO nO cO) ∧ w'.cell? ⟨z, 8, none⟩ = some (.slice AD nD cD)) ∧ (w'.cell? ⟨ga, 0, none⟩ = some (.int .u16 s.sp) ∧ w'.cell? ⟨ga, 1, none⟩ = some (.int .u16 s.dp) ∧ w'.cell? ⟨ga, 2, none⟩ = some (.int .u32 s.sq) ∧ w'.cell? ⟨ga, 3, none⟩ = some (.int .u32 s.ak) ∧ w'.cell? ⟨ga, 4, none⟩ = some (.int .u8 (s.fl - s.fl % 2)) ∧ w'.cell? ⟨ga, 5, none⟩ = some (.int .u16 s.wn) ∧ w'.cell? ⟨ga, 6, none⟩ = some (.int .u16 s.ug) ∧ w'.cell? ⟨ga, 7, none⟩ = some (.slice AO nO cO) ∧ w'.cell? ⟨ga, 8, none⟩ = some (.slice AD nA cD)) ∧ (w'.cell? ⟨gb, 0, none⟩ = some (.int .u16 s.sp) ∧ w'.cell? ⟨gb, 1, none⟩ = some (.int .u16 s.dp) ∧ w'.cell? ⟨gb, 2, none⟩ = some (.int .u32 ((s.sq + (nA : Int)) % 4294967296)) ∧ w'.cell? ⟨gb, 3, none⟩ = some (.int .u32 s.ak) ∧ w'.cell? ⟨gb, 4, none⟩ = some (.int .u8 s.fl) ∧ w'.cell? ⟨gb, 5, none⟩ = some (.int .u16 s.wn) ∧ w'.cell? ⟨gb, 6, none⟩ = some (.int .u16 s.ug) ∧ w'.cell? ⟨gb, 7, none⟩ = some (.slice AO nO cO) ∧ w'.cell? ⟨gb, 8, none⟩ = some (.slice AT (nD - nA) (cD - nA))) ∧ (w'.cell? ⟨zp, 0, none⟩ = some (.int .u16 s.sp) ∧ w'.cell? ⟨zp, 1, none⟩ = some (.int .u16 s.dp) ∧ w'.cell? ⟨zp, 2, none⟩ = some (.int .u32 s.sq) ∧ w'.cell? ⟨zp, 3, none⟩ = some (.int .u32 s.ak) ∧ w'.cell? ⟨zp, 4, none⟩ = some (.int .u8 (s.fl - s.fl % 2)) ∧ w'.cell? ⟨zp, 5, none⟩ = some (.int .u16 s.wn) ∧ w'.cell? ⟨zp, 6, none⟩ = some (.int .u16 s.ug) ∧ w'.cell? ⟨zp, 7, none⟩ = some (.slice AP nP cP) ∧ w'.cell? ⟨zp, 8, none⟩ = some (.slice AE nA cE)) ∧ (w'.cell? ⟨zq, 0, none⟩ = some (.int .u16 s.sp) ∧ w'.cell? ⟨zq, 1, none⟩ = some (.int .u16 s.dp) ∧ w'.cell? ⟨zq, 2, none⟩ = some (.int .u32 ((s.sq + (nA : Int)) % 4294967296)) ∧ w'.cell? ⟨zq, 3, none⟩ = some (.int .u32 s.ak) ∧ w'.cell? ⟨zq, 4, none⟩ = some (.int .u8 s.fl) ∧ w'.cell? ⟨zq, 5, none⟩ = some (.int .u16 s.wn) ∧ w'.cell? ⟨zq, 6, none⟩ = some (.int .u16 s.ug) ∧ w'.cell? ⟨zq, 7, none⟩ = some (.slice AQ nQ cQ) ∧ w'.cell? ⟨zq, 8, none⟩ = some (.slice AF nB cF)) ∧ (convert 25 9 (.slice AE nA cE)).run Try.prog w' = .ok (.string s1) w' ∧ (convert 25 9 (.slice AF nB cF)).run Try.prog w' = .ok (.string s2) w' ∧ (convert 25 9 (.slice AD nD cD)).run Try.prog w' = .ok (.string s3) w') w14 from ⟨seg_cells HK.out, seg_cells HA.out, seg_cells HB.out, seg_cells HP.out, seg_cells HQ.out, by rw [← Es1.out]; exact conv_rd HsP.out.d cE, by rw [← Es2.out]; exact conv_rd HsQ.out.d cF, by rw [← Es3.out]; exact conv_rd (Hs.out.below Hb14.out).d cD⟩)
  refine hK.out _ _ ?_ (fun hHeld => ?_)
  · exact HS.out
  clear hK K
  (try simp only [Act.put, List.setIfInBounds_toArray, List.set_cons_zero, List.set_cons_succ])
  refine wpAnyH_ready (rs := [3]) (by kernel_rfl) (by simp) ?_
  refine AllReadyH.cons (o := { dst := some 146, op := Go.Op.call { callee := Go.Callee.value (Go.Operand.func 17), args := #[Go.Operand.tmp 145], argTypes := #[27] }, type := 22, pos := "outright.go:100", after := #[{ on := 2, ground := Go.Ground.data }, { on := 1, ground := Go.Ground.chain }], guard := none }) rfl (fun K hK => ?_) AllReadyH.nil
  go_simp
  go_at_call 17
  refine (LnB.out _).mono ?_
  rintro e w15 ⟨rfl, hb15⟩
  have Hb15 := Lib.hid (below_trans Hb14.out hb15)
  have HP := Lib.hid (blk_on HP.out hb15)
  have HQ := Lib.hid (blk_on HQ.out hb15)
  have HsP := Lib.hid (HsP.out.below hb15)
  have HsQ := Lib.hid (HsQ.out.below hb15)
  have HA := Lib.hid (blk_on HA.out hb15)
  have HB := Lib.hid (blk_on HB.out hb15)
  have HK := Lib.hid (blk_on HK.out hb15)
  clear hb15
  have HS := Lib.hid (show (fun w' : World => (w'.cell? ⟨z, 0, none⟩ = some (.int .u16 s.sp) ∧ w'.cell? ⟨z, 1, none⟩ = some (.int .u16 s.dp) ∧ w'.cell? ⟨z, 2, none⟩ = some (.int .u32 s.sq) ∧ w'.cell? ⟨z, 3, none⟩ = some (.int .u32 s.ak) ∧ w'.cell? ⟨z, 4, none⟩ = some (.int .u8 s.fl) ∧ w'.cell? ⟨z, 5, none⟩ = some (.int .u16 s.wn) ∧ w'.cell? ⟨z, 6, none⟩ = some (.int .u16 s.ug) ∧ w'.cell? ⟨z, 7, none⟩ = some (.slice AO nO cO) ∧ w'.cell? ⟨z, 8, none⟩ = some (.slice AD nD cD)) ∧ (w'.cell? ⟨ga, 0, none⟩ = some (.int .u16 s.sp) ∧ w'.cell? ⟨ga, 1, none⟩ = some (.int .u16 s.dp) ∧ w'.cell? ⟨ga, 2, none⟩ = some (.int .u32 s.sq) ∧ w'.cell? ⟨ga, 3, none⟩ = some (.int .u32 s.ak) ∧ w'.cell? ⟨ga, 4, none⟩ = some (.int .u8 (s.fl - s.fl % 2)) ∧ w'.cell? ⟨ga, 5, none⟩ = some (.int .u16 s.wn) ∧ w'.cell? ⟨ga, 6, none⟩ = some (.int .u16 s.ug) ∧ w'.cell? ⟨ga, 7, none⟩ = some (.slice AO nO cO) ∧ w'.cell? ⟨ga, 8, none⟩ = some (.slice AD nA cD)) ∧ (w'.cell? ⟨gb, 0, none⟩ = some (.int .u16 s.sp) ∧ w'.cell? ⟨gb, 1, none⟩ = some (.int .u16 s.dp) ∧ w'.cell? ⟨gb, 2, none⟩ = some (.int .u32 ((s.sq + (nA : Int)) % 4294967296)) ∧ w'.cell? ⟨gb, 3, none⟩ = some (.int .u32 s.ak) ∧ w'.cell? ⟨gb, 4, none⟩ = some (.int .u8 s.fl) ∧ w'.cell? ⟨gb, 5, none⟩ = some (.int .u16 s.wn) ∧ w'.cell? ⟨gb, 6, none⟩ = some (.int .u16 s.ug) ∧ w'.cell? ⟨gb, 7, none⟩ = some (.slice AO nO cO) ∧ w'.cell? ⟨gb, 8, none⟩ = some (.slice AT (nD - nA) (cD - nA))) ∧ (w'.cell? ⟨zp, 0, none⟩ = some (.int .u16 s.sp) ∧ w'.cell? ⟨zp, 1, none⟩ = some (.int .u16 s.dp) ∧ w'.cell? ⟨zp, 2, none⟩ = some (.int .u32 s.sq) ∧ w'.cell? ⟨zp, 3, none⟩ = some (.int .u32 s.ak) ∧ w'.cell? ⟨zp, 4, none⟩ = some (.int .u8 (s.fl - s.fl % 2)) ∧ w'.cell? ⟨zp, 5, none⟩ = some (.int .u16 s.wn) ∧ w'.cell? ⟨zp, 6, none⟩ = some (.int .u16 s.ug) ∧ w'.cell? ⟨zp, 7, none⟩ = some (.slice AP nP cP) ∧ w'.cell? ⟨zp, 8, none⟩ = some (.slice AE nA cE)) ∧ (w'.cell? ⟨zq, 0, none⟩ = some (.int .u16 s.sp) ∧ w'.cell? ⟨zq, 1, none⟩ = some (.int .u16 s.dp) ∧ w'.cell? ⟨zq, 2, none⟩ = some (.int .u32 ((s.sq + (nA : Int)) % 4294967296)) ∧ w'.cell? ⟨zq, 3, none⟩ = some (.int .u32 s.ak) ∧ w'.cell? ⟨zq, 4, none⟩ = some (.int .u8 s.fl) ∧ w'.cell? ⟨zq, 5, none⟩ = some (.int .u16 s.wn) ∧ w'.cell? ⟨zq, 6, none⟩ = some (.int .u16 s.ug) ∧ w'.cell? ⟨zq, 7, none⟩ = some (.slice AQ nQ cQ) ∧ w'.cell? ⟨zq, 8, none⟩ = some (.slice AF nB cF)) ∧ (convert 25 9 (.slice AE nA cE)).run Try.prog w' = .ok (.string s1) w' ∧ (convert 25 9 (.slice AF nB cF)).run Try.prog w' = .ok (.string s2) w' ∧ (convert 25 9 (.slice AD nD cD)).run Try.prog w' = .ok (.string s3) w') w15 from ⟨seg_cells HK.out, seg_cells HA.out, seg_cells HB.out, seg_cells HP.out, seg_cells HQ.out, by rw [← Es1.out]; exact conv_rd HsP.out.d cE, by rw [← Es2.out]; exact conv_rd HsQ.out.d cF, by rw [← Es3.out]; exact conv_rd (Hs.out.below Hb15.out).d cD⟩)
  refine hK.out _ _ ?_ (fun hHeld => ?_)
  · exact HS.out
  clear hK K
  (try simp only [Act.put, List.setIfInBounds_toArray, List.set_cons_zero, List.set_cons_succ])
  refine wpAnyH_take (i := 4) (oi := { dst := some 147, op := Go.Op.binOp Go.BinOp.add 22 (Go.Operand.tmp 144) (Go.Operand.tmp 146) 22, type := 22, pos := "outright.go:100", after := #[{ on := 1, ground := Go.Ground.data }, { on := 3, ground := Go.Ground.data }], guard := none }) (v := ?_) rfl (by kernel_rfl) (by kernel_rfl) (by kernel_rfl) (fun _ _ _ h => h) (Or.inl ⟨by rfl, ?_⟩) (by assumption) ?_
  rotate_left 1
  · intro w' hSw; (go_simp <;> (with_reducible rfl))
  (try simp only [Act.put, List.setIfInBounds_toArray, List.set_cons_zero, List.set_cons_succ])
  refine wpAnyH_ready (rs := [6]) (by kernel_rfl) (by simp) ?_
  refine AllReadyH.cons (o := { dst := some 149, op := Go.Op.call { callee := Go.Callee.value (Go.Operand.func 17), args := #[Go.Operand.tmp 148], argTypes := #[27] }, type := 22, pos := "outright.go:100", after := #[{ on := 5, ground := Go.Ground.data }, { on := 3, ground := Go.Ground.chain }], guard := none }) rfl (fun K hK => ?_) AllReadyH.nil
  go_simp
  go_at_call 17
  refine (Ln0.out _).mono ?_
  rintro e w16 ⟨rfl, hb16⟩
  have Hb16 := Lib.hid (below_trans Hb15.out hb16)
  have HP := Lib.hid (blk_on HP.out hb16)
  have HQ := Lib.hid (blk_on HQ.out hb16)
  have HsP := Lib.hid (HsP.out.below hb16)
  have HsQ := Lib.hid (HsQ.out.below hb16)
  have HA := Lib.hid (blk_on HA.out hb16)
  have HB := Lib.hid (blk_on HB.out hb16)
  have HK := Lib.hid (blk_on HK.out hb16)
  clear hb16
  have HS := Lib.hid (show (fun w' : World => (w'.cell? ⟨z, 0, none⟩ = some (.int .u16 s.sp) ∧ w'.cell? ⟨z, 1, none⟩ = some (.int .u16 s.dp) ∧ w'.cell? ⟨z, 2, none⟩ = some (.int .u32 s.sq) ∧ w'.cell? ⟨z, 3, none⟩ = some (.int .u32 s.ak) ∧ w'.cell? ⟨z, 4, none⟩ = some (.int .u8 s.fl) ∧ w'.cell? ⟨z, 5, none⟩ = some (.int .u16 s.wn) ∧ w'.cell? ⟨z, 6, none⟩ = some (.int .u16 s.ug) ∧ w'.cell? ⟨z, 7, none⟩ = some (.slice AO nO cO) ∧ w'.cell? ⟨z, 8, none⟩ = some (.slice AD nD cD)) ∧ (w'.cell? ⟨ga, 0, none⟩ = some (.int .u16 s.sp) ∧ w'.cell? ⟨ga, 1, none⟩ = some (.int .u16 s.dp) ∧ w'.cell? ⟨ga, 2, none⟩ = some (.int .u32 s.sq) ∧ w'.cell? ⟨ga, 3, none⟩ = some (.int .u32 s.ak) ∧ w'.cell? ⟨ga, 4, none⟩ = some (.int .u8 (s.fl - s.fl % 2)) ∧ w'.cell? ⟨ga, 5, none⟩ = some (.int .u16 s.wn) ∧ w'.cell? ⟨ga, 6, none⟩ = some (.int .u16 s.ug) ∧ w'.cell? ⟨ga, 7, none⟩ = some (.slice AO nO cO) ∧ w'.cell? ⟨ga, 8, none⟩ = some (.slice AD nA cD)) ∧ (w'.cell? ⟨gb, 0, none⟩ = some (.int .u16 s.sp) ∧ w'.cell? ⟨gb, 1, none⟩ = some (.int .u16 s.dp) ∧ w'.cell? ⟨gb, 2, none⟩ = some (.int .u32 ((s.sq + (nA : Int)) % 4294967296)) ∧ w'.cell? ⟨gb, 3, none⟩ = some (.int .u32 s.ak) ∧ w'.cell? ⟨gb, 4, none⟩ = some (.int .u8 s.fl) ∧ w'.cell? ⟨gb, 5, none⟩ = some (.int .u16 s.wn) ∧ w'.cell? ⟨gb, 6, none⟩ = some (.int .u16 s.ug) ∧ w'.cell? ⟨gb, 7, none⟩ = some (.slice AO nO cO) ∧ w'.cell? ⟨gb, 8, none⟩ = some (.slice AT (nD - nA) (cD - nA))) ∧ (w'.cell? ⟨zp, 0, none⟩ = some (.int .u16 s.sp) ∧ w'.cell? ⟨zp, 1, none⟩ = some (.int .u16 s.dp) ∧ w'.cell? ⟨zp, 2, none⟩ = some (.int .u32 s.sq) ∧ w'.cell? ⟨zp, 3, none⟩ = some (.int .u32 s.ak) ∧ w'.cell? ⟨zp, 4, none⟩ = some (.int .u8 (s.fl - s.fl % 2)) ∧ w'.cell? ⟨zp, 5, none⟩ = some (.int .u16 s.wn) ∧ w'.cell? ⟨zp, 6, none⟩ = some (.int .u16 s.ug) ∧ w'.cell? ⟨zp, 7, none⟩ = some (.slice AP nP cP) ∧ w'.cell? ⟨zp, 8, none⟩ = some (.slice AE nA cE)) ∧ (w'.cell? ⟨zq, 0, none⟩ = some (.int .u16 s.sp) ∧ w'.cell? ⟨zq, 1, none⟩ = some (.int .u16 s.dp) ∧ w'.cell? ⟨zq, 2, none⟩ = some (.int .u32 ((s.sq + (nA : Int)) % 4294967296)) ∧ w'.cell? ⟨zq, 3, none⟩ = some (.int .u32 s.ak) ∧ w'.cell? ⟨zq, 4, none⟩ = some (.int .u8 s.fl) ∧ w'.cell? ⟨zq, 5, none⟩ = some (.int .u16 s.wn) ∧ w'.cell? ⟨zq, 6, none⟩ = some (.int .u16 s.ug) ∧ w'.cell? ⟨zq, 7, none⟩ = some (.slice AQ nQ cQ) ∧ w'.cell? ⟨zq, 8, none⟩ = some (.slice AF nB cF)) ∧ (convert 25 9 (.slice AE nA cE)).run Try.prog w' = .ok (.string s1) w' ∧ (convert 25 9 (.slice AF nB cF)).run Try.prog w' = .ok (.string s2) w' ∧ (convert 25 9 (.slice AD nD cD)).run Try.prog w' = .ok (.string s3) w') w16 from ⟨seg_cells HK.out, seg_cells HA.out, seg_cells HB.out, seg_cells HP.out, seg_cells HQ.out, by rw [← Es1.out]; exact conv_rd HsP.out.d cE, by rw [← Es2.out]; exact conv_rd HsQ.out.d cF, by rw [← Es3.out]; exact conv_rd (Hs.out.below Hb16.out).d cD⟩)
  refine hK.out _ _ ?_ (fun hHeld => ?_)
  · exact HS.out
  clear hK K
  (try simp only [Act.put, List.setIfInBounds_toArray, List.set_cons_zero, List.set_cons_succ])
  refine wpAnyH_take (i := 7) (oi := { dst := some 150, op := Go.Op.binOp Go.BinOp.eql 22 (Go.Operand.tmp 147) (Go.Operand.tmp 149) 22, type := 4, pos := "outright.go:100", after := #[{ on := 4, ground := Go.Ground.data }, { on := 6, ground := Go.Ground.data }], guard := none }) (v := ?_) rfl (by kernel_rfl) (by kernel_rfl) (by kernel_rfl) (fun _ _ _ h => h) (Or.inl ⟨by rfl, ?_⟩) (by assumption) ?_
  rotate_left 1
  · intro w' hSw; (go_simp <;> (with_reducible rfl))
  (try simp only [Act.put, List.setIfInBounds_toArray, List.set_cons_zero, List.set_cons_succ])
  refine wpAnyH_take (i := 8) (oi := { dst := some 151, op := Go.Op.move (Go.Operand.tmp 150), type := 4, pos := "outright.go:100", after := #[{ on := 7, ground := Go.Ground.data }, { on := 6, ground := Go.Ground.chain }], guard := none }) (v := ?_) rfl (by kernel_rfl) (by kernel_rfl) (by kernel_rfl) (fun _ _ _ h => h) (Or.inl ⟨by rfl, ?_⟩) (by assumption) ?_
  rotate_left 1
  · intro w' hSw; (go_simp <;> (with_reducible rfl))
  (try simp only [Act.put, List.setIfInBounds_toArray, List.set_cons_zero, List.set_cons_succ])
  refine wpAnyH_take (i := 9) (oi := { dst := some 152, op := Go.Op.fieldAddr 27 (Go.Operand.tmp 18) 2, type := 0, pos := "outright.go:100", after := #[{ on := 8, ground := Go.Ground.guard }], guard := some (8, true) }) (v := ?_) rfl (by kernel_rfl) (by kernel_rfl) (by kernel_rfl) (fun _ _ _ h => h) (Or.inl ⟨by rfl, ?_⟩) (by assumption) ?_
  rotate_left 1
  · intro w' hSw; (go_simp <;> (with_reducible rfl))
  (try simp only [Act.put, List.setIfInBounds_toArray, List.set_cons_zero, List.set_cons_succ])
  refine wpAnyH_take (i := 10) (oi := { dst := some 153, op := Go.Op.load 22 (Go.Operand.tmp 152), type := 22, pos := "outright.go:100", after := #[{ on := 9, ground := Go.Ground.data }, { on := 8, ground := Go.Ground.guard }], guard := some (8, true) }) (v := ?_) rfl (by kernel_rfl) (by kernel_rfl) (by kernel_rfl) (fun _ _ _ h => h) (Or.inl ⟨by rfl, ?_⟩) (by assumption) ?_
  rotate_left 1
  · intro w' hSw; (go_simp <;> (with_reducible rfl))
  (try simp only [Act.put, List.setIfInBounds_toArray, List.set_cons_zero, List.set_cons_succ])
  refine wpAnyH_take (i := 11) (oi := { dst := some 154, op := Go.Op.fieldAddr 27 (Go.Operand.tmp 6) 2, type := 0, pos := "outright.go:100", after := #[{ on := 8, ground := Go.Ground.guard }], guard := some (8, true) }) (v := ?_) rfl (by kernel_rfl) (by kernel_rfl) (by kernel_rfl) (fun _ _ _ h => h) (Or.inl ⟨by rfl, ?_⟩) (by assumption) ?_
  rotate_left 1
  · intro w' hSw; (go_simp <;> (with_reducible rfl))
  (try simp only [Act.put, List.setIfInBounds_toArray, List.set_cons_zero, List.set_cons_succ])
  refine wpAnyH_take (i := 12) (oi := { dst := some 155, op := Go.Op.load 22 (Go.Operand.tmp 154), type := 22, pos := "outright.go:100", after := #[{ on := 11, ground := Go.Ground.data }, { on := 8, ground := Go.Ground.guard }], guard := some (8, true) }) (v := ?_) rfl (by kernel_rfl) (by kernel_rfl) (by kernel_rfl) (fun _ _ _ h => h) (Or.inl ⟨by rfl, ?_⟩) (by assumption) ?_
  rotate_left 1
  · intro w' hSw; (go_simp <;> (with_reducible rfl))
  (try simp only [Act.put, List.setIfInBounds_toArray, List.set_cons_zero, List.set_cons_succ])
  refine wpAnyH_take (i := 13) (oi := { dst := some 156, op := Go.Op.load 27 (Go.Operand.tmp 16), type := 27, pos := "outright.go:100", after := #[{ on := 8, ground := Go.Ground.guard }], guard := some (8, true) }) (v := ?_) rfl (by kernel_rfl) (by kernel_rfl) (by kernel_rfl) (fun _ _ _ h => h) (Or.inl ⟨by rfl, ?_⟩) (by assumption) ?_
  rotate_left 1
  · intro w' hSw; (go_simp <;> (with_reducible rfl))
  (try simp only [Act.put, List.setIfInBounds_toArray, List.set_cons_zero, List.set_cons_succ])
  refine wpAnyH_ready (rs := [14]) (by kernel_rfl) (by simp) ?_
  refine AllReadyH.cons (o := { dst := some 157, op := Go.Op.call { callee := Go.Callee.value (Go.Operand.func 17), args := #[Go.Operand.tmp 156], argTypes := #[27] }, type := 22, pos := "outright.go:100", after := #[{ on := 13, ground := Go.Ground.data }, { on := 8, ground := Go.Ground.chain }, { on := 8, ground := Go.Ground.guard }], guard := some (8, true) }) rfl (fun K hK => ?_) AllReadyH.nil
  go_simp
  go_at_call 17
  refine (LnP.out _).mono ?_
  rintro e w17 ⟨rfl, hb17⟩
  have Hb17 := Lib.hid (below_trans Hb16.out hb17)
  have HP := Lib.hid (blk_on HP.out hb17)
  have HQ := Lib.hid (blk_on HQ.out hb17)
  have HsP := Lib.hid (HsP.out.below hb17)
  have HsQ := Lib.hid (HsQ.out.below hb17)
  have HA := Lib.hid (blk_on HA.out hb17)
  have HB := Lib.hid (blk_on HB.out hb17)
  have HK := Lib.hid (blk_on HK.out hb17)
  clear hb17
  have HS := Lib.hid (show (fun w' : World => (w'.cell? ⟨z, 0, none⟩ = some (.int .u16 s.sp) ∧ w'.cell? ⟨z, 1, none⟩ = some (.int .u16 s.dp) ∧ w'.cell? ⟨z, 2, none⟩ = some (.int .u32 s.sq) ∧ w'.cell? ⟨z, 3, none⟩ = some (.int .u32 s.ak) ∧ w'.cell? ⟨z, 4, none⟩ = some (.int .u8 s.fl) ∧ w'.cell? ⟨z, 5, none⟩ = some (.int .u16 s.wn) ∧ w'.cell? ⟨z, 6, none⟩ = some (.int .u16 s.ug) ∧ w'.cell? ⟨z, 7, none⟩ = some (.slice AO nO cO) ∧ w'.cell? ⟨z, 8, none⟩ = some (.slice AD nD cD)) ∧ (w'.cell? ⟨ga, 0, none⟩ = some (.int .u16 s.sp) ∧ w'.cell? ⟨ga, 1, none⟩ = some (.int .u16 s.dp) ∧ w'.cell? ⟨ga, 2, none⟩ = some (.int .u32 s.sq) ∧ w'.cell? ⟨ga, 3, none⟩ = some (.int .u32 s.ak) ∧ w'.cell? ⟨ga, 4, none⟩ = some (.int .u8 (s.fl - s.fl % 2)) ∧ w'.cell? ⟨ga, 5, none⟩ = some (.int .u16 s.wn) ∧ w'.cell? ⟨ga, 6, none⟩ = some (.int .u16 s.ug) ∧ w'.cell? ⟨ga, 7, none⟩ = some (.slice AO nO cO) ∧ w'.cell? ⟨ga, 8, none⟩ = some (.slice AD nA cD)) ∧ (w'.cell? ⟨gb, 0, none⟩ = some (.int .u16 s.sp) ∧ w'.cell? ⟨gb, 1, none⟩ = some (.int .u16 s.dp) ∧ w'.cell? ⟨gb, 2, none⟩ = some (.int .u32 ((s.sq + (nA : Int)) % 4294967296)) ∧ w'.cell? ⟨gb, 3, none⟩ = some (.int .u32 s.ak) ∧ w'.cell? ⟨gb, 4, none⟩ = some (.int .u8 s.fl) ∧ w'.cell? ⟨gb, 5, none⟩ = some (.int .u16 s.wn) ∧ w'.cell? ⟨gb, 6, none⟩ = some (.int .u16 s.ug) ∧ w'.cell? ⟨gb, 7, none⟩ = some (.slice AO nO cO) ∧ w'.cell? ⟨gb, 8, none⟩ = some (.slice AT (nD - nA) (cD - nA))) ∧ (w'.cell? ⟨zp, 0, none⟩ = some (.int .u16 s.sp) ∧ w'.cell? ⟨zp, 1, none⟩ = some (.int .u16 s.dp) ∧ w'.cell? ⟨zp, 2, none⟩ = some (.int .u32 s.sq) ∧ w'.cell? ⟨zp, 3, none⟩ = some (.int .u32 s.ak) ∧ w'.cell? ⟨zp, 4, none⟩ = some (.int .u8 (s.fl - s.fl % 2)) ∧ w'.cell? ⟨zp, 5, none⟩ = some (.int .u16 s.wn) ∧ w'.cell? ⟨zp, 6, none⟩ = some (.int .u16 s.ug) ∧ w'.cell? ⟨zp, 7, none⟩ = some (.slice AP nP cP) ∧ w'.cell? ⟨zp, 8, none⟩ = some (.slice AE nA cE)) ∧ (w'.cell? ⟨zq, 0, none⟩ = some (.int .u16 s.sp) ∧ w'.cell? ⟨zq, 1, none⟩ = some (.int .u16 s.dp) ∧ w'.cell? ⟨zq, 2, none⟩ = some (.int .u32 ((s.sq + (nA : Int)) % 4294967296)) ∧ w'.cell? ⟨zq, 3, none⟩ = some (.int .u32 s.ak) ∧ w'.cell? ⟨zq, 4, none⟩ = some (.int .u8 s.fl) ∧ w'.cell? ⟨zq, 5, none⟩ = some (.int .u16 s.wn) ∧ w'.cell? ⟨zq, 6, none⟩ = some (.int .u16 s.ug) ∧ w'.cell? ⟨zq, 7, none⟩ = some (.slice AQ nQ cQ) ∧ w'.cell? ⟨zq, 8, none⟩ = some (.slice AF nB cF)) ∧ (convert 25 9 (.slice AE nA cE)).run Try.prog w' = .ok (.string s1) w' ∧ (convert 25 9 (.slice AF nB cF)).run Try.prog w' = .ok (.string s2) w' ∧ (convert 25 9 (.slice AD nD cD)).run Try.prog w' = .ok (.string s3) w') w17 from ⟨seg_cells HK.out, seg_cells HA.out, seg_cells HB.out, seg_cells HP.out, seg_cells HQ.out, by rw [← Es1.out]; exact conv_rd HsP.out.d cE, by rw [← Es2.out]; exact conv_rd HsQ.out.d cF, by rw [← Es3.out]; exact conv_rd (Hs.out.below Hb17.out).d cD⟩)
  refine hK.out _ _ ?_ (fun hHeld => ?_)
  · exact HS.out
  clear hK K
  (try simp only [Act.put, List.setIfInBounds_toArray, List.set_cons_zero, List.set_cons_succ])
  refine wpAnyH_take (i := 15) (oi := { dst := some 158, op := Go.Op.binOp Go.BinOp.add 22 (Go.Operand.tmp 155) (Go.Operand.tmp 157) 22, type := 22, pos := "outright.go:100", after := #[{ on := 12, ground := Go.Ground.data }, { on := 14, ground := Go.Ground.data }, { on := 8, ground := Go.Ground.guard }], guard := some (8, true) }) (v := ?_) rfl (by kernel_rfl) (by kernel_rfl) (by kernel_rfl) (fun _ _ _ h => h) (Or.inl ⟨by rfl, ?_⟩) (by assumption) ?_
  rotate_left 1
  · intro w' hSw; (go_simp <;> (with_reducible rfl))
  (try simp only [Act.put, List.setIfInBounds_toArray, List.set_cons_zero, List.set_cons_succ])
  refine wpAnyH_take (i := 16) (oi := { dst := some 159, op := Go.Op.binOp Go.BinOp.eql 22 (Go.Operand.tmp 153) (Go.Operand.tmp 158) 22, type := 4, pos := "outright.go:100", after := #[{ on := 10, ground := Go.Ground.data }, { on := 15, ground := Go.Ground.data }, { on := 8, ground := Go.Ground.guard }], guard := some (8, true) }) (v := ?_) rfl (by kernel_rfl) (by kernel_rfl) (by kernel_rfl) (fun _ _ _ h => h) (Or.inl ⟨by rfl, ?_⟩) (by assumption) ?_
  rotate_left 1
  · intro w' hSw; (go_simp <;> (with_reducible rfl))
  (try simp only [Act.put, List.setIfInBounds_toArray, List.set_cons_zero, List.set_cons_succ])
  refine wpAnyH_take (i := 17) (oi := { dst := some 160, op := Go.Op.pick (Go.Operand.tmp 151) (Go.Operand.tmp 159) (Go.Operand.const (Go.Value.bool false)), type := 4, pos := "outright.go:100", after := #[{ on := 8, ground := Go.Ground.data }, { on := 16, ground := Go.Ground.data }], guard := none }) (v := ?_) rfl (by kernel_rfl) (by kernel_rfl) (by kernel_rfl) (fun _ _ _ h => h) (Or.inl ⟨by rfl, ?_⟩) (by assumption) ?_
  rotate_left 1
  · intro w' hSw; (go_simp <;> (with_reducible rfl))
  (try simp only [Act.put, List.setIfInBounds_toArray, List.set_cons_zero, List.set_cons_succ])
  refine wpAnyH_take (i := 18) (oi := { dst := some 161, op := Go.Op.move (Go.Operand.tmp 160), type := 4, pos := "outright.go:100", after := #[{ on := 17, ground := Go.Ground.data }, { on := 14, ground := Go.Ground.chain }], guard := none }) (v := ?_) rfl (by kernel_rfl) (by kernel_rfl) (by kernel_rfl) (fun _ _ _ h => h) (Or.inl ⟨by rfl, ?_⟩) (by assumption) ?_
  rotate_left 1
  · intro w' hSw; (go_simp <;> (with_reducible rfl))
  (try simp only [Act.put, List.setIfInBounds_toArray, List.set_cons_zero, List.set_cons_succ])
  refine wpAnyH_take (i := 19) (oi := { dst := some 162, op := Go.Op.fieldAddr 27 (Go.Operand.tmp 16) 8, type := 0, pos := "outright.go:100", after := #[{ on := 18, ground := Go.Ground.guard }], guard := some (18, true) }) (v := ?_) rfl (by kernel_rfl) (by kernel_rfl) (by kernel_rfl) (fun _ _ _ h => h) (Or.inl ⟨by rfl, ?_⟩) (by assumption) ?_
  rotate_left 1
  · intro w' hSw; (go_simp <;> (with_reducible rfl))
  (try simp only [Act.put, List.setIfInBounds_toArray, List.set_cons_zero, List.set_cons_succ])
  refine wpAnyH_take (i := 20) (oi := { dst := some 163, op := Go.Op.load 25 (Go.Operand.tmp 162), type := 25, pos := "outright.go:100", after := #[{ on := 19, ground := Go.Ground.data }, { on := 18, ground := Go.Ground.guard }], guard := some (18, true) }) (v := ?_) rfl (by kernel_rfl) (by kernel_rfl) (by kernel_rfl) (fun _ _ _ h => h) (Or.inl ⟨by rfl, ?_⟩) (by assumption) ?_
  rotate_left 1
  · intro w' hSw; (go_simp <;> (with_reducible rfl))
  (try simp only [Act.put, List.setIfInBounds_toArray, List.set_cons_zero, List.set_cons_succ])
  refine wpAnyH_take (i := 21) (oi := { dst := some 164, op := Go.Op.convert 25 9 (Go.Operand.tmp 163), type := 9, pos := "outright.go:100", after := #[{ on := 20, ground := Go.Ground.data }, { on := 18, ground := Go.Ground.guard }], guard := some (18, true) }) (v := ?_) rfl (by kernel_rfl) (by kernel_rfl) (by kernel_rfl) (fun _ _ _ h => h) (Or.inl ⟨by rfl, ?_⟩) (by assumption) ?_
  rotate_left 1
  · intro w' hSw; (go_simp <;> (with_reducible rfl))
  (try simp only [Act.put, List.setIfInBounds_toArray, List.set_cons_zero, List.set_cons_succ])
  refine wpAnyH_take (i := 22) (oi := { dst := some 165, op := Go.Op.fieldAddr 27 (Go.Operand.tmp 18) 8, type := 0, pos := "outright.go:100", after := #[{ on := 18, ground := Go.Ground.guard }], guard := some (18, true) }) (v := ?_) rfl (by kernel_rfl) (by kernel_rfl) (by kernel_rfl) (fun _ _ _ h => h) (Or.inl ⟨by rfl, ?_⟩) (by assumption) ?_
  rotate_left 1
  · intro w' hSw; (go_simp <;> (with_reducible rfl))
  (try simp only [Act.put, List.setIfInBounds_toArray, List.set_cons_zero, List.set_cons_succ])
  refine wpAnyH_take (i := 23) (oi := { dst := some 166, op := Go.Op.load 25 (Go.Operand.tmp 165), type := 25, pos := "outright.go:100", after := #[{ on := 22, ground := Go.Ground.data }, { on := 18, ground := Go.Ground.guard }], guard := some (18, true) }) (v := ?_) rfl (by kernel_rfl) (by kernel_rfl) (by kernel_rfl) (fun _ _ _ h => h) (Or.inl ⟨by rfl, ?_⟩) (by assumption) ?_
  rotate_left 1
  · intro w' hSw; (go_simp <;> (with_reducible rfl))
  (try simp only [Act.put, List.setIfInBounds_toArray, List.set_cons_zero, List.set_cons_succ])
  refine wpAnyH_take (i := 24) (oi := { dst := some 167, op := Go.Op.convert 25 9 (Go.Operand.tmp 166), type := 9, pos := "outright.go:100", after := #[{ on := 23, ground := Go.Ground.data }, { on := 18, ground := Go.Ground.guard }], guard := some (18, true) }) (v := ?_) rfl (by kernel_rfl) (by kernel_rfl) (by kernel_rfl) (fun _ _ _ h => h) (Or.inl ⟨by rfl, ?_⟩) (by assumption) ?_
  rotate_left 1
  · intro w' hSw; (go_simp <;> (with_reducible rfl))
  (try simp only [Act.put, List.setIfInBounds_toArray, List.set_cons_zero, List.set_cons_succ])
  refine wpAnyH_take (i := 25) (oi := { dst := some 168, op := Go.Op.binOp Go.BinOp.add 9 (Go.Operand.tmp 164) (Go.Operand.tmp 167) 9, type := 9, pos := "outright.go:100", after := #[{ on := 21, ground := Go.Ground.data }, { on := 24, ground := Go.Ground.data }, { on := 18, ground := Go.Ground.guard }], guard := some (18, true) }) (v := ?_) rfl (by kernel_rfl) (by kernel_rfl) (by kernel_rfl) (fun _ _ _ h => h) (Or.inl ⟨by rfl, ?_⟩) (by assumption) ?_
  rotate_left 1
  · intro w' hSw; (go_simp <;> (with_reducible rfl))
  (try simp only [Act.put, List.setIfInBounds_toArray, List.set_cons_zero, List.set_cons_succ])
  refine wpAnyH_take (i := 26) (oi := { dst := some 169, op := Go.Op.fieldAddr 27 (Go.Operand.tmp 6) 8, type := 0, pos := "outright.go:100", after := #[{ on := 18, ground := Go.Ground.guard }], guard := some (18, true) }) (v := ?_) rfl (by kernel_rfl) (by kernel_rfl) (by kernel_rfl) (fun _ _ _ h => h) (Or.inl ⟨by rfl, ?_⟩) (by assumption) ?_
  rotate_left 1
  · intro w' hSw; (go_simp <;> (with_reducible rfl))
  (try simp only [Act.put, List.setIfInBounds_toArray, List.set_cons_zero, List.set_cons_succ])
  refine wpAnyH_take (i := 27) (oi := { dst := some 170, op := Go.Op.load 25 (Go.Operand.tmp 169), type := 25, pos := "outright.go:100", after := #[{ on := 26, ground := Go.Ground.data }, { on := 18, ground := Go.Ground.guard }], guard := some (18, true) }) (v := ?_) rfl (by kernel_rfl) (by kernel_rfl) (by kernel_rfl) (fun _ _ _ h => h) (Or.inl ⟨by rfl, ?_⟩) (by assumption) ?_
  rotate_left 1
  · intro w' hSw; (go_simp <;> (with_reducible rfl))
  (try simp only [Act.put, List.setIfInBounds_toArray, List.set_cons_zero, List.set_cons_succ])
  refine wpAnyH_take (i := 28) (oi := { dst := some 171, op := Go.Op.convert 25 9 (Go.Operand.tmp 170), type := 9, pos := "outright.go:100", after := #[{ on := 27, ground := Go.Ground.data }, { on := 18, ground := Go.Ground.guard }], guard := some (18, true) }) (v := ?_) rfl (by kernel_rfl) (by kernel_rfl) (by kernel_rfl) (fun _ _ _ h => h) (Or.inl ⟨by rfl, ?_⟩) (by assumption) ?_
  rotate_left 1
  · intro w' hSw; (go_simp <;> (with_reducible rfl))
  (try simp only [Act.put, List.setIfInBounds_toArray, List.set_cons_zero, List.set_cons_succ])
  refine wpAnyH_take (i := 29) (oi := { dst := some 172, op := Go.Op.binOp Go.BinOp.eql 9 (Go.Operand.tmp 168) (Go.Operand.tmp 171) 9, type := 4, pos := "outright.go:100", after := #[{ on := 25, ground := Go.Ground.data }, { on := 28, ground := Go.Ground.data }, { on := 18, ground := Go.Ground.guard }], guard := some (18, true) }) (v := ?_) rfl (by kernel_rfl) (by kernel_rfl) (by kernel_rfl) (fun _ _ _ h => h) (Or.inl ⟨by rfl, ?_⟩) (by assumption) ?_
  rotate_left 1
  · intro w' hSw; (go_simp <;> (with_reducible rfl))
  (try simp only [Act.put, List.setIfInBounds_toArray, List.set_cons_zero, List.set_cons_succ])
  refine wpAnyH_take (i := 30) (oi := { dst := some 173, op := Go.Op.pick (Go.Operand.tmp 161) (Go.Operand.tmp 172) (Go.Operand.const (Go.Value.bool false)), type := 4, pos := "outright.go:100", after := #[{ on := 18, ground := Go.Ground.data }, { on := 29, ground := Go.Ground.data }], guard := none }) (v := ?_) rfl (by kernel_rfl) (by kernel_rfl) (by kernel_rfl) (fun _ _ _ h => h) (Or.inl ⟨by rfl, ?_⟩) (by assumption) ?_
  rotate_left 1
  · intro w' hSw; (go_simp <;> (with_reducible rfl))
  (try simp only [Act.put, List.setIfInBounds_toArray, List.set_cons_zero, List.set_cons_succ])
  refine wpAnyH_take (i := 31) (oi := { dst := some 174, op := Go.Op.move (Go.Operand.tmp 173), type := 4, pos := "outright.go:100", after := #[{ on := 30, ground := Go.Ground.data }, { on := 18, ground := Go.Ground.chain }], guard := none }) (v := ?_) rfl (by kernel_rfl) (by kernel_rfl) (by kernel_rfl) (fun _ _ _ h => h) (Or.inl ⟨by rfl, ?_⟩) (by assumption) ?_
  rotate_left 1
  · intro w' hSw; (go_simp <;> (with_reducible rfl))
  (try simp only [Act.put, List.setIfInBounds_toArray, List.set_cons_zero, List.set_cons_succ])
  refine wpAnyH_ready (rs := [32]) (by kernel_rfl) (by simp) ?_
  refine AllReadyH.cons (o := { dst := some 175, op := Go.Op.call { callee := Go.Callee.value (Go.Operand.func 19), args := #[], argTypes := #[] }, type := 4, pos := "outright.go:100", after := #[{ on := 31, ground := Go.Ground.chain }, { on := 31, ground := Go.Ground.guard }], guard := some (31, true) }) rfl (fun K hK => ?_) AllReadyH.nil
  go_simp
  go_at_call 19
  refine (wakes_any _).mono ?_
  rintro e w18 ⟨rfl, hb18⟩
  have Hb18 := Lib.hid (below_trans Hb17.out hb18)
  have HP := Lib.hid (blk_on HP.out hb18)
  have HQ := Lib.hid (blk_on HQ.out hb18)
  have HsP := Lib.hid (HsP.out.below hb18)
  have HsQ := Lib.hid (HsQ.out.below hb18)
  have HA := Lib.hid (blk_on HA.out hb18)
  have HB := Lib.hid (blk_on HB.out hb18)
  have HK := Lib.hid (blk_on HK.out hb18)
  clear hb18
  have HS := Lib.hid (show (fun w' : World => (w'.cell? ⟨z, 0, none⟩ = some (.int .u16 s.sp) ∧ w'.cell? ⟨z, 1, none⟩ = some (.int .u16 s.dp) ∧ w'.cell? ⟨z, 2, none⟩ = some (.int .u32 s.sq) ∧ w'.cell? ⟨z, 3, none⟩ = some (.int .u32 s.ak) ∧ w'.cell? ⟨z, 4, none⟩ = some (.int .u8 s.fl) ∧ w'.cell? ⟨z, 5, none⟩ = some (.int .u16 s.wn) ∧ w'.cell? ⟨z, 6, none⟩ = some (.int .u16 s.ug) ∧ w'.cell? ⟨z, 7, none⟩ = some (.slice AO nO cO) ∧ w'.cell? ⟨z, 8, none⟩ = some (.slice AD nD cD)) ∧ (w'.cell? ⟨ga, 0, none⟩ = some (.int .u16 s.sp) ∧ w'.cell? ⟨ga, 1, none⟩ = some (.int .u16 s.dp) ∧ w'.cell? ⟨ga, 2, none⟩ = some (.int .u32 s.sq) ∧ w'.cell? ⟨ga, 3, none⟩ = some (.int .u32 s.ak) ∧ w'.cell? ⟨ga, 4, none⟩ = some (.int .u8 (s.fl - s.fl % 2)) ∧ w'.cell? ⟨ga, 5, none⟩ = some (.int .u16 s.wn) ∧ w'.cell? ⟨ga, 6, none⟩ = some (.int .u16 s.ug) ∧ w'.cell? ⟨ga, 7, none⟩ = some (.slice AO nO cO) ∧ w'.cell? ⟨ga, 8, none⟩ = some (.slice AD nA cD)) ∧ (w'.cell? ⟨gb, 0, none⟩ = some (.int .u16 s.sp) ∧ w'.cell? ⟨gb, 1, none⟩ = some (.int .u16 s.dp) ∧ w'.cell? ⟨gb, 2, none⟩ = some (.int .u32 ((s.sq + (nA : Int)) % 4294967296)) ∧ w'.cell? ⟨gb, 3, none⟩ = some (.int .u32 s.ak) ∧ w'.cell? ⟨gb, 4, none⟩ = some (.int .u8 s.fl) ∧ w'.cell? ⟨gb, 5, none⟩ = some (.int .u16 s.wn) ∧ w'.cell? ⟨gb, 6, none⟩ = some (.int .u16 s.ug) ∧ w'.cell? ⟨gb, 7, none⟩ = some (.slice AO nO cO) ∧ w'.cell? ⟨gb, 8, none⟩ = some (.slice AT (nD - nA) (cD - nA))) ∧ (w'.cell? ⟨zp, 0, none⟩ = some (.int .u16 s.sp) ∧ w'.cell? ⟨zp, 1, none⟩ = some (.int .u16 s.dp) ∧ w'.cell? ⟨zp, 2, none⟩ = some (.int .u32 s.sq) ∧ w'.cell? ⟨zp, 3, none⟩ = some (.int .u32 s.ak) ∧ w'.cell? ⟨zp, 4, none⟩ = some (.int .u8 (s.fl - s.fl % 2)) ∧ w'.cell? ⟨zp, 5, none⟩ = some (.int .u16 s.wn) ∧ w'.cell? ⟨zp, 6, none⟩ = some (.int .u16 s.ug) ∧ w'.cell? ⟨zp, 7, none⟩ = some (.slice AP nP cP) ∧ w'.cell? ⟨zp, 8, none⟩ = some (.slice AE nA cE)) ∧ (w'.cell? ⟨zq, 0, none⟩ = some (.int .u16 s.sp) ∧ w'.cell? ⟨zq, 1, none⟩ = some (.int .u16 s.dp) ∧ w'.cell? ⟨zq, 2, none⟩ = some (.int .u32 ((s.sq + (nA : Int)) % 4294967296)) ∧ w'.cell? ⟨zq, 3, none⟩ = some (.int .u32 s.ak) ∧ w'.cell? ⟨zq, 4, none⟩ = some (.int .u8 s.fl) ∧ w'.cell? ⟨zq, 5, none⟩ = some (.int .u16 s.wn) ∧ w'.cell? ⟨zq, 6, none⟩ = some (.int .u16 s.ug) ∧ w'.cell? ⟨zq, 7, none⟩ = some (.slice AQ nQ cQ) ∧ w'.cell? ⟨zq, 8, none⟩ = some (.slice AF nB cF)) ∧ (convert 25 9 (.slice AE nA cE)).run Try.prog w' = .ok (.string s1) w' ∧ (convert 25 9 (.slice AF nB cF)).run Try.prog w' = .ok (.string s2) w' ∧ (convert 25 9 (.slice AD nD cD)).run Try.prog w' = .ok (.string s3) w') w18 from ⟨seg_cells HK.out, seg_cells HA.out, seg_cells HB.out, seg_cells HP.out, seg_cells HQ.out, by rw [← Es1.out]; exact conv_rd HsP.out.d cE, by rw [← Es2.out]; exact conv_rd HsQ.out.d cF, by rw [← Es3.out]; exact conv_rd (Hs.out.below Hb18.out).d cD⟩)
  refine hK.out _ _ ?_ (fun hHeld => ?_)
  · exact HS.out
  clear hK K
  (try simp only [Act.put, List.setIfInBounds_toArray, List.set_cons_zero, List.set_cons_succ])
  refine wpAnyH_take (i := 33) (oi := { dst := some 176, op := Go.Op.pick (Go.Operand.tmp 174) (Go.Operand.tmp 175) (Go.Operand.const (Go.Value.bool false)), type := 4, pos := "outright.go:100", after := #[{ on := 31, ground := Go.Ground.data }, { on := 32, ground := Go.Ground.data }], guard := none }) (v := ?_) rfl (by kernel_rfl) (by kernel_rfl) (by kernel_rfl) (fun _ _ _ h => h) (Or.inl ⟨by rfl, ?_⟩) (by assumption) ?_
  rotate_left 1
  · intro w' hSw; (go_simp <;> (with_reducible rfl))
  (try simp only [Act.put, List.setIfInBounds_toArray, List.set_cons_zero, List.set_cons_succ])
  refine wpAnyH_take (i := 34) (oi := { dst := some 8, op := Go.Op.assign (Go.Operand.tmp 176), type := 4, pos := "outright.go:100", after := #[{ on := 33, ground := Go.Ground.data }, { on := 32, ground := Go.Ground.chain }, { on := 0, ground := Go.Ground.phase }, { on := 1, ground := Go.Ground.phase }, { on := 2, ground := Go.Ground.phase }, { on := 3, ground := Go.Ground.phase }, { on := 4, ground := Go.Ground.phase }, { on := 5, ground := Go.Ground.phase }, { on := 6, ground := Go.Ground.phase }, { on := 7, ground := Go.Ground.phase }, { on := 8, ground := Go.Ground.phase }, { on := 9, ground := Go.Ground.phase }, { on := 10, ground := Go.Ground.phase }, { on := 11, ground := Go.Ground.phase }, { on := 12, ground := Go.Ground.phase }, { on := 13, ground := Go.Ground.phase }, { on := 14, ground := Go.Ground.phase }, { on := 15, ground := Go.Ground.phase }, { on := 16, ground := Go.Ground.phase }, { on := 17, ground := Go.Ground.phase }, { on := 18, ground := Go.Ground.phase }, { on := 19, ground := Go.Ground.phase }, { on := 20, ground := Go.Ground.phase }, { on := 21, ground := Go.Ground.phase }, { on := 22, ground := Go.Ground.phase }, { on := 23, ground := Go.Ground.phase }, { on := 24, ground := Go.Ground.phase }, { on := 25, ground := Go.Ground.phase }, { on := 26, ground := Go.Ground.phase }, { on := 27, ground := Go.Ground.phase }, { on := 28, ground := Go.Ground.phase }, { on := 29, ground := Go.Ground.phase }, { on := 30, ground := Go.Ground.phase }, { on := 31, ground := Go.Ground.phase }, { on := 32, ground := Go.Ground.phase }, { on := 33, ground := Go.Ground.phase }], guard := none }) (v := ?_) rfl (by kernel_rfl) (by kernel_rfl) (by kernel_rfl) (fun _ _ _ h => h) (Or.inl ⟨by rfl, ?_⟩) (by assumption) ?_
  rotate_left 1
  · intro w' hSw; (go_simp <;> (with_reducible rfl))
  (try simp only [Act.put, List.setIfInBounds_toArray, List.set_cons_zero, List.set_cons_succ])
  refine wpAnyH_done (by kernel_rfl) ?_ _
  go_wp2_with fail
  go_ret
  exact ⟨rfl, by rw [← Hz.out]; exact Hb18.out⟩
theorem own : ownKnob Try.prog.godebug = none := by kernel_rfl
theorem laidOut : laidOutB Try.prog = true := by kernel_rfl

set_option maxRecDepth 100000 in
theorem lifted (os : Os) (started : os.Started) (H : Type) (enc : TypeId × Value → H) :
    ReturnsInHanded {} Try.checked os 7 .any (Rows.tcpPartsSpec.pre6 enc Try.prog Try.f7 Rows.tcpPartsRow.domain false) (Rows.tcpPartsSpec.post enc Try.prog Try.f7 false true false false) := by
  refine returnsInHanded_of_change_sized (C := Try.checked) own started (by kernel_rfl) Try.func7
    (ChangeSpec.witness6 (enc := enc) (C := Try.checked) false ⟨#[], #[.int .u32 0, .int .u32 0, (.agg #[.int .u16 0, .int .u16 0, .int .u32 0, .int .u32 0, .int .u8 0, .int .u16 0, .int .u16 0, .slice none 0 0, .slice none 0 0]), .int .u16 0], []⟩ 8 (by kernel_rfl) (by kernel_rfl) (by kernel_rfl) (by kernel_rfl)) ?_
  intro W base args ds gs before hval0 hW hcnd hsz0 _
  have hsz : (DataW.weightsEach Try.prog (Try.f7.params.toList ++ Rows.tcpPartsSpec.plain.varTypes Try.prog) (ds ++ gs)).all (· ≤ reachBytes) = true := hsz0
  have hval : ∀ (j : Nat) t v, Try.f7.params[j]? = some t → args[j]? = some v → Value.okWide Try.prog W .any base t v := hval0
  have hW' := hW
  obtain ⟨p, q, hA0, hV, rfl, hfz, hnd⟩ := hW
  have hA : DataW.TrodAll enc Try.prog W 0 (fun _ => true) true Try.f7.params.toList args.toList ds p := hA0
  rw [Try.params7] at hA hval hsz
  obtain ⟨v0, vs0, d0, ds0, p0, q0, hargs, rfl, rfl, h0, r0⟩ := trodAll_cons hA
  obtain ⟨v1, vs1, d1, ds1, p1, q1, rfl, rfl, rfl, h1, r1⟩ := trodAll_cons r0
  obtain ⟨v2, vs2, d2, ds2, p2, q2, rfl, rfl, rfl, h2, r2⟩ := trodAll_cons r1
  obtain ⟨v3, vs3, d3, ds3, p3, q3, rfl, rfl, rfl, h3, r3⟩ := trodAll_cons r2
  obtain ⟨rfl, rfl, rfl⟩ := trodAll_nil r3
  obtain rfl : args = #[v0, v1, v2, v3] := by cases args; simp_all
  obtain ⟨rfl, rfl⟩ := trodVars_none hV
  obtain ⟨a0, rfl, rfl, rfl, w0⟩ := open_int Try.underlying22 (hval 0 22 v0 rfl rfl) h0
  obtain ⟨a1, rfl, rfl, rfl, w1⟩ := open_int Try.underlying22 (hval 1 22 v1 rfl rfl) h1
  have k2 := seg_open (hval 2 27 v2 rfl rfl) h2 (fun k hk => by have := List.all_eq_true.1 hsz k (DataW.weights_mem_each (j := 2) (t := 27) rfl rfl k hk); simpa using this)
  have lt2 : ∀ x ∈ p2, x.block < W.heap.size := by obtain ⟨m, hm⟩ := h2; exact DataW.trod_lt m _ _ _ hm
  obtain ⟨a3, rfl, rfl, rfl, w3⟩ := open_int Try.underlying23 (hval 3 23 v3 rfl rfl) h3
  clear hA0 hval0
  refine (walk W a0 w0 a1 w1 v2 k2 a3 w3).mono fun e W' ⟨he, bel⟩ => ?_
  subst he
  exact ⟨_, rfl, _, _, _, [], _, [], hW', trodAll_mk1 (shut_bool Try.underlying4 _), (trodAll_cons_mk (shut_int Try.underlying22 w0) (trodAll_cons_mk (shut_int Try.underlying22 w1) (trodAll_cons_mk (Below.trod laidOut (by kernel_rfl) (of_decide_eq_true (by kernel_rfl)) h2 bel lt2) (trodAll_cons_mk (shut_int Try.underlying23 w3) trodAll_mk0)))), rfl, bel.frame _, fun h => by cases h⟩

theorem over : Rows.tcpPartsRow.holds Try.pinned (OpenSpec.ofChange Rows.tcpPartsSpec) :=
  OpenClaim.holds_of_wide 7 Try.f7 rfl rfl rfl rfl rfl rfl rfl ⟨rfl, rfl, rfl, rfl, rfl⟩ rfl rfl rfl rfl rfl (by kernel_rfl) Try.func7 (by kernel_rfl)
    (of_decide_eq_true (by kernel_rfl)) (by unfold Func.isWrapper; first | (rw [if_pos (by decide +kernel)]; kernel_rfl) | (rw [if_neg (by decide +kernel)]; exact ⟨rfl, rfl⟩))
    (fun os started H enc _ => lifted os started H enc)

/-- The statement. -/
theorem proved : Rows.TcpPartsSaid := over
#print axioms proved
end Go.Proofs.Ytpinjbnbpcmfbaa.tcpParts
