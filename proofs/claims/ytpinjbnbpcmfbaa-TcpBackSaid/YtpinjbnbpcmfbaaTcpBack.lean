/-
  TcpBack holds: a segment goes as bytes and comes back, and they are right; what bytes say, laid and read again, is the same; between other addresses they are no segment, unless the sums of both pairs' bytes are alike.
-/
import Derived.Test.YtpinjbnbpcmfbaaTcpLaw
namespace Go.Proofs.Ytpinjbnbpcmfbaa.tcpBack
set_option maxRecDepth 10000
open Go.ChangeShapes Go.WideShapes Go.ChangeAt Go.RowKit
set_option linter.unusedVariables false
set_option linter.unusedSimpArgs false

theorem alike_any (a b : Int) (w : World) :
    Calls Try.prog 22 #[.int .u16 a, .int .u16 b] w fun e w' => e = .returned (.bool (likeB a b)) ∧ w = w' := by
  obtain ⟨r, er⟩ : ∃ r, likeB a b = r := ⟨_, rfl⟩
  rw [er]
  have Er := Lib.hid er
  clear er
  by_cases h1 : a = b
  · subst h1
    have hr : r = true := by rw [← Er.out]; simp [likeB]
    subst hr
    go_enter Try.func22, Try.ntmps22
    go_wp2_with fail
    go_ret
    exact ⟨rfl, rfl⟩
  · have h1b : (a == b) = false := by simpa using h1
    by_cases h2 : a = 0
    · subst h2
      by_cases h3 : b = 65535
      · subst h3
        have hr : r = true := by rw [← Er.out]; simp [likeB]
        subst hr
        go_enter Try.func22, Try.ntmps22
        go_wp2_with fail
        go_ret
        exact ⟨rfl, rfl⟩
      · have h3b : (b == 65535) = false := by simpa using h3
        have hr : r = false := by rw [← Er.out]; unfold likeB; simp; omega
        subst hr
        clear h1 h3
        go_enter Try.func22, Try.ntmps22
        go_wp2_with fail
        go_ret
        exact ⟨rfl, rfl⟩
    · have h2b : (a == 0) = false := by simpa using h2
      by_cases h4 : a = 65535
      · subst h4
        by_cases h5 : b = 0
        · subst h5
          have hr : r = true := by rw [← Er.out]; simp [likeB]
          subst hr
          clear h1 h2
          go_enter Try.func22, Try.ntmps22
          go_wp2_with fail
          go_ret
          exact ⟨rfl, rfl⟩
        · have h5b : (b == 0) = false := by simpa using h5
          have hr : r = false := by rw [← Er.out]; unfold likeB; simp; omega
          subst hr
          clear h1 h2 h5
          go_enter Try.func22, Try.ntmps22
          go_wp2_with fail
          go_ret
          exact ⟨rfl, rfl⟩
      · have h4b : (a == 65535) = false := by simpa using h4
        have hr : r = false := by rw [← Er.out]; unfold likeB; simp; omega
        subst hr
        clear h1 h2 h4
        go_enter Try.func22, Try.ntmps22
        go_wp2_with fail
        go_ret
        exact ⟨rfl, rfl⟩

set_option maxHeartbeats 8000000 in
theorem walk (w : World) (src : Int) (w0 : (Lit.int .u32 src).wf = true) (dst : Int) (w1 : (Lit.int .u32 dst).wf = true) (src2 : Int) (w2 : (Lit.int .u32 src2).wf = true) (dst2 : Int) (w3 : (Lit.int .u32 dst2).wf = true)
    (v : Value) (hv : SegAt 140737488355328 140737488355328 w v) (vb : Value) (hvb : BytesUp 140737488355328 w vb) :
    Calls Try.prog 4 #[.int .u32 src, .int .u32 dst, .int .u32 src2, .int .u32 dst2, v, vb] w fun e w' => e = .returned (.bool true) ∧ Below w.heap.size w w' := by
  obtain ⟨s, AO, nO, cO, oss, AD, nD, cD, rfl, hs, hnO, hnD⟩ := hv
  obtain ⟨Ab, nb, cb, lb, rfl, hcb1, hcb2, hrb, hnb⟩ := hvb
  have hba : Below w.heap.size w (w.alloc (.cells #[.int .u16 s.sp, .int .u16 s.dp, .int .u32 s.sq, .int .u32 s.ak, .int .u8 s.fl, .int .u16 s.wn, .int .u16 s.ug, .slice AO nO cO, .slice AD nD cD] 27)) := (Below.refl _ _).alloc (Nat.le_refl _) _
  have hk := heap_alloc_new w (.cells #[.int .u16 s.sp, .int .u16 s.dp, .int .u32 s.sq, .int .u32 s.ak, .int .u8 s.fl, .int .u16 s.wn, .int .u16 s.ug, .slice AO nO cO, .slice AD nD cD] 27)
  obtain ⟨z, hz⟩ : ∃ z, w.heap.size = z := ⟨_, rfl⟩
  rw [hz] at hk
  have Hk := Lib.hid hk
  have Hba := Lib.hid hba
  have Hs := Lib.hid (hs.below hba)
  have Hs0 := Lib.hid hs
  have Hrb0 := Lib.hid hrb
  have HrbLen := Lib.hid hrb.len
  have Hcb := Lib.hid (And.intro hcb1 hcb2)
  clear hs hba w0 w1 w2 w3 hrb hcb1 hcb2 hk
  by_cases h0 : errS s = 0
  case neg =>
    obtain ⟨x, ex⟩ : ∃ x, errS s = x := ⟨_, rfl⟩
    have Hp := Lib.hid (put6_err src dst s AO nO cO oss AD nD cD _ x hnO hnD Hs.out ex (by omega))
    have Hm := Lib.hid (fun w1 (h : SegRd w1 s AO nO cO oss AD nD cD) => may_seg s AO nO cO oss AD nD cD w1 hnO hnD h)
    rw [show mayT s = false by have := (errS_zero s).2; cases hm : mayT s; rfl; exact absurd (this hm) h0] at Hm
    have hx : (x == 0) = false := by simp; omega
    have hx2 : (x != 0) = true := by simp; omega
    clear h0 ex
    go_enter Try.func4, Try.ntmps4
    go_wp2_with fail
    refine Hp.out.mono ?_
    rintro e w1 ⟨rfl, hb1⟩
    have Hb1 := Lib.hid (below_trans Hba.out hb1)
    obtain ⟨c0, c1, c2, c3, c4, c5, c6, c7, c8⟩ := seg_cells (blk_on Hk.out hb1)
    have Hs := Lib.hid (Hs.out.below hb1)
    clear hb1
    go_wp2_with fail
    refine (Hm.out _ Hs.out).mono ?_
    rintro e w2 ⟨rfl, hb2⟩
    have Hb2 := Lib.hid (below_trans Hb1.out hb2)
    clear hb2 c0 c1 c2 c3 c4 c5 c6 c7 c8
    go_wp2_with fail
    by_cases e0 : errSeg src dst lb = 0
    case neg =>
      obtain ⟨x, ex⟩ : ∃ x, errSeg src dst lb = x := ⟨_, rfl⟩
      have hx1 : (x == 0) = false := by simp; omega
      have hx2 : (x != 0) = true := by simp; omega
      have Hx0 := Lib.hid (show x ≠ 0 by omega)
      have Ex := Lib.hid ex
      clear e0 ex
      refine (tparse_err src dst Ab nb cb lb x _ Hcb.out (Hrb0.out.below Hb2.out) Ex.out Hx0.out).mono ?_
      rintro e wA ⟨rfl, hbA⟩
      have HbA := Lib.hid (below_trans Hb2.out hbA)
      clear hbA
      go_wp2_with fail
      refine (same_zero _).mono ?_
      rintro e wB ⟨rfl, hbB⟩
      have HbB := Lib.hid (below_trans HbA.out (below_alloc hbB))
      clear hbB
      go_wp2_with fail
      refine (wakes_any _).mono ?_
      rintro e ww ⟨rfl, hbw⟩
      have Hbw := Lib.hid (below_trans HbB.out hbw)
      clear hbw
      go_wp2_with fail
      go_ret
      exact ⟨rfl, Hbw.out⟩
    obtain ⟨S, eS⟩ : ∃ S, segOf lb (offB lb) = S := ⟨_, rfl⟩
    obtain ⟨nS, eN⟩ : ∃ nS, S.d.length = nS := ⟨_, rfl⟩
    have hgs := segOf_good (src := src) (dst := dst) Hrb0.out.byte e0
    rw [eS] at hgs
    have HG := Lib.hid hgs.1
    obtain ⟨LY, eLY⟩ : ∃ LY, segB src dst S = LY := ⟨_, rfl⟩
    obtain ⟨mY, emY⟩ : ∃ mY, lenB S = mY := ⟨_, rfl⟩
    have hmb : mY ≤ nb := by rw [← emY, ← HrbLen.out]; exact hgs.2
    have hmbi : (mY : Int) ≤ (nb : Int) := by omega
    have HbyY := Lib.hid (show ∀ x ∈ LY, 0 ≤ x ∧ x < 256 by rw [← eLY]; exact hgs.1.bytes src dst)
    have HeY := Lib.hid (show errSeg src dst LY = 0 by rw [← eLY]; exact hgs.1.err src dst)
    have HsY := Lib.hid (show segOf LY (offB LY) = S by rw [← eLY]; exact hgs.1.segOf src dst)
    have EN := Lib.hid eN
    have ES := Lib.hid eS
    have E0 := Lib.hid e0
    have ELY := Lib.hid eLY
    have EmY := Lib.hid emY
    have HnS := Lib.hid (show nS ≤ 1480 by have h1 := hgs.1.may.2.2; unfold lenB at h1; omega)
    clear e0 eS eN hgs eLY emY hmb
    refine (tparse_told src dst Ab nb cb lb S nS _ Hcb.out (Hrb0.out.below Hb2.out) E0.out ES.out EN.out).mono ?_
    rintro e wA ⟨AT, nT, cT, oT, AE, cE, rfl, hsT, hnT, -, -, -, hbA⟩
    obtain ⟨zt, hzt⟩ : ∃ zt, wA.heap.size = zt := ⟨_, rfl⟩
    have Hzt := Lib.hid hzt
    have HsT := Lib.hid hsT
    have HnT := Lib.hid hnT
    have HbA := Lib.hid (below_trans Hb2.out hbA)
    clear hsT hnT hbA
    go_wp2_with fail
    have hkT := heap_alloc_new wA (.cells #[.int .u16 S.sp, .int .u16 S.dp, .int .u32 S.sq, .int .u32 S.ak, .int .u8 S.fl, .int .u16 S.wn, .int .u16 S.ug, .slice AT nT cT, .slice AE nS cE] 27)
    rw [Hzt.out] at hkT
    have hbT : Below wA.heap.size wA (wA.alloc (.cells #[.int .u16 S.sp, .int .u16 S.dp, .int .u32 S.sq, .int .u32 S.ak, .int .u8 S.fl, .int .u16 S.wn, .int .u16 S.ug, .slice AT nT cT, .slice AE nS cE] 27)) := (Below.refl _ _).alloc (Nat.le_refl _) _
    refine (put6_told src dst S AT nT cT oT AE nS cE _ LY mY (by have := HnT.out; omega) (by have := HnS.out; omega) (HsT.out.below hbT) HG.out.ok EmY.out ELY.out).mono ?_
    rintro e wB ⟨AY, cY, rfl, kY, lY, hoY, hbB⟩
    have HkT := Lib.hid (blk_on hkT hbB)
    have HsT := Lib.hid ((HsT.out.below hbT).below hbB)
    have HrY := Lib.hid (hoY.rd HbyY.out)
    have HcY := Lib.hid (And.intro kY lY)
    have HbB := Lib.hid (below_trans HbA.out (below_alloc hbB))
    clear hkT hbT hoY hbB kY lY hzt
    go_wp2_with fail
    refine (tparse_told src dst AY mY cY LY S nS _ HcY.out HrY.out HeY.out HsY.out EN.out).mono ?_
    rintro e wC ⟨AU, nU, cU, oU, AF, cF, rfl, hsU, hnU, -, -, -, hbC⟩
    have HkT := Lib.hid (blk_on HkT.out hbC)
    have HsT := Lib.hid (HsT.out.below hbC)
    have HsU := Lib.hid hsU
    have HbC := Lib.hid (below_trans HbB.out hbC)
    clear hsU hnU hbC
    have hbU : Below wC.heap.size wC (wC.alloc (.cells #[.int .u16 S.sp, .int .u16 S.dp, .int .u32 S.sq, .int .u32 S.ak, .int .u8 S.fl, .int .u16 S.wn, .int .u16 S.ug, .slice AU nU cU, .slice AF nS cF] 27)) := (Below.refl _ _).alloc (Nat.le_refl _) _
    obtain ⟨q0, q1, q2, q3, q4, q5, q6, q7, q8⟩ := seg_cells (blk_on HkT.out hbU)
    have hztw : zt < wC.heap.size := lt_of_block HkT.out
    have hztn : ¬ wC.heap.size = zt := by omega
    have hztm : ¬ zt = wC.heap.size := by omega
    obtain ⟨p0, p1, p2, p3, p4, p5, p6, p7, p8⟩ := seg_cells HkT.out
    have HbU := Lib.hid hbU
    clear hbU
    go_wp2_with fail
    refine (same_yes S AT AU nT cT nU cU oT oU AE AF nS cE nS cF _ (by have := HnT.out; omega) (HsT.out.below HbU.out) (HsU.out.below HbU.out)).mono ?_
    rintro e wD ⟨rfl, hbD⟩
    have HbD := Lib.hid (below_trans HbC.out (below_alloc hbD))
    clear hbD q0 q1 q2 q3 q4 q5 q6 q7 q8 p0 p1 p2 p3 p4 p5 p6 p7 p8
    go_wp2_with fail
    refine (wakes_any _).mono ?_
    rintro e ww ⟨rfl, hbw⟩
    have Hbw := Lib.hid (below_trans HbD.out hbw)
    clear hbw
    go_wp2_with fail
    go_ret
    exact ⟨rfl, Hbw.out⟩
  have hg : Good s := ⟨Hs.out.num, Hs.out.os.byte, Hs.out.d.byte, h0⟩
  obtain ⟨L, eL⟩ : ∃ L, segB src dst s = L := ⟨_, rfl⟩
  obtain ⟨m, em⟩ : ∃ m, lenB s = m := ⟨_, rfl⟩
  have Hp := Lib.hid (put6_told src dst s AO nO cO oss AD nD cD _ L m hnO hnD Hs.out h0 em eL)
  have Hm := Lib.hid (fun w1 (h : SegRd w1 s AO nO cO oss AD nD cD) => may_seg s AO nO cO oss AD nD cD w1 hnO hnD h)
  rw [(errS_zero s).1 h0] at Hm
  have HbL := Lib.hid (show ∀ x ∈ L, 0 ≤ x ∧ x < 256 by rw [← eL]; exact hg.bytes src dst)
  have He := Lib.hid (show errSeg src dst L = 0 by rw [← eL]; exact hg.err src dst)
  have Hso := Lib.hid (show segOf L (offB L) = s by rw [← eL]; exact hg.segOf src dst)
  have Hoth := Lib.hid (show errSeg src2 dst2 L = if likeB (sumL (pseudoL src dst 0 0)) (sumL (pseudoL src2 dst2 0 0)) = true then 0 else 20 by rw [← eL]; exact hg.other src dst src2 dst2)
  have Hsum := Lib.hid (show sumL (pseudoL src dst 6 (m : Int) ++ L) = 65535 by rw [← eL, ← em]; exact hg.sum src dst)
  have HnO := Lib.hid (show nO ≤ 20 by rw [← Hs.out.o.len, Hs.out.os.len]; exact hg.few)
  have HnD := Lib.hid Hs.out.d.len
  have hm20 : 20 ≤ m := by rw [← em]; unfold lenB; omega
  have hm1480 : m ≤ 1480 := by rw [← em]; exact hg.may.2.2
  have hmi : (m : Int) ≤ 1480 := by omega
  have hm0 : 0 < (m : Int) := by omega
  clear h0 hg eL em
  go_enter Try.func4, Try.ntmps4
  go_wp2_with fail
  refine Hp.out.mono ?_
  rintro e w1 ⟨A1, c1, rfl, k1, m1, ho1, hb1⟩
  have Hb1 := Lib.hid (below_trans Hba.out hb1)
  have Hk := Lib.hid (blk_on Hk.out hb1)
  obtain ⟨c0, c1', c2, c3, c4, c5, c6, c7, c8⟩ := seg_cells Hk.out
  have Hs := Lib.hid (Hs.out.below hb1)
  have Hr1 := Lib.hid (ho1.rd HbL.out)
  have Hc1 := Lib.hid (And.intro k1 m1)
  clear hb1 ho1 k1 m1
  go_wp2_with fail
  refine (Hm.out _ Hs.out).mono ?_
  rintro e w2 ⟨rfl, hb2⟩
  have Hb2 := Lib.hid (below_trans Hb1.out hb2)
  have Hk := Lib.hid (blk_on Hk.out hb2)
  have Hs := Lib.hid (Hs.out.below hb2)
  have Hr1 := Lib.hid (Hr1.out.below hb2)
  clear hb2 c0 c1' c2 c3 c4 c5 c6 c7 c8
  go_wp2_with fail
  refine (tparse_told src dst A1 m c1 L s nD _ Hc1.out Hr1.out He.out Hso.out HnD.out).mono ?_
  rintro e w3 ⟨AT, nT, cT, oT, AE, cE, rfl, hsT, hnT, -, -, -, hb3⟩
  obtain ⟨zt, hzt⟩ : ∃ zt, w3.heap.size = zt := ⟨_, rfl⟩
  have Hzt := Lib.hid hzt
  have hkT := heap_alloc_new w3 (.cells #[.int .u16 s.sp, .int .u16 s.dp, .int .u32 s.sq, .int .u32 s.ak, .int .u8 s.fl, .int .u16 s.wn, .int .u16 s.ug, .slice AT nT cT, .slice AE nD cE] 27)
  rw [hzt] at hkT
  have hbT : Below w3.heap.size w3 (w3.alloc (.cells #[.int .u16 s.sp, .int .u16 s.dp, .int .u32 s.sq, .int .u32 s.ak, .int .u8 s.fl, .int .u16 s.wn, .int .u16 s.ug, .slice AT nT cT, .slice AE nD cE] 27)) := (Below.refl _ _).alloc (Nat.le_refl _) _
  have Hk := Lib.hid (blk_on Hk.out hb3)
  have hzw : z < w3.heap.size := lt_of_block Hk.out
  have hzn : ¬ z = zt := by omega
  have hzm : ¬ zt = z := by omega
  have Hzz := Lib.hid (show z < zt by omega)
  obtain ⟨c0, c1', c2, c3, c4, c5, c6, c7, c8⟩ := seg_cells Hk.out
  obtain ⟨q0, q1, q2, q3, q4, q5, q6, q7, q8⟩ := seg_cells (blk_on Hk.out hbT)
  have HkT := Lib.hid hkT
  have Hk := Lib.hid (blk_on Hk.out hbT)
  have HsT := Lib.hid (hsT.below hbT)
  have HnT := Lib.hid hnT
  have Hs := Lib.hid ((Hs.out.below hb3).below hbT)
  have Hr1 := Lib.hid ((Hr1.out.below hb3).below hbT)
  have Hb3 := Lib.hid (below_trans Hb2.out (below_trans hb3 hbT))
  clear hsT hnT hb3 hkT hbT hzw
  go_wp2_with fail
  clear c0 c1' c2 c3 c4 c5 c6 c7 c8 q0 q1 q2 q3 q4 q5 q6 q7 q8 hzt
  refine (same_yes s AO AT nO cO nT cT oss oT AD AE nD cD nD cE _ (by have := HnO.out; omega) Hs.out HsT.out).mono ?_
  rintro e w4 ⟨rfl, hb4⟩
  have HkT := Lib.hid (blk_on HkT.out hb4)
  have Hk := Lib.hid (blk_on Hk.out hb4)
  have Hr1 := Lib.hid (Hr1.out.below hb4)
  have Hb4 := Lib.hid (below_trans Hb3.out hb4)
  clear hb4 HsT
  go_wp2_with fail
  refine (pseudo_any src dst 6 (m : Int) _ (by omega)).mono ?_
  rintro e w5 ⟨A5, c5, rfl, k5, m5, ho5, hb5⟩
  have HkT := Lib.hid (blk_on HkT.out hb5)
  have Hk := Lib.hid (blk_on Hk.out hb5)
  have Hr1 := Lib.hid (Hr1.out.below hb5)
  have Hr5 := Lib.hid (ho5.rd (pseudo_byte _ _ _ _ (by omega)))
  have Hb5 := Lib.hid (below_trans Hb4.out hb5)
  have Hc5 := Lib.hid (And.intro k5 m5)
  clear hb5 ho5 k5 m5
  go_wp2_with fail
  refine (right_told _ 2 2 [pseudoL src dst 6 (m : Int), L] _ true (by omega) (RdL.twoW w5 _ A5 A1 12 c5 m c1 _ _ Hc5.out Hc1.out Hr5.out Hr1.out) (by have := Hsum.out; simp [this])).mono ?_
  rintro e w6 ⟨rfl, hb6⟩
  have hb6' := below_alloc hb6
  have HkT := Lib.hid (blk_on HkT.out hb6')
  have Hk := Lib.hid (blk_on Hk.out hb6')
  have Hr1 := Lib.hid (Hr1.out.below hb6')
  have Hb6 := Lib.hid (below_trans Hb5.out hb6')
  clear hb6 hb6' Hr5 Hc5
  go_wp2_with fail
  obtain ⟨q0, q1, q2, q3, q4, q5, q6, q7, q8⟩ := seg_cells HkT.out
  clear q0 q1 q2 q3 q4 q5 q6 q7 q8
  by_cases hl : likeB (sumL (pseudoL src dst 0 0)) (sumL (pseudoL src2 dst2 0 0)) = true
  · have Hl := Lib.hid hl
    refine (tparse_told src2 dst2 A1 m c1 L s nD _ Hc1.out Hr1.out (by rw [Hoth.out, if_pos hl]) Hso.out HnD.out).mono ?_
    rintro e w7 ⟨AT2, nT2, cT2, oT2, AE2, cE2, rfl, hsT2, hnT2, hoT2, hlT2, hdT2, hb7⟩
    have HoT2 := Lib.hid hoT2
    have HlT2 := Lib.hid hlT2
    have HdT2 := Lib.hid hdT2
    have HsT2 := Lib.hid hsT2
    have hz6 : zt < w6.heap.size := lt_of_block HkT.out
    have Hz6 := Lib.hid hz6
    clear hl hoT2 hlT2 hdT2 hsT2 hnT2 hz6
    have hkT7 := blk_on HkT.out hb7
    have Hk7 := Lib.hid (blk_on Hk.out hb7)
    obtain ⟨q0, q1, q2, q3, q4, q5, q6, q7, q8⟩ := seg_cells hkT7
    have qf := blk_free hkT7
    have hset := set9_but w7 zt (.int .u16 s.sp) (.int .u16 s.dp) (.int .u32 s.sq) (.int .u32 s.ak) (.int .u8 s.fl) (.int .u16 s.wn) (.int .u16 s.ug) (.slice AT2 nT2 cT2) (.slice AE2 nD cE2)
    have hblk := set9_blk hkT7 (.int .u16 s.sp) (.int .u16 s.dp) (.int .u32 s.sq) (.int .u32 s.ak) (.int .u8 s.fl) (.int .u16 s.wn) (.int .u16 s.ug) (.slice AT2 nT2 cT2) (.slice AE2 nD cE2)
    have Hset := Lib.hid hset
    have Hblk := Lib.hid hblk
    have Hb6' := Lib.hid (below_trans Hb6.out hb7)
    clear hset hblk hkT7
    go_wp2_with fail
    clear q0 q1 q2 q3 q4 q5 q6 q7 q8 qf
    obtain ⟨W7, eW7⟩ : ∃ W7, ((((((((w7.setCell ⟨zt, 0, none⟩ (.int .u16 s.sp)).setCell ⟨zt, 1, none⟩ (.int .u16 s.dp)).setCell ⟨zt, 2, none⟩ (.int .u32 s.sq)).setCell ⟨zt, 3, none⟩ (.int .u32 s.ak)).setCell ⟨zt, 4, none⟩ (.int .u8 s.fl)).setCell ⟨zt, 5, none⟩ (.int .u16 s.wn)).setCell ⟨zt, 6, none⟩ (.int .u16 s.ug)).setCell ⟨zt, 7, none⟩ (.slice AT2 nT2 cT2)).setCell ⟨zt, 8, none⟩ (.slice AE2 nD cE2) = W7 := ⟨_, rfl⟩
    rw [eW7]
    rw [eW7] at Hset Hblk
    have hzw := Hzz.out
    have Hk := Lib.hid (Hset.out.blk Hk7.out (by omega))
    have Hb7 := Lib.hid (Hb6'.out.trans (Hset.out.below (B := w.heap.size) (fun k hk => by omega) Hb6'.out.size))
    clear eW7
    have hz6 := Hz6.out
    have HsT := Lib.hid (own_seg HsT2.out.num (HoT2.out.but Hset.out (fun k e => by have := HoT2.out.at_ e; omega)) (HlT2.out.but Hset.out (fun _ _ _ k h2 => by have := h2.at_ rfl; omega)) (HdT2.out.but Hset.out (fun k hk e => by omega)) HsT2.out.d.byte)
    clear HoT2 HlT2 HdT2 HsT2 Hset hz6 hzw
    refine (pseudo_any src dst 0 0 _ (by omega)).mono ?_
    rintro e w8 ⟨A8, c8, rfl, k8, m8, ho8, hb8⟩
    have Hr8 := Lib.hid (ho8.rd (pseudo_byte _ _ _ _ (by omega)))
    have Hb8 := Lib.hid (below_trans Hb7.out hb8)
    have Hk := Lib.hid (blk_on Hk.out hb8)
    have Hblk := Lib.hid (blk_on Hblk.out hb8)
    have HsT := Lib.hid (HsT.out.below hb8)
    clear hb8 ho8
    go_wp2_with fail
    refine (sum_told _ 1 1 [pseudoL src dst 0 0] _ (sumL (pseudoL src dst 0 0)) (by omega) (RdL.one _ _ rfl _ _ _ 12 c8 _ Hr8.out k8 m8) (by simp)).mono ?_
    rintro e w9 ⟨rfl, hb9⟩
    have hb9' := below_alloc hb9
    have Hb9 := Lib.hid (below_trans Hb8.out hb9')
    have Hk := Lib.hid (blk_on Hk.out hb9')
    have Hblk := Lib.hid (blk_on Hblk.out hb9')
    have HsT := Lib.hid (HsT.out.below hb9')
    clear hb9 hb9' Hr8 k8 m8
    go_wp2_with fail
    refine (pseudo_any src2 dst2 0 0 _ (by omega)).mono ?_
    rintro e w10 ⟨A10, c10, rfl, k10, m10, ho10, hb10⟩
    have Hr10 := Lib.hid (ho10.rd (pseudo_byte _ _ _ _ (by omega)))
    have Hb10 := Lib.hid (below_trans Hb9.out hb10)
    have Hk := Lib.hid (blk_on Hk.out hb10)
    have Hblk := Lib.hid (blk_on Hblk.out hb10)
    have HsT := Lib.hid (HsT.out.below hb10)
    clear hb10 ho10
    go_wp2_with fail
    refine (sum_told _ 1 1 [pseudoL src2 dst2 0 0] _ (sumL (pseudoL src2 dst2 0 0)) (by omega) (RdL.one _ _ rfl _ _ _ 12 c10 _ Hr10.out k10 m10) (by simp)).mono ?_
    rintro e w11 ⟨rfl, hb11⟩
    have hb11' := below_alloc hb11
    have Hb11 := Lib.hid (below_trans Hb10.out hb11')
    have Hk := Lib.hid (blk_on Hk.out hb11')
    have Hblk := Lib.hid (blk_on Hblk.out hb11')
    have HsT := Lib.hid (HsT.out.below hb11')
    clear hb11 hb11' Hr10 k10 m10
    go_wp2_with fail
    refine (alike_any _ _ _).mono ?_
    rintro e w12 ⟨rfl, rfl⟩
    rw [Hl.out]
    obtain ⟨c0, c1', c2, c3, c4, c5, c6, c7, c8⟩ := seg_cells Hk.out
    obtain ⟨q0, q1, q2, q3, q4, q5, q6, q7, q8⟩ := seg_cells Hblk.out
    go_wp2_with fail
    refine (same_yes s AO AT2 nO cO nT2 cT2 oss oT2 AD AE2 nD cD nD cE2 _ (by have := HnO.out; omega) (Hs0.out.below Hb11.out) HsT.out).mono ?_
    rintro e w13 ⟨rfl, hb13⟩
    have Hb13 := Lib.hid (below_trans Hb11.out hb13)
    clear hb13 c0 c1' c2 c3 c4 c5 c6 c7 c8 q0 q1 q2 q3 q4 q5 q6 q7 q8 HsT Hblk HkT Hk
    go_wp2_with fail
    by_cases e0 : errSeg src dst lb = 0
    case neg =>
      obtain ⟨x, ex⟩ : ∃ x, errSeg src dst lb = x := ⟨_, rfl⟩
      have hx1 : (x == 0) = false := by simp; omega
      have hx2 : (x != 0) = true := by simp; omega
      have Hx0 := Lib.hid (show x ≠ 0 by omega)
      have Ex := Lib.hid ex
      clear e0 ex
      refine (tparse_err src dst Ab nb cb lb x _ Hcb.out (Hrb0.out.below Hb13.out) Ex.out Hx0.out).mono ?_
      rintro e wA ⟨rfl, hbA⟩
      have HbA := Lib.hid (below_trans Hb13.out hbA)
      clear hbA
      go_wp2_with fail
      refine (same_zero _).mono ?_
      rintro e wB ⟨rfl, hbB⟩
      have HbB := Lib.hid (below_trans HbA.out (below_alloc hbB))
      clear hbB
      go_wp2_with fail
      refine (wakes_any _).mono ?_
      rintro e ww ⟨rfl, hbw⟩
      have Hbw := Lib.hid (below_trans HbB.out hbw)
      clear hbw
      go_wp2_with fail
      go_ret
      exact ⟨rfl, Hbw.out⟩
    obtain ⟨S, eS⟩ : ∃ S, segOf lb (offB lb) = S := ⟨_, rfl⟩
    obtain ⟨nS, eN⟩ : ∃ nS, S.d.length = nS := ⟨_, rfl⟩
    have hgs := segOf_good (src := src) (dst := dst) Hrb0.out.byte e0
    rw [eS] at hgs
    have HG := Lib.hid hgs.1
    obtain ⟨LY, eLY⟩ : ∃ LY, segB src dst S = LY := ⟨_, rfl⟩
    obtain ⟨mY, emY⟩ : ∃ mY, lenB S = mY := ⟨_, rfl⟩
    have hmb : mY ≤ nb := by rw [← emY, ← HrbLen.out]; exact hgs.2
    have hmbi : (mY : Int) ≤ (nb : Int) := by omega
    have HbyY := Lib.hid (show ∀ x ∈ LY, 0 ≤ x ∧ x < 256 by rw [← eLY]; exact hgs.1.bytes src dst)
    have HeY := Lib.hid (show errSeg src dst LY = 0 by rw [← eLY]; exact hgs.1.err src dst)
    have HsY := Lib.hid (show segOf LY (offB LY) = S by rw [← eLY]; exact hgs.1.segOf src dst)
    have EN := Lib.hid eN
    have ES := Lib.hid eS
    have E0 := Lib.hid e0
    have ELY := Lib.hid eLY
    have EmY := Lib.hid emY
    have HnS := Lib.hid (show nS ≤ 1480 by have h1 := hgs.1.may.2.2; unfold lenB at h1; omega)
    clear e0 eS eN hgs eLY emY hmb
    refine (tparse_told src dst Ab nb cb lb S nS _ Hcb.out (Hrb0.out.below Hb13.out) E0.out ES.out EN.out).mono ?_
    rintro e wA ⟨AT, nT, cT, oT, AE, cE, rfl, hsT, hnT, -, -, -, hbA⟩
    obtain ⟨zt, hzt⟩ : ∃ zt, wA.heap.size = zt := ⟨_, rfl⟩
    have Hzt := Lib.hid hzt
    have HsT := Lib.hid hsT
    have HnT := Lib.hid hnT
    have HbA := Lib.hid (below_trans Hb13.out hbA)
    clear hsT hnT hbA
    go_wp2_with fail
    have hkT := heap_alloc_new wA (.cells #[.int .u16 S.sp, .int .u16 S.dp, .int .u32 S.sq, .int .u32 S.ak, .int .u8 S.fl, .int .u16 S.wn, .int .u16 S.ug, .slice AT nT cT, .slice AE nS cE] 27)
    rw [Hzt.out] at hkT
    have hbT : Below wA.heap.size wA (wA.alloc (.cells #[.int .u16 S.sp, .int .u16 S.dp, .int .u32 S.sq, .int .u32 S.ak, .int .u8 S.fl, .int .u16 S.wn, .int .u16 S.ug, .slice AT nT cT, .slice AE nS cE] 27)) := (Below.refl _ _).alloc (Nat.le_refl _) _
    refine (put6_told src dst S AT nT cT oT AE nS cE _ LY mY (by have := HnT.out; omega) (by have := HnS.out; omega) (HsT.out.below hbT) HG.out.ok EmY.out ELY.out).mono ?_
    rintro e wB ⟨AY, cY, rfl, kY, lY, hoY, hbB⟩
    have HkT := Lib.hid (blk_on hkT hbB)
    have HsT := Lib.hid ((HsT.out.below hbT).below hbB)
    have HrY := Lib.hid (hoY.rd HbyY.out)
    have HcY := Lib.hid (And.intro kY lY)
    have HbB := Lib.hid (below_trans HbA.out (below_alloc hbB))
    clear hkT hbT hoY hbB kY lY hzt
    go_wp2_with fail
    refine (tparse_told src dst AY mY cY LY S nS _ HcY.out HrY.out HeY.out HsY.out EN.out).mono ?_
    rintro e wC ⟨AU, nU, cU, oU, AF, cF, rfl, hsU, hnU, -, -, -, hbC⟩
    have HkT := Lib.hid (blk_on HkT.out hbC)
    have HsT := Lib.hid (HsT.out.below hbC)
    have HsU := Lib.hid hsU
    have HbC := Lib.hid (below_trans HbB.out hbC)
    clear hsU hnU hbC
    have hbU : Below wC.heap.size wC (wC.alloc (.cells #[.int .u16 S.sp, .int .u16 S.dp, .int .u32 S.sq, .int .u32 S.ak, .int .u8 S.fl, .int .u16 S.wn, .int .u16 S.ug, .slice AU nU cU, .slice AF nS cF] 27)) := (Below.refl _ _).alloc (Nat.le_refl _) _
    obtain ⟨q0, q1, q2, q3, q4, q5, q6, q7, q8⟩ := seg_cells (blk_on HkT.out hbU)
    have hztw : zt < wC.heap.size := lt_of_block HkT.out
    have hztn : ¬ wC.heap.size = zt := by omega
    have hztm : ¬ zt = wC.heap.size := by omega
    obtain ⟨p0, p1, p2, p3, p4, p5, p6, p7, p8⟩ := seg_cells HkT.out
    have HbU := Lib.hid hbU
    clear hbU
    go_wp2_with fail
    refine (same_yes S AT AU nT cT nU cU oT oU AE AF nS cE nS cF _ (by have := HnT.out; omega) (HsT.out.below HbU.out) (HsU.out.below HbU.out)).mono ?_
    rintro e wD ⟨rfl, hbD⟩
    have HbD := Lib.hid (below_trans HbC.out (below_alloc hbD))
    clear hbD q0 q1 q2 q3 q4 q5 q6 q7 q8 p0 p1 p2 p3 p4 p5 p6 p7 p8
    go_wp2_with fail
    refine (wakes_any _).mono ?_
    rintro e ww ⟨rfl, hbw⟩
    have Hbw := Lib.hid (below_trans HbD.out hbw)
    clear hbw
    go_wp2_with fail
    go_ret
    exact ⟨rfl, Hbw.out⟩
  · have hl' : likeB (sumL (pseudoL src dst 0 0)) (sumL (pseudoL src2 dst2 0 0)) = false := by simpa using hl
    have Hl := Lib.hid hl'
    refine (tparse_err src2 dst2 A1 m c1 L 20 _ Hc1.out Hr1.out (by rw [Hoth.out, if_neg hl]) (by decide)).mono ?_
    rintro e w7 ⟨rfl, hb7⟩
    clear hl hl'
    have hkT7 := blk_on HkT.out hb7
    have Hk7 := Lib.hid (blk_on Hk.out hb7)
    obtain ⟨q0, q1, q2, q3, q4, q5, q6, q7, q8⟩ := seg_cells hkT7
    have qf := blk_free hkT7
    have hset := set9_but w7 zt (.int .u16 0) (.int .u16 0) (.int .u32 0) (.int .u32 0) (.int .u8 0) (.int .u16 0) (.int .u16 0) (.slice none 0 0) (.slice none 0 0)
    have hblk := set9_blk hkT7 (.int .u16 0) (.int .u16 0) (.int .u32 0) (.int .u32 0) (.int .u8 0) (.int .u16 0) (.int .u16 0) (.slice none 0 0) (.slice none 0 0)
    have Hset := Lib.hid hset
    have Hblk := Lib.hid hblk
    have Hb6' := Lib.hid (below_trans Hb6.out hb7)
    clear hset hblk hkT7
    go_wp2_with fail
    clear q0 q1 q2 q3 q4 q5 q6 q7 q8 qf
    obtain ⟨W7, eW7⟩ : ∃ W7, ((((((((w7.setCell ⟨zt, 0, none⟩ (.int .u16 0)).setCell ⟨zt, 1, none⟩ (.int .u16 0)).setCell ⟨zt, 2, none⟩ (.int .u32 0)).setCell ⟨zt, 3, none⟩ (.int .u32 0)).setCell ⟨zt, 4, none⟩ (.int .u8 0)).setCell ⟨zt, 5, none⟩ (.int .u16 0)).setCell ⟨zt, 6, none⟩ (.int .u16 0)).setCell ⟨zt, 7, none⟩ (.slice none 0 0)).setCell ⟨zt, 8, none⟩ (.slice none 0 0) = W7 := ⟨_, rfl⟩
    rw [eW7]
    rw [eW7] at Hset Hblk
    have hzw := Hzz.out
    have Hk := Lib.hid (Hset.out.blk Hk7.out (by omega))
    have Hb7 := Lib.hid (Hb6'.out.trans (Hset.out.below (B := w.heap.size) (fun k hk => by omega) Hb6'.out.size))
    clear eW7
    clear Hset Hblk hzw
    refine (pseudo_any src dst 0 0 _ (by omega)).mono ?_
    rintro e w8 ⟨A8, c8, rfl, k8, m8, ho8, hb8⟩
    have Hr8 := Lib.hid (ho8.rd (pseudo_byte _ _ _ _ (by omega)))
    have Hb8 := Lib.hid (below_trans Hb7.out hb8)
    have Hk := Lib.hid (blk_on Hk.out hb8)
    clear hb8 ho8
    go_wp2_with fail
    refine (sum_told _ 1 1 [pseudoL src dst 0 0] _ (sumL (pseudoL src dst 0 0)) (by omega) (RdL.one _ _ rfl _ _ _ 12 c8 _ Hr8.out k8 m8) (by simp)).mono ?_
    rintro e w9 ⟨rfl, hb9⟩
    have hb9' := below_alloc hb9
    have Hb9 := Lib.hid (below_trans Hb8.out hb9')
    have Hk := Lib.hid (blk_on Hk.out hb9')
    clear hb9 hb9' Hr8 k8 m8
    go_wp2_with fail
    refine (pseudo_any src2 dst2 0 0 _ (by omega)).mono ?_
    rintro e w10 ⟨A10, c10, rfl, k10, m10, ho10, hb10⟩
    have Hr10 := Lib.hid (ho10.rd (pseudo_byte _ _ _ _ (by omega)))
    have Hb10 := Lib.hid (below_trans Hb9.out hb10)
    have Hk := Lib.hid (blk_on Hk.out hb10)
    clear hb10 ho10
    go_wp2_with fail
    refine (sum_told _ 1 1 [pseudoL src2 dst2 0 0] _ (sumL (pseudoL src2 dst2 0 0)) (by omega) (RdL.one _ _ rfl _ _ _ 12 c10 _ Hr10.out k10 m10) (by simp)).mono ?_
    rintro e w11 ⟨rfl, hb11⟩
    have hb11' := below_alloc hb11
    have Hb11 := Lib.hid (below_trans Hb10.out hb11')
    have Hk := Lib.hid (blk_on Hk.out hb11')
    clear hb11 hb11' Hr10 k10 m10
    go_wp2_with fail
    refine (alike_any _ _ _).mono ?_
    rintro e w12 ⟨rfl, rfl⟩
    rw [Hl.out]
    go_wp2_with fail
    by_cases e0 : errSeg src dst lb = 0
    case neg =>
      obtain ⟨x, ex⟩ : ∃ x, errSeg src dst lb = x := ⟨_, rfl⟩
      have hx1 : (x == 0) = false := by simp; omega
      have hx2 : (x != 0) = true := by simp; omega
      have Hx0 := Lib.hid (show x ≠ 0 by omega)
      have Ex := Lib.hid ex
      clear e0 ex
      refine (tparse_err src dst Ab nb cb lb x _ Hcb.out (Hrb0.out.below Hb11.out) Ex.out Hx0.out).mono ?_
      rintro e wA ⟨rfl, hbA⟩
      have HbA := Lib.hid (below_trans Hb11.out hbA)
      clear hbA
      go_wp2_with fail
      refine (same_zero _).mono ?_
      rintro e wB ⟨rfl, hbB⟩
      have HbB := Lib.hid (below_trans HbA.out (below_alloc hbB))
      clear hbB
      go_wp2_with fail
      refine (wakes_any _).mono ?_
      rintro e ww ⟨rfl, hbw⟩
      have Hbw := Lib.hid (below_trans HbB.out hbw)
      clear hbw
      go_wp2_with fail
      go_ret
      exact ⟨rfl, Hbw.out⟩
    obtain ⟨S, eS⟩ : ∃ S, segOf lb (offB lb) = S := ⟨_, rfl⟩
    obtain ⟨nS, eN⟩ : ∃ nS, S.d.length = nS := ⟨_, rfl⟩
    have hgs := segOf_good (src := src) (dst := dst) Hrb0.out.byte e0
    rw [eS] at hgs
    have HG := Lib.hid hgs.1
    obtain ⟨LY, eLY⟩ : ∃ LY, segB src dst S = LY := ⟨_, rfl⟩
    obtain ⟨mY, emY⟩ : ∃ mY, lenB S = mY := ⟨_, rfl⟩
    have hmb : mY ≤ nb := by rw [← emY, ← HrbLen.out]; exact hgs.2
    have hmbi : (mY : Int) ≤ (nb : Int) := by omega
    have HbyY := Lib.hid (show ∀ x ∈ LY, 0 ≤ x ∧ x < 256 by rw [← eLY]; exact hgs.1.bytes src dst)
    have HeY := Lib.hid (show errSeg src dst LY = 0 by rw [← eLY]; exact hgs.1.err src dst)
    have HsY := Lib.hid (show segOf LY (offB LY) = S by rw [← eLY]; exact hgs.1.segOf src dst)
    have EN := Lib.hid eN
    have ES := Lib.hid eS
    have E0 := Lib.hid e0
    have ELY := Lib.hid eLY
    have EmY := Lib.hid emY
    have HnS := Lib.hid (show nS ≤ 1480 by have h1 := hgs.1.may.2.2; unfold lenB at h1; omega)
    clear e0 eS eN hgs eLY emY hmb
    refine (tparse_told src dst Ab nb cb lb S nS _ Hcb.out (Hrb0.out.below Hb11.out) E0.out ES.out EN.out).mono ?_
    rintro e wA ⟨AT, nT, cT, oT, AE, cE, rfl, hsT, hnT, -, -, -, hbA⟩
    obtain ⟨zt, hzt⟩ : ∃ zt, wA.heap.size = zt := ⟨_, rfl⟩
    have Hzt := Lib.hid hzt
    have HsT := Lib.hid hsT
    have HnT := Lib.hid hnT
    have HbA := Lib.hid (below_trans Hb11.out hbA)
    clear hsT hnT hbA
    go_wp2_with fail
    have hkT := heap_alloc_new wA (.cells #[.int .u16 S.sp, .int .u16 S.dp, .int .u32 S.sq, .int .u32 S.ak, .int .u8 S.fl, .int .u16 S.wn, .int .u16 S.ug, .slice AT nT cT, .slice AE nS cE] 27)
    rw [Hzt.out] at hkT
    have hbT : Below wA.heap.size wA (wA.alloc (.cells #[.int .u16 S.sp, .int .u16 S.dp, .int .u32 S.sq, .int .u32 S.ak, .int .u8 S.fl, .int .u16 S.wn, .int .u16 S.ug, .slice AT nT cT, .slice AE nS cE] 27)) := (Below.refl _ _).alloc (Nat.le_refl _) _
    refine (put6_told src dst S AT nT cT oT AE nS cE _ LY mY (by have := HnT.out; omega) (by have := HnS.out; omega) (HsT.out.below hbT) HG.out.ok EmY.out ELY.out).mono ?_
    rintro e wB ⟨AY, cY, rfl, kY, lY, hoY, hbB⟩
    have HkT := Lib.hid (blk_on hkT hbB)
    have HsT := Lib.hid ((HsT.out.below hbT).below hbB)
    have HrY := Lib.hid (hoY.rd HbyY.out)
    have HcY := Lib.hid (And.intro kY lY)
    have HbB := Lib.hid (below_trans HbA.out (below_alloc hbB))
    clear hkT hbT hoY hbB kY lY hzt
    go_wp2_with fail
    refine (tparse_told src dst AY mY cY LY S nS _ HcY.out HrY.out HeY.out HsY.out EN.out).mono ?_
    rintro e wC ⟨AU, nU, cU, oU, AF, cF, rfl, hsU, hnU, -, -, -, hbC⟩
    have HkT := Lib.hid (blk_on HkT.out hbC)
    have HsT := Lib.hid (HsT.out.below hbC)
    have HsU := Lib.hid hsU
    have HbC := Lib.hid (below_trans HbB.out hbC)
    clear hsU hnU hbC
    have hbU : Below wC.heap.size wC (wC.alloc (.cells #[.int .u16 S.sp, .int .u16 S.dp, .int .u32 S.sq, .int .u32 S.ak, .int .u8 S.fl, .int .u16 S.wn, .int .u16 S.ug, .slice AU nU cU, .slice AF nS cF] 27)) := (Below.refl _ _).alloc (Nat.le_refl _) _
    obtain ⟨q0, q1, q2, q3, q4, q5, q6, q7, q8⟩ := seg_cells (blk_on HkT.out hbU)
    have hztw : zt < wC.heap.size := lt_of_block HkT.out
    have hztn : ¬ wC.heap.size = zt := by omega
    have hztm : ¬ zt = wC.heap.size := by omega
    obtain ⟨p0, p1, p2, p3, p4, p5, p6, p7, p8⟩ := seg_cells HkT.out
    have HbU := Lib.hid hbU
    clear hbU
    go_wp2_with fail
    refine (same_yes S AT AU nT cT nU cU oT oU AE AF nS cE nS cF _ (by have := HnT.out; omega) (HsT.out.below HbU.out) (HsU.out.below HbU.out)).mono ?_
    rintro e wD ⟨rfl, hbD⟩
    have HbD := Lib.hid (below_trans HbC.out (below_alloc hbD))
    clear hbD q0 q1 q2 q3 q4 q5 q6 q7 q8 p0 p1 p2 p3 p4 p5 p6 p7 p8
    go_wp2_with fail
    refine (wakes_any _).mono ?_
    rintro e ww ⟨rfl, hbw⟩
    have Hbw := Lib.hid (below_trans HbD.out hbw)
    clear hbw
    go_wp2_with fail
    go_ret
    exact ⟨rfl, Hbw.out⟩
theorem own : ownKnob Try.prog.godebug = none := by kernel_rfl
theorem laidOut : laidOutB Try.prog = true := by kernel_rfl

set_option maxRecDepth 100000 in
theorem lifted (os : Os) (started : os.Started) (H : Type) (enc : TypeId × Value → H) :
    ReturnsInHanded {} Try.checked os 4 .any (Rows.tcpBackSpec.pre6 enc Try.prog Try.f4 Rows.tcpBackRow.domain false) (Rows.tcpBackSpec.post enc Try.prog Try.f4 false true false false) := by
  refine returnsInHanded_of_change_sized (C := Try.checked) own started (by kernel_rfl) Try.func4
    (ChangeSpec.witness6 (enc := enc) (C := Try.checked) false ⟨#[], #[.int .u32 0, .int .u32 0, .int .u32 0, .int .u32 0, (.agg #[.int .u16 0, .int .u16 0, .int .u32 0, .int .u32 0, .int .u8 0, .int .u16 0, .int .u16 0, .slice none 0 0, .slice none 0 0]), (.slice none 0 0)], []⟩ 8 (by kernel_rfl) (by kernel_rfl) (by kernel_rfl) (by kernel_rfl)) ?_
  intro W base args ds gs before hval0 hW hcnd hsz0 _
  have hsz : (DataW.weightsEach Try.prog (Try.f4.params.toList ++ Rows.tcpBackSpec.plain.varTypes Try.prog) (ds ++ gs)).all (· ≤ reachBytes) = true := hsz0
  have hval : ∀ (j : Nat) t v, Try.f4.params[j]? = some t → args[j]? = some v → Value.okWide Try.prog W .any base t v := hval0
  have hW' := hW
  obtain ⟨p, q, hA0, hV, rfl, hfz, hnd⟩ := hW
  have hA : DataW.TrodAll enc Try.prog W 0 (fun _ => true) true Try.f4.params.toList args.toList ds p := hA0
  rw [Try.params4] at hA hval hsz
  obtain ⟨v0, vs0, d0, ds0, p0, q0, hargs, rfl, rfl, h0, r0⟩ := trodAll_cons hA
  obtain ⟨v1, vs1, d1, ds1, p1, q1, rfl, rfl, rfl, h1, r1⟩ := trodAll_cons r0
  obtain ⟨v2, vs2, d2, ds2, p2, q2, rfl, rfl, rfl, h2, r2⟩ := trodAll_cons r1
  obtain ⟨v3, vs3, d3, ds3, p3, q3, rfl, rfl, rfl, h3, r3⟩ := trodAll_cons r2
  obtain ⟨v4, vs4, d4, ds4, p4, q4, rfl, rfl, rfl, h4, r4⟩ := trodAll_cons r3
  obtain ⟨v5, vs5, d5, ds5, p5, q5, rfl, rfl, rfl, h5, r5⟩ := trodAll_cons r4
  obtain ⟨rfl, rfl, rfl⟩ := trodAll_nil r5
  obtain rfl : args = #[v0, v1, v2, v3, v4, v5] := by cases args; simp_all
  obtain ⟨rfl, rfl⟩ := trodVars_none hV
  obtain ⟨a0, rfl, rfl, rfl, w0⟩ := open_int Try.underlying22 (hval 0 22 v0 rfl rfl) h0
  obtain ⟨a1, rfl, rfl, rfl, w1⟩ := open_int Try.underlying22 (hval 1 22 v1 rfl rfl) h1
  obtain ⟨a2, rfl, rfl, rfl, w2⟩ := open_int Try.underlying22 (hval 2 22 v2 rfl rfl) h2
  obtain ⟨a3, rfl, rfl, rfl, w3⟩ := open_int Try.underlying22 (hval 3 22 v3 rfl rfl) h3
  have k4 := seg_open (hval 4 27 v4 rfl rfl) h4 (fun k hk => by have := List.all_eq_true.1 hsz k (DataW.weights_mem_each (j := 4) (t := 27) rfl rfl k hk); simpa using this)
  have lt4 : ∀ x ∈ p4, x.block < W.heap.size := by obtain ⟨m, hm⟩ := h4; exact DataW.trod_lt m _ _ _ hm
  have k5 := bytes_open9 (hval 5 25 v5 rfl rfl) h5 (fun k hk => by have := List.all_eq_true.1 hsz k (DataW.weights_mem_each (j := 5) (t := 25) rfl rfl k hk); simpa using this)
  have lt5 : ∀ x ∈ p5, x.block < W.heap.size := by obtain ⟨m, hm⟩ := h5; exact DataW.trod_lt m _ _ _ hm
  clear hA0 hval0
  refine (walk W a0 w0 a1 w1 a2 w2 a3 w3 v4 k4 v5 k5).mono fun e W' ⟨he, bel⟩ => ?_
  subst he
  exact ⟨_, rfl, _, _, _, [], _, [], hW', trodAll_mk1 (shut_bool Try.underlying4 _), (trodAll_cons_mk (shut_int Try.underlying22 w0) (trodAll_cons_mk (shut_int Try.underlying22 w1) (trodAll_cons_mk (shut_int Try.underlying22 w2) (trodAll_cons_mk (shut_int Try.underlying22 w3) (trodAll_cons_mk (Below.trod laidOut (by kernel_rfl) (of_decide_eq_true (by kernel_rfl)) h4 bel lt4) (trodAll_cons_mk (Below.trod laidOut (by kernel_rfl) (of_decide_eq_true (by kernel_rfl)) h5 bel lt5) trodAll_mk0)))))), rfl, bel.frame _, fun h => by cases h⟩

theorem over : Rows.tcpBackRow.holds Try.pinned (OpenSpec.ofChange Rows.tcpBackSpec) :=
  OpenClaim.holds_of_wide 4 Try.f4 rfl rfl rfl rfl rfl rfl rfl ⟨rfl, rfl, rfl, rfl, rfl⟩ rfl rfl rfl rfl rfl (by kernel_rfl) Try.func4 (by kernel_rfl)
    (of_decide_eq_true (by kernel_rfl)) (by unfold Func.isWrapper; first | (rw [if_pos (by decide +kernel)]; kernel_rfl) | (rw [if_neg (by decide +kernel)]; exact ⟨rfl, rfl⟩))
    (fun os started H enc _ => lifted os started H enc)

/-- The statement. -/
theorem proved : Rows.TcpBackSaid := over
#print axioms proved
end Go.Proofs.Ytpinjbnbpcmfbaa.tcpBack
