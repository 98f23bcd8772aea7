/-
  TcpCalls holds (in the second form: of bulk at most 1048576): any segment's bytes, between any addresses, and any bytes as a segment are the document's; two segments, how long, what may be; all that comes in stays, and what is told lives apart.
-/
import Derived.Test.YtoblllgefmajiaaTcpBoth
import Derived.Test.YtoblllgefmajiaaTcpWakes
import Derived.Test.YtoblllgefmajiaaTcpOpen
import Derived.RegionTactic
import Derived.BigRegion
import Derived.Deep.CutRange
import Derived.Deep.RegionHeld3
import Derived.Laws.BitsLemmas
namespace Go.Proofs.Ytoblllgefmajiaa.tcpCalls
set_option maxRecDepth 10000
open Go.ChangeShapes Go.WideShapes Go.ChangeAt Go.RowKit
set_option linter.unusedVariables false
set_option linter.unusedSimpArgs false

theorem index_own {w : World} {B g n c : Nat} {l : List Int} (h : OwnB w B (some ⟨g, 0, none⟩) n c l) {j : Nat} (hj : j < n) :
    (∀ W : World, (Instr.indexAt 25 (.slice (some ⟨g, 0, none⟩) n c) (.int .i64 (j : Int))).run Try.prog W = .ok (.pointer (some ⟨g, j, none⟩)) W) ∧ w.cell? ⟨g, j, none⟩ = some (.int .u8 (l.getD j 0)) ∧ w.frozen? ⟨g, j, none⟩ = false := by
  have h0 : (0 : Int) ≤ (j : Int) := by omega
  have h1 : (j : Int) < (n : Int) := by omega
  have h' : w.ownsRow B 5 1 (.slice (some ⟨g, 0, none⟩) n c) n (l.map (Value.int .u8)) := h
  exact ⟨fun W => by go_simp, h.cell j hj, World.ownsRow.frozenAt h' j⟩
theorem may_both (s : Seg) : mayS s = mayT s := rfl

set_option maxHeartbeats 8000000 in
theorem walk (w : World) (src : Int) (w0 : (Lit.int .u32 src).wf = true) (dst : Int) (w1 : (Lit.int .u32 dst).wf = true) (v : Value) (hv : SegAt 1048576 1048576 w v) (v' : Value) (hv' : SegAt 1048576 1048576 w v') (vb : Value) (hvb : BytesUp 1048576 w vb) :
    Calls Try.prog 3 #[.int .u32 src, .int .u32 dst, v, v', vb] w fun e w' => e = .returned (.bool true) ∧ Below w.heap.size w w' := by
  obtain ⟨s, AO, nO, cO, oss, AD, nD, cD, rfl, hs, hnO, hnD⟩ := hv
  obtain ⟨t, AO', nO', cO', oss', AD', nD', cD', rfl, ht, hnO', hnD'⟩ := hv'
  obtain ⟨Ab, nb, cb, lb, rfl, hcb, hcbm, hrb, hnb⟩ := hvb
  have hfl := hs.num.fl
  obtain ⟨z, hz⟩ : ∃ z, w.heap.size = z := ⟨_, rfl⟩
  obtain ⟨W0, eW0⟩ : ∃ W0, (w.alloc (.cells #[.int .u16 s.sp, .int .u16 s.dp, .int .u32 s.sq, .int .u32 s.ak, .int .u8 s.fl, .int .u16 s.wn, .int .u16 s.ug, .slice AO nO cO, .slice AD nD cD] 27)).alloc (.cells #[.int .u16 t.sp, .int .u16 t.dp, .int .u32 t.sq, .int .u32 t.ak, .int .u8 t.fl, .int .u16 t.wn, .int .u16 t.ug, .slice AO' nO' cO', .slice AD' nD' cD'] 27) = W0 := ⟨_, rfl⟩
  have hbW : Below w.heap.size w W0 := by rw [← eW0]; exact ((Below.refl _ _).alloc (Nat.le_refl _) _).alloc (by simp) _
  have hk0 : W0.heap[z]? = some (.cells #[.int .u16 s.sp, .int .u16 s.dp, .int .u32 s.sq, .int .u32 s.ak, .int .u8 s.fl, .int .u16 s.wn, .int .u16 s.ug, .slice AO nO cO, .slice AD nD cD] 27 (0, 0)) := by
    rw [← eW0, Below.heap_alloc _ _ _ (by simp [hz]), ← hz]; exact heap_alloc_new w _
  have hk1 : W0.heap[z + 1]? = some (.cells #[.int .u16 t.sp, .int .u16 t.dp, .int .u32 t.sq, .int .u32 t.ak, .int .u8 t.fl, .int .u16 t.wn, .int .u16 t.ug, .slice AO' nO' cO', .slice AD' nD' cD'] 27 (0, 0)) := by
    rw [← eW0, ← hz]; simpa using heap_alloc_new (w.alloc (.cells #[.int .u16 s.sp, .int .u16 s.dp, .int .u32 s.sq, .int .u32 s.ak, .int .u8 s.fl, .int .u16 s.wn, .int .u16 s.ug, .slice AO nO cO, .slice AD nD cD] 27)) (.cells #[.int .u16 t.sp, .int .u16 t.dp, .int .u32 t.sq, .int .u32 t.ak, .int .u8 t.fl, .int .u16 t.wn, .int .u16 t.ug, .slice AO' nO' cO', .slice AD' nD' cD'] 27)
  have HKs := Lib.hid (show ∀ w', Below W0.heap.size W0 w' → (w'.cell? ⟨z, 0, none⟩ = some (.int .u16 s.sp) ∧ w'.cell? ⟨z, 1, none⟩ = some (.int .u16 s.dp) ∧ w'.cell? ⟨z, 2, none⟩ = some (.int .u32 s.sq) ∧ w'.cell? ⟨z, 3, none⟩ = some (.int .u32 s.ak) ∧ w'.cell? ⟨z, 4, none⟩ = some (.int .u8 s.fl) ∧ w'.cell? ⟨z, 5, none⟩ = some (.int .u16 s.wn) ∧ w'.cell? ⟨z, 6, none⟩ = some (.int .u16 s.ug) ∧ w'.cell? ⟨z, 7, none⟩ = some (.slice AO nO cO) ∧ w'.cell? ⟨z, 8, none⟩ = some (.slice AD nD cD)) from fun w' hb => seg_cells (blk_on hk0 hb))
  have HKt := Lib.hid (show ∀ w', Below W0.heap.size W0 w' → (w'.cell? ⟨z + 1, 0, none⟩ = some (.int .u16 t.sp) ∧ w'.cell? ⟨z + 1, 1, none⟩ = some (.int .u16 t.dp) ∧ w'.cell? ⟨z + 1, 2, none⟩ = some (.int .u32 t.sq) ∧ w'.cell? ⟨z + 1, 3, none⟩ = some (.int .u32 t.ak) ∧ w'.cell? ⟨z + 1, 4, none⟩ = some (.int .u8 t.fl) ∧ w'.cell? ⟨z + 1, 5, none⟩ = some (.int .u16 t.wn) ∧ w'.cell? ⟨z + 1, 6, none⟩ = some (.int .u16 t.ug) ∧ w'.cell? ⟨z + 1, 7, none⟩ = some (.slice AO' nO' cO') ∧ w'.cell? ⟨z + 1, 8, none⟩ = some (.slice AD' nD' cD')) from fun w' hb => seg_cells (blk_on hk1 hb))
  have HS := Lib.hid (show ∀ w', Below W0.heap.size W0 w' → SegRd w' s AO nO cO oss AD nD cD from fun w' hb => (hs.below hbW).below hb)
  have HT := Lib.hid (show ∀ w', Below W0.heap.size W0 w' → SegRd w' t AO' nO' cO' oss' AD' nD' cD' from fun w' hb => (ht.below hbW).below hb)
  have HR := Lib.hid (show ∀ w', Below W0.heap.size W0 w' → Rd w' Ab nb lb from fun w' hb => (hrb.below hbW).below hb)
  have HbW := Lib.hid hbW
  have HeW := Lib.hid eW0
  have HbB := Lib.hid hrb.byte
  have Hcb := Lib.hid (And.intro hcb hcbm)
  have HnO := Lib.hid (And.intro hnO hnD)
  have HnO' := Lib.hid (And.intro hnO' hnD')
  have Hfl := Lib.hid hfl
  clear hk0 hk1 hbW eW0 hs ht hrb hcb hcbm w0 w1 hfl hnO hnD hnO' hnD'
  obtain ⟨x, ex⟩ : ∃ x, errS s = x := ⟨_, rfl⟩
  obtain ⟨L, eL⟩ : ∃ L, toldB src dst s = L := ⟨_, rfl⟩
  obtain ⟨m, em⟩ : ∃ m, L.length = m := ⟨_, rfl⟩
  obtain ⟨y, ey⟩ : ∃ y, errSeg src dst lb = y := ⟨_, rfl⟩
  obtain ⟨U, eU⟩ : ∃ U, toldS src dst lb = U := ⟨_, rfl⟩
  obtain ⟨nU, enU⟩ : ∃ n, U.d.length = n := ⟨_, rfl⟩
  have Ex := Lib.hid ex
  have EL := Lib.hid eL
  have Em := Lib.hid em
  have Ey := Lib.hid ey
  have EU := Lib.hid eU
  have EnU := Lib.hid enU
  clear ex eL em ey eU enU
  go_enter Try.func3, Try.ntmps3
  go_upto_region 1 with (fail)
  rw [HeW.out]
  have HrA := Lib.hid (HR.out W0 (Below.refl _ _))
  have hnb2 : 0 + nb ≤ 140737488355328 := by omega
  go_upto_region 2 with (refine wpList_app rfl (.const (.slice none 0 0)) (.tmp 23) rfl W0.heap.size none Ab 0 0 nb cb [] lb rfl rfl (OwnB.nil _ _) HrA.out hnb2 (Nat.le_refl _) ?_; intro A7 c7 w2 ho2 hg2 hb2 hat2)
  have HO := Lib.hid (show OwnB w2 W0.heap.size A7 nb c7 lb by simpa using ho2)
  have Hb := Lib.hid hb2
  have Hc7 := Lib.hid (And.intro HO.out.cap HO.out.capMax)
  clear ho2 hg2 hb2 hat2 HrA hnb2
  obtain ⟨f0, f1, f2, f3, f4, f5, f6, f7, f8⟩ := HKs.out _ Hb.out
  try simp only [Nat.zero_add]
  go_wp2_with fail
  refine (put_both src dst s AO nO cO oss AD nD cD _ L m x (by have := HnO.out; omega) (by have := HnO.out; omega) (HS.out _ Hb.out) Ex.out EL.out Em.out).mono ?_
  rintro e w3 ⟨AX, cX, rfl, rX, hb3⟩
  have Hb := Lib.hid (below_trans Hb.out hb3)
  have HO := Lib.hid (HO.out.on hb3)
  have RX := Lib.hid rX
  clear hb3 rX f0 f1 f2 f3 f4 f5 f6 f7 f8
  obtain ⟨f0, f1, f2, f3, f4, f5, f6, f7, f8⟩ := HKs.out _ Hb.out
  go_wp2_with fail
  refine (rput_both src dst s AO nO cO oss AD nD cD _ L m x (by have := HnO.out; omega) (by have := HnO.out; omega) (HS.out _ Hb.out) Ex.out EL.out Em.out).mono ?_
  rintro e w4 ⟨AY, cY, rfl, rY, hb4⟩
  have Hb := Lib.hid (below_trans Hb.out hb4)
  have HO := Lib.hid (HO.out.on hb4)
  have RX := Lib.hid (RX.out.below hb4)
  have RY := Lib.hid rY
  have RM := Lib.hid (HO.out.rd HbB.out)
  clear hb4 rY f0 f1 f2 f3 f4 f5 f6 f7 f8 HO
  go_wp2_with fail
  refine (tparse_both src dst A7 nb c7 lb U y nU _ Hc7.out RM.out Ey.out EU.out EnU.out).mono ?_
  rintro e w5 ⟨AU, nP, cP, oU, AE, cE, rfl, hsU, hnP, hoU, hlU, hdU, hb5⟩
  have HsU := Lib.hid hsU
  have HoU := Lib.hid hoU
  have HlU := Lib.hid hlU
  have HdU := Lib.hid hdU
  have HnP := Lib.hid hnP
  have HP := Lib.hid (below_trans (Below.refl w4.heap.size w4) hb5)
  clear hsU hoU hlU hdU hnP hb5
  go_wp2_with fail
  obtain ⟨zu, hzu⟩ : ∃ zu, w5.heap.size = zu := ⟨_, rfl⟩
  have hkU := heap_alloc_new w5 (.cells #[.int .u16 U.sp, .int .u16 U.dp, .int .u32 U.sq, .int .u32 U.ak, .int .u8 U.fl, .int .u16 U.wn, .int .u16 U.ug, .slice AU nP cP, .slice AE nU cE] 27)
  rw [hzu] at hkU
  have hbU : Below w5.heap.size w5 (w5.alloc (.cells #[.int .u16 U.sp, .int .u16 U.dp, .int .u32 U.sq, .int .u32 U.ak, .int .u8 U.fl, .int .u16 U.wn, .int .u16 U.ug, .slice AU nP cP, .slice AE nU cE] 27)) := (Below.refl _ _).alloc (Nat.le_refl _) _
  have HbU := Lib.hid hbU
  have Hzu := Lib.hid hzu
  have HkU := Lib.hid hkU
  have HP6 := Lib.hid (below_trans HP.out hbU)
  have HR6 := Lib.hid (HR.out _ (below_trans Hb.out (below_trans HP.out hbU)))
  clear hkU hbU hzu
  refine (rparse_both src dst Ab nb cb lb U y nU _ Hcb.out HR6.out Ey.out EU.out EnU.out).mono ?_
  rintro e w6 ⟨AV, nV, cV, oV, AF, cF, rfl, hsV, hb6⟩
  have hb56 := below_trans HbU.out hb6
  have hkU6 := blk_on HkU.out hb6
  have hbV : Below w6.heap.size w6 (w6.alloc (.cells #[.int .u16 U.sp, .int .u16 U.dp, .int .u32 U.sq, .int .u32 U.ak, .int .u8 U.fl, .int .u16 U.wn, .int .u16 U.ug, .slice AV nV cV, .slice AF nU cF] 27)) := (Below.refl _ _).alloc (Nat.le_refl _) _
  have hkV := heap_alloc_new w6 (.cells #[.int .u16 U.sp, .int .u16 U.dp, .int .u32 U.sq, .int .u32 U.ak, .int .u8 U.fl, .int .u16 U.wn, .int .u16 U.ug, .slice AV nV cV, .slice AF nU cF] 27)
  obtain ⟨zv, hzv⟩ : ∃ zv, w6.heap.size = zv := ⟨_, rfl⟩
  rw [hzv] at hkV
  have HP := Lib.hid (below_trans (below_trans HP6.out hb6) hbV)
  have Hb57 := Lib.hid (below_trans hb56 hbV)
  have HkU := Lib.hid (blk_on hkU6 hbV)
  have HsV := Lib.hid (hsV.below hbV)
  have hzu := Hzu.out
  go_upto_region 6 with (fail)
  try simp only [hzu, hzv]
  obtain ⟨w7, ew7⟩ : ∃ w7, w6.alloc (.cells #[.int .u16 U.sp, .int .u16 U.dp, .int .u32 U.sq, .int .u32 U.ak, .int .u8 U.fl, .int .u16 U.wn, .int .u16 U.ug, .slice AV nV cV, .slice AF nU cF] 27) = w7 := ⟨_, rfl⟩
  rw [ew7] at HP Hb57 HkU HsV hkV ⊢
  have HkV := Lib.hid hkV
  clear hb56 hkU6 hbV hkV hzv hb6 hsV ew7 HP6 HR6 HbU hzu
  obtain ⟨p0, p1, p2, p3, p4, p5, p6, p7, p8⟩ := seg_cells HkU.out
  obtain ⟨r0, r1, r2, r3, r4, r5, r6, r7, r8⟩ := seg_cells HkV.out
  have cx := conv_rd (RX.out.below HP.out) cX
  have cy := conv_rd (RY.out.below HP.out) cY
  obtain ⟨sL, esL⟩ : ∃ q, strOfNums L = q := ⟨_, rfl⟩
  rw [esL] at cx cy
  have hxx : (x != x) = false := by simp
  have hyy : (y != y) = false := by simp
  have Hsame := Lib.hid (rsame6_any U U AU AV nP cP nV cV oU oV AE AF nU cE nU cF w7 (by have := HnP.out; omega) (HsU.out.below Hb57.out) HsV.out)
  rw [segSame_self] at Hsame
  clear esL
  go_wp2_with fail
  refine Hsame.out.mono ?_
  rintro e w8 ⟨rfl, hb8⟩
  have HP := Lib.hid (below_trans HP.out hb8)
  have hb58 := below_trans Hb57.out hb8
  have hkU8 := blk_on HkU.out hb8
  obtain ⟨Bd, eBd⟩ : ∃ B, w4.heap.size = B := ⟨_, rfl⟩
  have hsp : SpoilT w8 w4.heap.size AU nP cP oU AE nU cE zu #[.int .u16 U.sp, .int .u16 U.dp, .int .u32 U.sq, .int .u32 U.ak, .int .u8 U.fl, .int .u16 U.wn, .int .u16 U.ug, .slice AU nP cP, .slice AE nU cE] w8 := ⟨Below.refl _ _ |>.mono (by have := HP.out.size; omega), HoU.out.on hb58, OwnL.dataT (HlU.out.on hb58), ⟨_, HdU.out.on hb58⟩, hkU8⟩
  rw [eBd] at hsp
  have Hsp := Lib.hid hsp
  have EBd := Lib.hid eBd
  have HlenO := Lib.hid HoU.out.len
  have hnU : nU ≤ 9223372036854775807 := by have := HdU.out.cap; have := HdU.out.capMax; unfold maxLen at this; omega
  have hnP : nP ≤ 9223372036854775807 := by have := HnP.out; omega
  clear hsp hb58 hkU8 hb8 Hsame cx cy hxx hyy p0 p1 p2 p3 p4 p5 p6 p7 p8 r0 r1 r2 r3 r4 r5 r6 r7 r8 RX RY HsV HkV HkU Hb57 HsU HoU HlU HdU eBd
  go_wp2_with fail
  go_loopg [20] nU (fun gk i wr => ∃ j : Nat, Hid (gk + j = nU) ∧ j ≤ nU ∧ i = .int .i64 (j : Int) ∧ Hid (SpoilT w8 Bd AU nP cP oU AE nU cE zu #[.int .u16 U.sp, .int .u16 U.dp, .int .u32 U.sq, .int .u32 U.ak, .int .u8 U.fl, .int .u16 U.wn, .int .u16 U.ug, .slice AU nP cP, .slice AE nU cE] wr))
  case atStart => exact ⟨0, rfl, Nat.zero_le _, rfl, Hsp⟩
  case round =>
    obtain ⟨j, hgk, hj, rfl, hsp⟩ := hrel
    obtain ⟨p0, p1, p2, p3, p4, p5, p6, p7, p8⟩ := seg_cells hsp.out.blk
    by_cases hjm : j < nU
    · obtain ⟨l', h'⟩ := hsp.out.d
      obtain ⟨g, eA, hgB, hgl⟩ := h'.addr (by omega)
      rw [eA] at h'
      obtain ⟨hrun2, hc2, hf2⟩ := index_own h' hjm
      have Hset := Lib.hid (fun y => hsp.out.set_ h' j y)
      subst eA
      clear h' hsp
      go_wp2_with fail
      go_roundg (gk - 1)
      case measure => have := hgk.out; omega
      case rel => exact ⟨j + 1, by have := hgk.out; show gk - 1 + (j + 1) = _; omega, by omega, by go_num, Lib.hid (Hset.out _)⟩
    · obtain rfl : nU = j := by omega
      clear hgk
      go_wp2_with fail
      go_loopg [21] nP (fun gk i wr => ∃ j : Nat, Hid (gk + j = nP) ∧ j ≤ nP ∧ i = .int .i64 (j : Int) ∧ Hid (SpoilT w8 Bd AU nP cP oU AE nU cE zu #[.int .u16 U.sp, .int .u16 U.dp, .int .u32 U.sq, .int .u32 U.ak, .int .u8 U.fl, .int .u16 U.wn, .int .u16 U.ug, .slice AU nP cP, .slice AE nU cE] wr))
      case atStart => exact ⟨0, rfl, Nat.zero_le _, rfl, hsp⟩
      case round =>
        clear hsp p0 p1 p2 p3 p4 p5 p6 p7 p8
        obtain ⟨j, hgk, hj, rfl, hsp⟩ := hrel
        obtain ⟨p0, p1, p2, p3, p4, p5, p6, p7, p8⟩ := seg_cells hsp.out.blk
        by_cases hjm : j < nP
        · obtain ⟨b1, q1, hrun1, hb1, hk1, hd1⟩ := hsp.out.row.rd.index (c := cP) hjm
          have Hmem := Lib.hid (show oU.getD j .none ∈ oU by have := HlenO.out; simp only [List.getD, List.getElem?_eq_getElem (show j < oU.length by omega), Option.getD_some]; exact List.getElem_mem _)
          obtain ⟨o, eo⟩ : ∃ o, oU.getD j .none = o := ⟨_, rfl⟩
          have Eo := Lib.hid eo
          rw [eo] at hd1 Hmem
          obtain ⟨kd1, Ao, no, co⟩ := o
          simp only at hd1
          have hno : no ≤ 9223372036854775807 := by
            obtain ⟨l', h'⟩ := hsp.out.data _ Hmem.out
            have := h'.cap; have := h'.capMax; unfold maxLen at this; simp only at *; omega
          clear hk1 eo
          go_wp2_with fail
          go_loopg [22] no (fun gk2 i wr => ∃ t : Nat, Hid (gk2 + t = no) ∧ t ≤ no ∧ i = .int .i64 (t : Int) ∧ Hid (SpoilT w8 Bd AU nP cP oU AE nU cE zu #[.int .u16 U.sp, .int .u16 U.dp, .int .u32 U.sq, .int .u32 U.ak, .int .u8 U.fl, .int .u16 U.wn, .int .u16 U.ug, .slice AU nP cP, .slice AE nU cE] wr))
          case atStart => exact ⟨0, rfl, Nat.zero_le _, rfl, hsp⟩
          case round =>
            clear hsp hb1 hd1 hrun1 p0 p1 p2 p3 p4 p5 p6 p7 p8
            obtain ⟨k, hgt, ht, rfl, hsp⟩ := hrel
            obtain ⟨p0, p1, p2, p3, p4, p5, p6, p7, p8⟩ := seg_cells hsp.out.blk
            obtain ⟨b1, q1, hrun1, hb1, hk1, hd1⟩ := hsp.out.row.rd.index (c := cP) hjm
            rw [Eo.out] at hd1
            simp only at hd1
            by_cases htn : k < no
            · obtain ⟨l', h'⟩ := hsp.out.data _ Hmem.out
              simp only at h'
              obtain ⟨g, eA, hgB, hgl⟩ := h'.addr (by omega)
              rw [eA] at h'
              obtain ⟨hrun2, hc2, hf2⟩ := index_own h' htn
              have Hset := Lib.hid (fun y => hsp.out.set_ h' k y)
              subst eA
              clear hk1 h' hsp
              go_wp2_with fail
              go_roundg (gk - 1)
              case measure => have := hgt.out; omega
              case rel => exact ⟨k + 1, by have := hgt.out; show gk - 1 + (k + 1) = _; omega, by omega, by go_num, Lib.hid (Hset.out _)⟩
            · obtain rfl : no = k := by omega
              go_wp2_with fail
              go_roundg (nP - (j + 1))
              case measure => have := hgk.out; omega
              case rel => exact ⟨j + 1, (show nP - (j + 1) + (j + 1) = nP by omega), by omega, by go_num, hsp⟩
        · obtain rfl : nP = j := by omega
          have hlow := hsp.out.low
          rw [← EBd.out] at hlow
          have HP := Lib.hid (HP.out.trans hlow)
          clear hsp hlow hgk Hsp
          obtain ⟨mb, emb⟩ : ∃ b, mayT s = b := ⟨_, rfl⟩
          obtain ⟨sm, esm⟩ : ∃ b, segSame s t = b := ⟨_, rfl⟩
          obtain ⟨ln, eln⟩ : ∃ n, lenS s.fl nD = n := ⟨_, rfl⟩
          obtain ⟨sB, esB⟩ : ∃ q, strOfNums lb = q := ⟨_, rfl⟩
          have HS4 := Lib.hid (show ∀ W, Below w4.heap.size w4 W → SegRd W s AO nO cO oss AD nD cD from fun W h => HS.out _ (below_trans Hb.out h))
          have HT4 := Lib.hid (show ∀ W, Below w4.heap.size w4 W → SegRd W t AO' nO' cO' oss' AD' nD' cD' from fun W h => HT.out _ (below_trans Hb.out h))
          have M1 := Lib.hid (show ∀ W, Below w4.heap.size w4 W → Calls Try.prog 20 #[.agg #[.int .u16 s.sp, .int .u16 s.dp, .int .u32 s.sq, .int .u32 s.ak, .int .u8 s.fl, .int .u16 s.wn, .int .u16 s.ug, .slice AO nO cO, .slice AD nD cD]] W (OptBool mb W) from fun W h => by rw [← emb]; exact may_seg s AO nO cO oss AD nD cD W (by have := HnO.out; omega) (by have := HnO.out; omega) (HS4.out W h))
          have M2 := Lib.hid (show ∀ W, Below w4.heap.size w4 W → Calls Try.prog 21 #[.agg #[.int .u16 s.sp, .int .u16 s.dp, .int .u32 s.sq, .int .u32 s.ak, .int .u8 s.fl, .int .u16 s.wn, .int .u16 s.ug, .slice AO nO cO, .slice AD nD cD]] W (OptBool mb W) from fun W h => by rw [← emb, ← may_both]; exact rmay6_any s AO nO cO oss AD nD cD W (by have := HnO.out; omega) (by have := HnO.out; omega) (HS4.out W h))
          have S1 := Lib.hid (show ∀ W, Below w4.heap.size w4 W → Calls Try.prog 22 #[.agg #[.int .u16 s.sp, .int .u16 s.dp, .int .u32 s.sq, .int .u32 s.ak, .int .u8 s.fl, .int .u16 s.wn, .int .u16 s.ug, .slice AO nO cO, .slice AD nD cD], .agg #[.int .u16 t.sp, .int .u16 t.dp, .int .u32 t.sq, .int .u32 t.ak, .int .u8 t.fl, .int .u16 t.wn, .int .u16 t.ug, .slice AO' nO' cO', .slice AD' nD' cD']] W (OptBool sm W) from fun W h => by rw [← esm]; exact same6_any s t AO AO' nO cO nO' cO' oss oss' AD AD' nD cD nD' cD' W (by have := HnO.out; omega) (HS4.out W h) (HT4.out W h))
          have S2 := Lib.hid (show ∀ W, Below w4.heap.size w4 W → Calls Try.prog 19 #[.agg #[.int .u16 s.sp, .int .u16 s.dp, .int .u32 s.sq, .int .u32 s.ak, .int .u8 s.fl, .int .u16 s.wn, .int .u16 s.ug, .slice AO nO cO, .slice AD nD cD], .agg #[.int .u16 t.sp, .int .u16 t.dp, .int .u32 t.sq, .int .u32 t.ak, .int .u8 t.fl, .int .u16 t.wn, .int .u16 t.ug, .slice AO' nO' cO', .slice AD' nD' cD']] W (OptBool sm W) from fun W h => by rw [← esm]; exact rsame6_any s t AO AO' nO cO nO' cO' oss oss' AD AD' nD cD nD' cD' W (by have := HnO.out; omega) (HS4.out W h) (HT4.out W h))
          have L1 := Lib.hid (show ∀ W, Calls Try.prog 23 #[.agg #[.int .u16 s.sp, .int .u16 s.dp, .int .u32 s.sq, .int .u32 s.ak, .int .u8 s.fl, .int .u16 s.wn, .int .u16 s.ug, .slice AO nO cO, .slice AD nD cD]] W (fun e w' => e = .returned (.int .u32 ln) ∧ Below W.heap.size W w') from fun W => by rw [← eln]; exact length_any s AO nO cO AD nD cD W Hfl.out)
          have L2 := Lib.hid (show ∀ W, Calls Try.prog 24 #[.agg #[.int .u16 s.sp, .int .u16 s.dp, .int .u32 s.sq, .int .u32 s.ak, .int .u8 s.fl, .int .u16 s.wn, .int .u16 s.ug, .slice AO nO cO, .slice AD nD cD]] W (fun e w' => e = .returned (.int .u32 ln) ∧ Below W.heap.size W w') from fun W => by rw [← eln]; exact rlength_any s AO nO cO AD nD cD W Hfl.out)
          have HK := Lib.hid (show ∀ w', Below w4.heap.size w4 w' → (w'.cell? ⟨z, 0, none⟩ = some (.int .u16 s.sp) ∧ w'.cell? ⟨z, 1, none⟩ = some (.int .u16 s.dp) ∧ w'.cell? ⟨z, 2, none⟩ = some (.int .u32 s.sq) ∧ w'.cell? ⟨z, 3, none⟩ = some (.int .u32 s.ak) ∧ w'.cell? ⟨z, 4, none⟩ = some (.int .u8 s.fl) ∧ w'.cell? ⟨z, 5, none⟩ = some (.int .u16 s.wn) ∧ w'.cell? ⟨z, 6, none⟩ = some (.int .u16 s.ug) ∧ w'.cell? ⟨z, 7, none⟩ = some (.slice AO nO cO) ∧ w'.cell? ⟨z, 8, none⟩ = some (.slice AD nD cD)) ∧ (w'.cell? ⟨z + 1, 0, none⟩ = some (.int .u16 t.sp) ∧ w'.cell? ⟨z + 1, 1, none⟩ = some (.int .u16 t.dp) ∧ w'.cell? ⟨z + 1, 2, none⟩ = some (.int .u32 t.sq) ∧ w'.cell? ⟨z + 1, 3, none⟩ = some (.int .u32 t.ak) ∧ w'.cell? ⟨z + 1, 4, none⟩ = some (.int .u8 t.fl) ∧ w'.cell? ⟨z + 1, 5, none⟩ = some (.int .u16 t.wn) ∧ w'.cell? ⟨z + 1, 6, none⟩ = some (.int .u16 t.ug) ∧ w'.cell? ⟨z + 1, 7, none⟩ = some (.slice AO' nO' cO') ∧ w'.cell? ⟨z + 1, 8, none⟩ = some (.slice AD' nD' cD')) ∧ (convert 25 9 (.slice A7 nb c7)).run Try.prog w' = .ok (.string sB) w' ∧ (convert 25 9 (.slice Ab nb cb)).run Try.prog w' = .ok (.string sB) w' from
            fun w' hb => ⟨HKs.out _ (below_trans Hb.out hb), HKt.out _ (below_trans Hb.out hb), by rw [← esB]; exact conv_rd (RM.out.below hb) c7, by rw [← esB]; exact conv_rd (HR.out _ (below_trans Hb.out hb)) cb⟩)
          have hmm : (mb == mb) = true := by simp
          have hss : (sm == sm) = true := by simp
          have hll : (ln == ln) = true := by simp
          clear emb esm eln esB
          go_upto_region 19 with (fail)
          clear p0 p1 p2 p3 p4 p5 p6 p7 p8
          refine wp_region_noPanic ?_
          have HP := Lib.hid (below_trans HP.out (Below.drew (Below.refl _ _)))
          as_aux_lemma =>
            refine wp_region_held_drew (S := fun w' => (w'.cell? ⟨z, 0, none⟩ = some (.int .u16 s.sp) ∧ w'.cell? ⟨z, 1, none⟩ = some (.int .u16 s.dp) ∧ w'.cell? ⟨z, 2, none⟩ = some (.int .u32 s.sq) ∧ w'.cell? ⟨z, 3, none⟩ = some (.int .u32 s.ak) ∧ w'.cell? ⟨z, 4, none⟩ = some (.int .u8 s.fl) ∧ w'.cell? ⟨z, 5, none⟩ = some (.int .u16 s.wn) ∧ w'.cell? ⟨z, 6, none⟩ = some (.int .u16 s.ug) ∧ w'.cell? ⟨z, 7, none⟩ = some (.slice AO nO cO) ∧ w'.cell? ⟨z, 8, none⟩ = some (.slice AD nD cD)) ∧ (w'.cell? ⟨z + 1, 0, none⟩ = some (.int .u16 t.sp) ∧ w'.cell? ⟨z + 1, 1, none⟩ = some (.int .u16 t.dp) ∧ w'.cell? ⟨z + 1, 2, none⟩ = some (.int .u32 t.sq) ∧ w'.cell? ⟨z + 1, 3, none⟩ = some (.int .u32 t.ak) ∧ w'.cell? ⟨z + 1, 4, none⟩ = some (.int .u8 t.fl) ∧ w'.cell? ⟨z + 1, 5, none⟩ = some (.int .u16 t.wn) ∧ w'.cell? ⟨z + 1, 6, none⟩ = some (.int .u16 t.ug) ∧ w'.cell? ⟨z + 1, 7, none⟩ = some (.slice AO' nO' cO') ∧ w'.cell? ⟨z + 1, 8, none⟩ = some (.slice AD' nD' cD')) ∧ (convert 25 9 (.slice A7 nb c7)).run Try.prog w' = .ok (.string sB) w' ∧ (convert 25 9 (.slice Ab nb cb)).run Try.prog w' = .ok (.string sB) w') (by kernel_rfl) (HK.out _ HP.out) (fun hHeld => ?_)
            refine wpAnyH_take (i := 0) (oi := { dst := some 117, op := Go.Op.move (Go.Operand.tmp 11), type := 25, pos := "law.go:35", after := #[], guard := none }) (v := ?_) rfl (by kernel_rfl) (by kernel_rfl) (by kernel_rfl) (fun _ _ _ h => h) (Or.inl ⟨by rfl, ?_⟩) (by assumption) ?_
            rotate_left 1
            · intro w' hSw; (go_simp <;> (with_reducible rfl))
            (try simp only [Act.put, List.setIfInBounds_toArray, List.set_cons_zero, List.set_cons_succ])
            refine wpAnyH_take (i := 1) (oi := { dst := some 118, op := Go.Op.convert 25 9 (Go.Operand.tmp 117), type := 9, pos := "law.go:35", after := #[{ on := 0, ground := Go.Ground.data }], guard := none }) (v := ?_) rfl (by kernel_rfl) (by kernel_rfl) (by kernel_rfl) (fun _ _ _ h => h) (Or.inl ⟨by rfl, ?_⟩) (by assumption) ?_
            rotate_left 1
            · intro w' hSw; (go_simp <;> (with_reducible rfl))
            (try simp only [Act.put, List.setIfInBounds_toArray, List.set_cons_zero, List.set_cons_succ])
            refine wpAnyH_take (i := 2) (oi := { dst := some 119, op := Go.Op.move (Go.Operand.tmp 4), type := 25, pos := "law.go:35", after := #[], guard := none }) (v := ?_) rfl (by kernel_rfl) (by kernel_rfl) (by kernel_rfl) (fun _ _ _ h => h) (Or.inl ⟨by rfl, ?_⟩) (by assumption) ?_
            rotate_left 1
            · intro w' hSw; (go_simp <;> (with_reducible rfl))
            (try simp only [Act.put, List.setIfInBounds_toArray, List.set_cons_zero, List.set_cons_succ])
            refine wpAnyH_take (i := 3) (oi := { dst := some 120, op := Go.Op.convert 25 9 (Go.Operand.tmp 119), type := 9, pos := "law.go:35", after := #[{ on := 2, ground := Go.Ground.data }], guard := none }) (v := ?_) rfl (by kernel_rfl) (by kernel_rfl) (by kernel_rfl) (fun _ _ _ h => h) (Or.inl ⟨by rfl, ?_⟩) (by assumption) ?_
            rotate_left 1
            · intro w' hSw; (go_simp <;> (with_reducible rfl))
            (try simp only [Act.put, List.setIfInBounds_toArray, List.set_cons_zero, List.set_cons_succ])
            refine wpAnyH_take (i := 4) (oi := { dst := some 121, op := Go.Op.binOp Go.BinOp.eql 9 (Go.Operand.tmp 118) (Go.Operand.tmp 120) 9, type := 4, pos := "law.go:35", after := #[{ on := 1, ground := Go.Ground.data }, { on := 3, ground := Go.Ground.data }], guard := none }) (v := ?_) rfl (by kernel_rfl) (by kernel_rfl) (by kernel_rfl) (fun _ _ _ h => h) (Or.inl ⟨by rfl, ?_⟩) (by assumption) ?_
            rotate_left 1
            · intro w' hSw; (go_simp <;> (with_reducible rfl))
            (try simp only [Act.put, List.setIfInBounds_toArray, List.set_cons_zero, List.set_cons_succ])
            refine wpAnyH_take (i := 5) (oi := { dst := some 122, op := Go.Op.move (Go.Operand.tmp 121), type := 4, pos := "law.go:35", after := #[{ on := 4, ground := Go.Ground.data }], guard := none }) (v := ?_) rfl (by kernel_rfl) (by kernel_rfl) (by kernel_rfl) (fun _ _ _ h => h) (Or.inl ⟨by rfl, ?_⟩) (by assumption) ?_
            rotate_left 1
            · intro w' hSw; (go_simp <;> (with_reducible rfl))
            (try simp only [Act.put, List.setIfInBounds_toArray, List.set_cons_zero, List.set_cons_succ])
            refine wpAnyH_take (i := 6) (oi := { dst := some 123, op := Go.Op.load 27 (Go.Operand.tmp 7), type := 27, pos := "law.go:35", after := #[{ on := 5, ground := Go.Ground.guard }], guard := some (5, true) }) (v := ?_) rfl (by kernel_rfl) (by kernel_rfl) (by kernel_rfl) (fun _ _ _ h => h) (Or.inl ⟨by rfl, ?_⟩) (by assumption) ?_
            rotate_left 1
            · intro w' hSw; (go_simp <;> (with_reducible rfl))
            (try simp only [Act.put, List.setIfInBounds_toArray, List.set_cons_zero, List.set_cons_succ])
            refine wpAnyH_take (i := 8) (oi := { dst := some 125, op := Go.Op.load 27 (Go.Operand.tmp 7), type := 27, pos := "law.go:35", after := #[{ on := 5, ground := Go.Ground.guard }], guard := some (5, true) }) (v := ?_) rfl (by kernel_rfl) (by kernel_rfl) (by kernel_rfl) (fun _ _ _ h => h) (Or.inl ⟨by rfl, ?_⟩) (by assumption) ?_
            rotate_left 1
            · intro w' hSw; (go_simp <;> (with_reducible rfl))
            (try simp only [Act.put, List.setIfInBounds_toArray, List.set_cons_zero, List.set_cons_succ])
            refine wpAnyH_ready (rs := [7]) (by kernel_rfl) (by simp) ?_
            refine AllReadyH.cons (o := { dst := some 124, op := Go.Op.call { callee := Go.Callee.value (Go.Operand.func 20), args := #[Go.Operand.tmp 123], argTypes := #[27] }, type := 4, pos := "law.go:35", after := #[{ on := 6, ground := Go.Ground.data }, { on := 5, ground := Go.Ground.chain }, { on := 5, ground := Go.Ground.guard }], guard := some (5, true) }) rfl (fun K hK => ?_) AllReadyH.nil
            go_simp
            (go_at_call 20; refine (M1.out _ HP.out).mono ?_; rintro e wA ⟨rfl, hbn⟩; have HP := Lib.hid (below_trans HP.out hbn); clear hbn)
            refine hK.out _ _ ?_ (fun hHeld => ?_)
            · exact HK.out _ HP.out
            clear hK K
            (try simp only [Act.put, List.setIfInBounds_toArray, List.set_cons_zero, List.set_cons_succ])
            refine wpAnyH_ready (rs := [9]) (by kernel_rfl) (by simp) ?_
            refine AllReadyH.cons (o := { dst := some 126, op := Go.Op.call { callee := Go.Callee.value (Go.Operand.func 21), args := #[Go.Operand.tmp 125], argTypes := #[27] }, type := 4, pos := "law.go:35", after := #[{ on := 8, ground := Go.Ground.data }, { on := 7, ground := Go.Ground.chain }, { on := 5, ground := Go.Ground.guard }], guard := some (5, true) }) rfl (fun K hK => ?_) AllReadyH.nil
            go_simp
            (go_at_call 21; refine (M2.out _ HP.out).mono ?_; rintro e wB ⟨rfl, hbn⟩; have HP := Lib.hid (below_trans HP.out hbn); clear hbn)
            refine hK.out _ _ ?_ (fun hHeld => ?_)
            · exact HK.out _ HP.out
            clear hK K
            (try simp only [Act.put, List.setIfInBounds_toArray, List.set_cons_zero, List.set_cons_succ])
            refine wpAnyH_take (i := 10) (oi := { dst := some 127, op := Go.Op.binOp Go.BinOp.eql 4 (Go.Operand.tmp 124) (Go.Operand.tmp 126) 4, type := 4, pos := "law.go:35", after := #[{ on := 7, ground := Go.Ground.data }, { on := 9, ground := Go.Ground.data }, { on := 5, ground := Go.Ground.guard }], guard := some (5, true) }) (v := ?_) rfl (by kernel_rfl) (by kernel_rfl) (by kernel_rfl) (fun _ _ _ h => h) (Or.inl ⟨by rfl, ?_⟩) (by assumption) ?_
            rotate_left 1
            · intro w' hSw; (go_simp <;> (with_reducible rfl))
            (try simp only [Act.put, List.setIfInBounds_toArray, List.set_cons_zero, List.set_cons_succ])
            refine wpAnyH_take (i := 11) (oi := { dst := some 128, op := Go.Op.pick (Go.Operand.tmp 122) (Go.Operand.tmp 127) (Go.Operand.const (Go.Value.bool false)), type := 4, pos := "law.go:35", after := #[{ on := 5, ground := Go.Ground.data }, { on := 10, ground := Go.Ground.data }], guard := none }) (v := ?_) rfl (by kernel_rfl) (by kernel_rfl) (by kernel_rfl) (fun _ _ _ h => h) (Or.inl ⟨by rfl, ?_⟩) (by assumption) ?_
            rotate_left 1
            · intro w' hSw; (go_simp <;> (with_reducible rfl))
            (try simp only [Act.put, List.setIfInBounds_toArray, List.set_cons_zero, List.set_cons_succ])
            refine wpAnyH_take (i := 12) (oi := { dst := some 129, op := Go.Op.move (Go.Operand.tmp 128), type := 4, pos := "law.go:35", after := #[{ on := 11, ground := Go.Ground.data }, { on := 9, ground := Go.Ground.chain }], guard := none }) (v := ?_) rfl (by kernel_rfl) (by kernel_rfl) (by kernel_rfl) (fun _ _ _ h => h) (Or.inl ⟨by rfl, ?_⟩) (by assumption) ?_
            rotate_left 1
            · intro w' hSw; (go_simp <;> (with_reducible rfl))
            (try simp only [Act.put, List.setIfInBounds_toArray, List.set_cons_zero, List.set_cons_succ])
            refine wpAnyH_take (i := 13) (oi := { dst := some 130, op := Go.Op.load 27 (Go.Operand.tmp 7), type := 27, pos := "law.go:35", after := #[{ on := 12, ground := Go.Ground.guard }], guard := some (12, true) }) (v := ?_) rfl (by kernel_rfl) (by kernel_rfl) (by kernel_rfl) (fun _ _ _ h => h) (Or.inl ⟨by rfl, ?_⟩) (by assumption) ?_
            rotate_left 1
            · intro w' hSw; (go_simp <;> (with_reducible rfl))
            (try simp only [Act.put, List.setIfInBounds_toArray, List.set_cons_zero, List.set_cons_succ])
            refine wpAnyH_take (i := 14) (oi := { dst := some 131, op := Go.Op.load 27 (Go.Operand.tmp 8), type := 27, pos := "law.go:35", after := #[{ on := 12, ground := Go.Ground.guard }], guard := some (12, true) }) (v := ?_) rfl (by kernel_rfl) (by kernel_rfl) (by kernel_rfl) (fun _ _ _ h => h) (Or.inl ⟨by rfl, ?_⟩) (by assumption) ?_
            rotate_left 1
            · intro w' hSw; (go_simp <;> (with_reducible rfl))
            (try simp only [Act.put, List.setIfInBounds_toArray, List.set_cons_zero, List.set_cons_succ])
            refine wpAnyH_take (i := 16) (oi := { dst := some 133, op := Go.Op.load 27 (Go.Operand.tmp 7), type := 27, pos := "law.go:35", after := #[{ on := 12, ground := Go.Ground.guard }], guard := some (12, true) }) (v := ?_) rfl (by kernel_rfl) (by kernel_rfl) (by kernel_rfl) (fun _ _ _ h => h) (Or.inl ⟨by rfl, ?_⟩) (by assumption) ?_
            rotate_left 1
            · intro w' hSw; (go_simp <;> (with_reducible rfl))
            (try simp only [Act.put, List.setIfInBounds_toArray, List.set_cons_zero, List.set_cons_succ])
            refine wpAnyH_take (i := 17) (oi := { dst := some 134, op := Go.Op.load 27 (Go.Operand.tmp 8), type := 27, pos := "law.go:35", after := #[{ on := 12, ground := Go.Ground.guard }], guard := some (12, true) }) (v := ?_) rfl (by kernel_rfl) (by kernel_rfl) (by kernel_rfl) (fun _ _ _ h => h) (Or.inl ⟨by rfl, ?_⟩) (by assumption) ?_
            rotate_left 1
            · intro w' hSw; (go_simp <;> (with_reducible rfl))
            (try simp only [Act.put, List.setIfInBounds_toArray, List.set_cons_zero, List.set_cons_succ])
            refine wpAnyH_ready (rs := [15]) (by kernel_rfl) (by simp) ?_
            refine AllReadyH.cons (o := { dst := some 132, op := Go.Op.call { callee := Go.Callee.value (Go.Operand.func 22), args := #[Go.Operand.tmp 130, Go.Operand.tmp 131], argTypes := #[27, 27] }, type := 4, pos := "law.go:35", after := #[{ on := 13, ground := Go.Ground.data }, { on := 14, ground := Go.Ground.data }, { on := 12, ground := Go.Ground.chain }, { on := 12, ground := Go.Ground.guard }], guard := some (12, true) }) rfl (fun K hK => ?_) AllReadyH.nil
            go_simp
            (go_at_call 22; refine (S1.out _ HP.out).mono ?_; rintro e wC ⟨rfl, hbn⟩; have HP := Lib.hid (below_trans HP.out hbn); clear hbn)
            refine hK.out _ _ ?_ (fun hHeld => ?_)
            · exact HK.out _ HP.out
            clear hK K
            (try simp only [Act.put, List.setIfInBounds_toArray, List.set_cons_zero, List.set_cons_succ])
            refine wpAnyH_ready (rs := [18]) (by kernel_rfl) (by simp) ?_
            refine AllReadyH.cons (o := { dst := some 135, op := Go.Op.call { callee := Go.Callee.value (Go.Operand.func 19), args := #[Go.Operand.tmp 133, Go.Operand.tmp 134], argTypes := #[27, 27] }, type := 4, pos := "law.go:35", after := #[{ on := 16, ground := Go.Ground.data }, { on := 17, ground := Go.Ground.data }, { on := 15, ground := Go.Ground.chain }, { on := 12, ground := Go.Ground.guard }], guard := some (12, true) }) rfl (fun K hK => ?_) AllReadyH.nil
            go_simp
            (go_at_call 19; refine (S2.out _ HP.out).mono ?_; rintro e wD ⟨rfl, hbn⟩; have HP := Lib.hid (below_trans HP.out hbn); clear hbn)
            refine hK.out _ _ ?_ (fun hHeld => ?_)
            · exact HK.out _ HP.out
            clear hK K
            (try simp only [Act.put, List.setIfInBounds_toArray, List.set_cons_zero, List.set_cons_succ])
            refine wpAnyH_take (i := 19) (oi := { dst := some 136, op := Go.Op.binOp Go.BinOp.eql 4 (Go.Operand.tmp 132) (Go.Operand.tmp 135) 4, type := 4, pos := "law.go:35", after := #[{ on := 15, ground := Go.Ground.data }, { on := 18, ground := Go.Ground.data }, { on := 12, ground := Go.Ground.guard }], guard := some (12, true) }) (v := ?_) rfl (by kernel_rfl) (by kernel_rfl) (by kernel_rfl) (fun _ _ _ h => h) (Or.inl ⟨by rfl, ?_⟩) (by assumption) ?_
            rotate_left 1
            · intro w' hSw; (go_simp <;> (with_reducible rfl))
            (try simp only [Act.put, List.setIfInBounds_toArray, List.set_cons_zero, List.set_cons_succ])
            refine wpAnyH_take (i := 20) (oi := { dst := some 137, op := Go.Op.pick (Go.Operand.tmp 129) (Go.Operand.tmp 136) (Go.Operand.const (Go.Value.bool false)), type := 4, pos := "law.go:35", after := #[{ on := 12, ground := Go.Ground.data }, { on := 19, ground := Go.Ground.data }], guard := none }) (v := ?_) rfl (by kernel_rfl) (by kernel_rfl) (by kernel_rfl) (fun _ _ _ h => h) (Or.inl ⟨by rfl, ?_⟩) (by assumption) ?_
            rotate_left 1
            · intro w' hSw; (go_simp <;> (with_reducible rfl))
            (try simp only [Act.put, List.setIfInBounds_toArray, List.set_cons_zero, List.set_cons_succ])
            refine wpAnyH_take (i := 21) (oi := { dst := some 138, op := Go.Op.move (Go.Operand.tmp 137), type := 4, pos := "law.go:35", after := #[{ on := 20, ground := Go.Ground.data }, { on := 18, ground := Go.Ground.chain }], guard := none }) (v := ?_) rfl (by kernel_rfl) (by kernel_rfl) (by kernel_rfl) (fun _ _ _ h => h) (Or.inl ⟨by rfl, ?_⟩) (by assumption) ?_
            rotate_left 1
            · intro w' hSw; (go_simp <;> (with_reducible rfl))
            (try simp only [Act.put, List.setIfInBounds_toArray, List.set_cons_zero, List.set_cons_succ])
            refine wpAnyH_take (i := 22) (oi := { dst := some 139, op := Go.Op.load 27 (Go.Operand.tmp 7), type := 27, pos := "law.go:35", after := #[{ on := 21, ground := Go.Ground.guard }], guard := some (21, true) }) (v := ?_) rfl (by kernel_rfl) (by kernel_rfl) (by kernel_rfl) (fun _ _ _ h => h) (Or.inl ⟨by rfl, ?_⟩) (by assumption) ?_
            rotate_left 1
            · intro w' hSw; (go_simp <;> (with_reducible rfl))
            (try simp only [Act.put, List.setIfInBounds_toArray, List.set_cons_zero, List.set_cons_succ])
            refine wpAnyH_take (i := 24) (oi := { dst := some 141, op := Go.Op.load 27 (Go.Operand.tmp 7), type := 27, pos := "law.go:35", after := #[{ on := 21, ground := Go.Ground.guard }], guard := some (21, true) }) (v := ?_) rfl (by kernel_rfl) (by kernel_rfl) (by kernel_rfl) (fun _ _ _ h => h) (Or.inl ⟨by rfl, ?_⟩) (by assumption) ?_
            rotate_left 1
            · intro w' hSw; (go_simp <;> (with_reducible rfl))
            (try simp only [Act.put, List.setIfInBounds_toArray, List.set_cons_zero, List.set_cons_succ])
            refine wpAnyH_ready (rs := [23]) (by kernel_rfl) (by simp) ?_
            refine AllReadyH.cons (o := { dst := some 140, op := Go.Op.call { callee := Go.Callee.value (Go.Operand.func 23), args := #[Go.Operand.tmp 139], argTypes := #[27] }, type := 22, pos := "law.go:35", after := #[{ on := 22, ground := Go.Ground.data }, { on := 21, ground := Go.Ground.chain }, { on := 21, ground := Go.Ground.guard }], guard := some (21, true) }) rfl (fun K hK => ?_) AllReadyH.nil
            go_simp
            (go_at_call 23; refine (L1.out _).mono ?_; rintro e wE ⟨rfl, hbn⟩; have HP := Lib.hid (below_trans HP.out hbn); clear hbn)
            refine hK.out _ _ ?_ (fun hHeld => ?_)
            · exact HK.out _ HP.out
            clear hK K
            (try simp only [Act.put, List.setIfInBounds_toArray, List.set_cons_zero, List.set_cons_succ])
            refine wpAnyH_ready (rs := [25]) (by kernel_rfl) (by simp) ?_
            refine AllReadyH.cons (o := { dst := some 142, op := Go.Op.call { callee := Go.Callee.value (Go.Operand.func 24), args := #[Go.Operand.tmp 141], argTypes := #[27] }, type := 22, pos := "law.go:35", after := #[{ on := 24, ground := Go.Ground.data }, { on := 23, ground := Go.Ground.chain }, { on := 21, ground := Go.Ground.guard }], guard := some (21, true) }) rfl (fun K hK => ?_) AllReadyH.nil
            go_simp
            (go_at_call 24; refine (L2.out _).mono ?_; rintro e wF ⟨rfl, hbn⟩; have HP := Lib.hid (below_trans HP.out hbn); clear hbn)
            refine hK.out _ _ ?_ (fun hHeld => ?_)
            · exact HK.out _ HP.out
            clear hK K
            (try simp only [Act.put, List.setIfInBounds_toArray, List.set_cons_zero, List.set_cons_succ])
            refine wpAnyH_take (i := 26) (oi := { dst := some 143, op := Go.Op.binOp Go.BinOp.eql 22 (Go.Operand.tmp 140) (Go.Operand.tmp 142) 22, type := 4, pos := "law.go:35", after := #[{ on := 23, ground := Go.Ground.data }, { on := 25, ground := Go.Ground.data }, { on := 21, ground := Go.Ground.guard }], guard := some (21, true) }) (v := ?_) rfl (by kernel_rfl) (by kernel_rfl) (by kernel_rfl) (fun _ _ _ h => h) (Or.inl ⟨by rfl, ?_⟩) (by assumption) ?_
            rotate_left 1
            · intro w' hSw; (go_simp <;> (with_reducible rfl))
            (try simp only [Act.put, List.setIfInBounds_toArray, List.set_cons_zero, List.set_cons_succ])
            refine wpAnyH_take (i := 27) (oi := { dst := some 144, op := Go.Op.pick (Go.Operand.tmp 138) (Go.Operand.tmp 143) (Go.Operand.const (Go.Value.bool false)), type := 4, pos := "law.go:35", after := #[{ on := 21, ground := Go.Ground.data }, { on := 26, ground := Go.Ground.data }], guard := none }) (v := ?_) rfl (by kernel_rfl) (by kernel_rfl) (by kernel_rfl) (fun _ _ _ h => h) (Or.inl ⟨by rfl, ?_⟩) (by assumption) ?_
            rotate_left 1
            · intro w' hSw; (go_simp <;> (with_reducible rfl))
            (try simp only [Act.put, List.setIfInBounds_toArray, List.set_cons_zero, List.set_cons_succ])
            refine wpAnyH_take (i := 28) (oi := { dst := some 145, op := Go.Op.move (Go.Operand.tmp 144), type := 4, pos := "law.go:35", after := #[{ on := 27, ground := Go.Ground.data }, { on := 25, ground := Go.Ground.chain }], guard := none }) (v := ?_) rfl (by kernel_rfl) (by kernel_rfl) (by kernel_rfl) (fun _ _ _ h => h) (Or.inl ⟨by rfl, ?_⟩) (by assumption) ?_
            rotate_left 1
            · intro w' hSw; (go_simp <;> (with_reducible rfl))
            (try simp only [Act.put, List.setIfInBounds_toArray, List.set_cons_zero, List.set_cons_succ])
            refine wpAnyH_ready (rs := [29]) (by kernel_rfl) (by simp) ?_
            refine AllReadyH.cons (o := { dst := some 146, op := Go.Op.call { callee := Go.Callee.value (Go.Operand.func 25), args := #[], argTypes := #[] }, type := 4, pos := "law.go:35", after := #[{ on := 28, ground := Go.Ground.chain }, { on := 28, ground := Go.Ground.guard }], guard := some (28, true) }) rfl (fun K hK => ?_) AllReadyH.nil
            go_simp
            (go_at_call 25; refine (wakes_any _).mono ?_; rintro e wG ⟨rfl, hbn⟩; have HP := Lib.hid (below_trans HP.out hbn); clear hbn)
            refine hK.out _ _ ?_ (fun hHeld => ?_)
            · exact HK.out _ HP.out
            clear hK K
            (try simp only [Act.put, List.setIfInBounds_toArray, List.set_cons_zero, List.set_cons_succ])
            refine wpAnyH_take (i := 30) (oi := { dst := some 147, op := Go.Op.pick (Go.Operand.tmp 145) (Go.Operand.tmp 146) (Go.Operand.const (Go.Value.bool false)), type := 4, pos := "law.go:35", after := #[{ on := 28, ground := Go.Ground.data }, { on := 29, ground := Go.Ground.data }], guard := none }) (v := ?_) rfl (by kernel_rfl) (by kernel_rfl) (by kernel_rfl) (fun _ _ _ h => h) (Or.inl ⟨by rfl, ?_⟩) (by assumption) ?_
            rotate_left 1
            · intro w' hSw; (go_simp <;> (with_reducible rfl))
            (try simp only [Act.put, List.setIfInBounds_toArray, List.set_cons_zero, List.set_cons_succ])
            refine wpAnyH_take (i := 31) (oi := { dst := some 10, op := Go.Op.assign (Go.Operand.tmp 147), type := 4, pos := "law.go:35", after := #[{ on := 30, ground := Go.Ground.data }, { on := 29, ground := Go.Ground.chain }, { on := 0, ground := Go.Ground.phase }, { on := 1, ground := Go.Ground.phase }, { on := 2, ground := Go.Ground.phase }, { on := 3, ground := Go.Ground.phase }, { on := 4, ground := Go.Ground.phase }, { on := 5, ground := Go.Ground.phase }, { on := 6, ground := Go.Ground.phase }, { on := 7, ground := Go.Ground.phase }, { on := 8, ground := Go.Ground.phase }, { on := 9, ground := Go.Ground.phase }, { on := 10, ground := Go.Ground.phase }, { on := 11, ground := Go.Ground.phase }, { on := 12, ground := Go.Ground.phase }, { on := 13, ground := Go.Ground.phase }, { on := 14, ground := Go.Ground.phase }, { on := 15, ground := Go.Ground.phase }, { on := 16, ground := Go.Ground.phase }, { on := 17, ground := Go.Ground.phase }, { on := 18, ground := Go.Ground.phase }, { on := 19, ground := Go.Ground.phase }, { on := 20, ground := Go.Ground.phase }, { on := 21, ground := Go.Ground.phase }, { on := 22, ground := Go.Ground.phase }, { on := 23, ground := Go.Ground.phase }, { on := 24, ground := Go.Ground.phase }, { on := 25, ground := Go.Ground.phase }, { on := 26, ground := Go.Ground.phase }, { on := 27, ground := Go.Ground.phase }, { on := 28, ground := Go.Ground.phase }, { on := 29, ground := Go.Ground.phase }, { on := 30, ground := Go.Ground.phase }], guard := none }) (v := ?_) rfl (by kernel_rfl) (by kernel_rfl) (by kernel_rfl) (fun _ _ _ h => h) (Or.inl ⟨by rfl, ?_⟩) (by assumption) ?_
            rotate_left 1
            · intro w' hSw; (go_simp <;> (with_reducible rfl))
            (try simp only [Act.put, List.setIfInBounds_toArray, List.set_cons_zero, List.set_cons_succ])
            refine wpAnyH_done (by kernel_rfl) ?_ _
            refine NoPanic.normal ?_
            have Hb := Lib.hid (below_trans HbW.out (below_trans Hb.out HP.out))
            go_wp2_with fail
            go_ret
            exact ⟨rfl, Hb.out⟩
theorem own : ownKnob Try.prog.godebug = none := by kernel_rfl
theorem laidOut : laidOutB Try.prog = true := by kernel_rfl

set_option maxRecDepth 100000 in
theorem lifted (os : Os) (started : os.Started) (H : Type) (enc : TypeId × Value → H) (F : Stop.Interp) :
    ReturnsInHanded {} Try.checked os 3 .any ((Rows.OpenSpec.upto Rows.tcpCallsSpec).pre6 enc Try.prog Try.f3 Rows.tcpCallsUptoRow.domain false) (((Rows.OpenSpec.upto Rows.tcpCallsSpec).at F).post enc Try.prog Try.f3 false true false false) := by
  refine returnsInHanded_of_cond (C := Try.checked) (s := Rows.OpenSpec.upto Rows.tcpCallsSpec) (k := Rows.uptoSmall) rfl own started (by kernel_rfl) Try.func3
    (OpenSpec.witness (enc := enc) (C := Try.checked) (s := Rows.OpenSpec.upto Rows.tcpCallsSpec) (k := Rows.uptoSmall) rfl false ⟨#[], #[.int .u32 0, .int .u32 0, (.agg #[.int .u16 0, .int .u16 0, .int .u32 0, .int .u32 0, .int .u8 0, .int .u16 0, .int .u16 0, .slice none 0 0, .slice none 0 0]), (.agg #[.int .u16 0, .int .u16 0, .int .u32 0, .int .u32 0, .int .u8 0, .int .u16 0, .int .u16 0, .slice none 0 0, .slice none 0 0]), (.slice none 0 0)], []⟩ 8 (by kernel_rfl) (by kernel_rfl) (by kernel_rfl) (x := ([.lit (.int .u32 0), .lit (.int .u32 0), (.agg [.lit (.int .u16 0), .lit (.int .u16 0), .lit (.int .u32 0), .lit (.int .u32 0), .lit (.int .u8 0), .lit (.int .u16 0), .lit (.int .u16 0), .nil, .nil]), (.agg [.lit (.int .u16 0), .lit (.int .u16 0), .lit (.int .u32 0), .lit (.int .u32 0), .lit (.int .u8 0), .lit (.int .u16 0), .lit (.int .u16 0), .nil, .nil]), .nil], [], [])) (by kernel_rfl) rfl (by kernel_rfl)) ?_
  intro W base args ds gs before hval0 hW hcnd hk _
  have hbulk := of_decide_eq_true hk
  have hval : ∀ (j : Nat) t v, Try.f3.params[j]? = some t → args[j]? = some v → Value.okWide Try.prog W .any base t v := hval0
  have hW' := hW
  obtain ⟨p, q, hA0, hV, rfl, hfz, hnd⟩ := hW
  have hA : DataW.TrodAll enc Try.prog W 0 (fun _ => true) true Try.f3.params.toList args.toList ds p := hA0
  rw [Try.params3] at hA hval
  obtain ⟨v0, vs0, d0, ds0, p0, q0, hargs, rfl, rfl, h0, r0⟩ := trodAll_cons hA
  obtain ⟨v1, vs1, d1, ds1, p1, q1, rfl, rfl, rfl, h1, r1⟩ := trodAll_cons r0
  obtain ⟨v2, vs2, d2, ds2, p2, q2, rfl, rfl, rfl, h2, r2⟩ := trodAll_cons r1
  obtain ⟨v3, vs3, d3, ds3, p3, q3, rfl, rfl, rfl, h3, r3⟩ := trodAll_cons r2
  obtain ⟨v4, vs4, d4, ds4, p4, q4, rfl, rfl, rfl, h4, r4⟩ := trodAll_cons r3
  obtain ⟨rfl, rfl, rfl⟩ := trodAll_nil r4
  obtain rfl : args = #[v0, v1, v2, v3, v4] := by cases args; simp_all
  obtain ⟨rfl, rfl⟩ := trodVars_none hV
  simp only [List.append_nil, Rows.uptoBulkAll] at hbulk
  obtain ⟨a0, rfl, rfl, rfl, w0⟩ := open_int Try.underlying22 (hval 0 22 v0 rfl rfl) h0
  obtain ⟨a1, rfl, rfl, rfl, w1⟩ := open_int Try.underlying22 (hval 1 22 v1 rfl rfl) h1
  have k2 := seg_upto (hval 2 27 v2 rfl rfl) h2 (by omega)
  have lt2 : ∀ x ∈ p2, x.block < W.heap.size := by obtain ⟨m, hm⟩ := h2; exact DataW.trod_lt m _ _ _ hm
  have k3 := seg_upto (hval 3 27 v3 rfl rfl) h3 (by omega)
  have lt3 : ∀ x ∈ p3, x.block < W.heap.size := by obtain ⟨m, hm⟩ := h3; exact DataW.trod_lt m _ _ _ hm
  have k4 := bytes_upto (hval 4 25 v4 rfl rfl) h4 (by omega)
  have lt4 : ∀ x ∈ p4, x.block < W.heap.size := by obtain ⟨m, hm⟩ := h4; exact DataW.trod_lt m _ _ _ hm
  clear hA0 hval0
  refine (walk W a0 w0 a1 w1 v2 k2 v3 k3 v4 k4).mono fun e W' ⟨he, bel⟩ => ?_
  subst he
  exact ⟨_, rfl, _, _, _, [], _, [], hW', trodAll_mk1 (shut_bool Try.underlying4 _), (trodAll_cons_mk (shut_int Try.underlying22 w0) (trodAll_cons_mk (shut_int Try.underlying22 w1) (trodAll_cons_mk (Below.trod laidOut (by kernel_rfl) (of_decide_eq_true (by kernel_rfl)) h2 bel lt2) (trodAll_cons_mk (Below.trod laidOut (by kernel_rfl) (of_decide_eq_true (by kernel_rfl)) h3 bel lt3) (trodAll_cons_mk (Below.trod laidOut (by kernel_rfl) (of_decide_eq_true (by kernel_rfl)) h4 bel lt4) trodAll_mk0))))), rfl, bel.frame _, fun h => by cases h⟩

theorem over : Rows.tcpCallsUptoRow.holds Try.pinned (Rows.OpenSpec.upto Rows.tcpCallsSpec) :=
  OpenClaim.holds_of_cond 3 Try.f3 rfl rfl rfl rfl rfl rfl rfl ⟨rfl, rfl, rfl, rfl, rfl⟩ rfl rfl rfl rfl rfl (by kernel_rfl) Try.func3 (by kernel_rfl)
    (of_decide_eq_true (by kernel_rfl)) (by unfold Func.isWrapper; first | (rw [if_pos (by decide +kernel)]; kernel_rfl) | (rw [if_neg (by decide +kernel)]; exact ⟨rfl, rfl⟩))
    (fun os started H enc _ F => lifted os started H enc F)

/-- The statement. -/
theorem proved : Rows.TcpCallsUptoSaid := over
#print axioms proved
end Go.Proofs.Ytoblllgefmajiaa.tcpCalls
