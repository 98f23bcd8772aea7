/-
  Texts laid together: InnerKnownW, HeldLast, SegParse, SegGood.
-/
import Derived.Test.YtoegfgbalcholaaZA12
import Derived.Test.YtoegfgbalcholaaZA13
import Derived.RegionTactic
import Derived.BigRegion
import Derived.Test.YtoegfgbalcholaaRows
import Derived.OrdersHeld
import Derived.Deep.RegionHeld
import Derived.Test.YtoegfgbalcholaaZA10

/-
  InnerKnown, over the face (stage 16, written ahead).
-/
namespace Go.Proofs.Ytoegfgbalcholaa.innerKnownW
set_option maxRecDepth 10000
open Go.ChangeShapes Go.WideShapes Go.ChangeAt Go.RowKit
set_option linter.unusedVariables false
set_option linter.unusedSimpArgs false

def Zero (l : List Int) (e : Int) : Prop := errQ l = e ∧ qT l = ⟨0, 0, 0, 0, 0⟩ ∧ qS l = 0
structure IK (L : List Int) : Prop where
  quo : quoL = L
  byte : Bytes L
  r1 : Zero (L.set 7 1) 21
  r2 : errQ (((L.set 7 1).set 6 32).set 7 0) = 0 ∧ qT (((L.set 7 1).set 6 32).set 7 0) = ⟨6, 167772161, 167772162, 5, 80⟩ ∧ qS (((L.set 7 1).set 6 32).set 7 0) = 9
  r3 : Zero (L.set 0 68) 5
  r4 : Zero ((L.set 0 68).set 0 73) 4
  r5 : Zero (L.take 19) 4
  o1 : (ofL L (-1)).length = 40
  o2 : (ofL L 0).length = 20
  o3 : (ofL L 99).length = 40
  o4 : (ofL (L.take 19) 5).length = 0
theorem k_r1 : Zero (quoL.set 7 1) 21 := by unfold Zero; decide +kernel
theorem k_r2 : errQ (((quoL.set 7 1).set 6 32).set 7 0) = 0 ∧ qT (((quoL.set 7 1).set 6 32).set 7 0) = ⟨6, 167772161, 167772162, 5, 80⟩ ∧ qS (((quoL.set 7 1).set 6 32).set 7 0) = 9 := by decide +kernel
theorem k_r3 : Zero (quoL.set 0 68) 5 := by unfold Zero; decide +kernel
theorem k_r4 : Zero ((quoL.set 0 68).set 0 73) 4 := by unfold Zero; decide +kernel
theorem k_r5 : Zero (quoL.take 19) 4 := by unfold Zero; decide +kernel
theorem k_r6 : Zero [] 4 := by unfold Zero; decide +kernel
theorem k_o1 : (ofL quoL (-1)).length = 40 := by decide +kernel
theorem k_o2 : (ofL quoL 0).length = 20 := by decide +kernel
theorem k_o3 : (ofL quoL 99).length = 40 := by decide +kernel
theorem k_o4 : (ofL (quoL.take 19) 5).length = 0 := by decide +kernel
theorem ik : ∃ L, IK L := ⟨_, rfl, quo_b, k_r1, k_r2, k_r3, k_r4, k_r5, k_o1, k_o2, k_o3, k_o4⟩
def u0 (l : List Int) : List Int := (l.set 26 0).set 27 0
def tU : Tu := ⟨17, 5, 6, 7, 8⟩
structure UK (D P V : List Int) : Prop where
  dg : dgB 1 2 ⟨3, 4, []⟩ = D
  pk : packetL 0 0 false 1 17 1 2 [] D = P
  bd : Bytes D
  byte : Bytes (u0 P)
  e1 : errR (u0 P) tU = 0
  l1 : rwR (u0 P) tU 9 = V
  n1 : V.length = 28
  b1 : Bytes V
  a26 : (V.getD 26 0 == 0) = true
  a27 : (V.getD 27 0 == 0) = true
  a15 : (V.getD 15 0 == 5) = true
  a19 : (V.getD 19 0 == 6) = true
  a21 : (V.getD 21 0 == 7) = true
  a23 : (V.getD 23 0 == 8) = true
theorem uk : ∃ D P V, UK D P V := ⟨_, _, _, rfl, rfl, by unfold Bytes; decide +kernel, by unfold Bytes; decide +kernel, by decide +kernel, rfl, by decide +kernel, by unfold Bytes; decide +kernel, by decide +kernel, by decide +kernel, by decide +kernel, by decide +kernel, by decide +kernel, by decide +kernel⟩
theorem tuU : TuNum tU := ⟨by decide, by decide, by decide, by decide, by decide⟩
theorem set_b {l : List Int} (h : Bytes l) (j : Nat) (x : Int) (hx : 0 ≤ x ∧ x < 256) : Bytes (l.set j x) := fun y hy => by
  rcases List.mem_or_eq_of_mem_set hy with h' | rfl
  · exact h y h'
  · exact hx
set_option maxHeartbeats 4000000 in
theorem walk (hQuo : QuoF) (hRead : ReadF16) (hRw : RwF16) (hOf : OfF16) (hAw : AwF16) (W : World) :
    Calls Try.prog 6 #[] W fun e w' => e = .returned (.bool true) ∧ Below W.heap.size W w' := by
  have HQuo := Lib.hid hQuo
  have HRead := Lib.hid hRead
  have HRw := Lib.hid hRw
  have HOf := Lib.hid hOf
  have HAw := Lib.hid hAw
  obtain ⟨Q, hI⟩ := ik
  obtain ⟨D, P, V, hU⟩ := uk
  have HI := Lib.hid hI
  have HU := Lib.hid hU
  have hQl : Q.length = 40 := by rw [← hI.quo]; exact quo_3
  have HQl := Lib.hid hQl
  clear hQuo hRead hRw hOf hAw hI hU hQl
  go_enter Try.func6, Try.ntmps6
  go_wp2_with fail
  refine (HQuo.out _).mono ?_
  rintro e w1 ⟨A1, c1, rfl, hc1, hcm1, ho1, hb1⟩
  rw [HI.out.quo] at ho1
  have HR1 := Lib.hid (ho1.rd HI.out.byte)
  have HW1 := Lib.hid hb1
  have HB1 := Lib.hid (Below.refl w1.heap.size w1)
  have Hc1 := Lib.hid (And.intro hc1 hcm1)
  have hc1i : (40 : Int) ≤ (c1 : Int) := by omega
  clear hc1 hcm1 ho1 hb1
  go_upto_region 5 with (refine wpList_app rfl (.const (.slice none 0 0)) (.tmp 26) rfl w1.heap.size none A1 0 0 40 c1 [] Q rfl rfl (OwnB.nil _ _) (HR1.out.below HB1.out) (by omega) (Nat.le_refl _) ?_; intro A4 c4 w4 ho4 _ hb4 _)
  have ho4 : OwnB w4 w1.heap.size A4 40 c4 Q := by simpa using ho4
  obtain ⟨g4, rfl, hg4, hl4⟩ := ho4.addr (by omega)
  have HB4 := Lib.hid (below_trans HB1.out hb4)
  have HO4 := Lib.hid ho4
  have Hg4 := Lib.hid (show w1.heap.size ≤ g4 by have := HB1.out.size; omega)
  have Hcc4 := Lib.hid (show 40 ≤ c4 ∧ c4 ≤ maxLen from ⟨ho4.cap, ho4.capMax⟩)
  have hci4 : (40 : Int) ≤ (c4 : Int) := by have := ho4.cap; omega
  clear ho4 hb4 hg4 hl4
  have e1 := HO4.out.cell 7 (by omega)
  have f1 : w4.frozen? ⟨g4, 7, none⟩ = false := World.ownsRow.frozenAt HO4.out _
  obtain ⟨w5, e5⟩ : ∃ v, w4.setCell ⟨g4, 7, none⟩ (.int .u8 1) = v := ⟨_, rfl⟩
  have HO5 := Lib.hid (HO4.out.set_ 7 1)
  rw [e5] at HO5
  have HB5 := Lib.hid (HB4.out.setCell (p := ⟨g4, 7, none⟩) Hg4.out (.int .u8 1))
  rw [e5] at HB5
  have E5 := Lib.hid e5
  clear e5
  go_upto_region 6 with (fail)
  rw [E5.out]
  clear e1 f1 E5
  go_wp2_with fail
  refine (HRead.out (some ⟨g4, 0, none⟩) 40 _ (Q.set 7 1) ⟨0, 0, 0, 0, 0⟩ 0 21 _ Hcc4.out (by decide) (HO5.out.rd (set_b HI.out.byte 7 1 (by omega))) HI.out.r1.2.1 HI.out.r1.2.2 HI.out.r1.1).mono ?_
  rintro e wr6 ⟨rfl, hb6⟩
  obtain ⟨z6, ez6⟩ : ∃ y, wr6.heap.size = y := ⟨_, rfl⟩
  obtain ⟨wa6, ew6⟩ : ∃ v, wr6.alloc (.cells #[.int .u8 0, .int .u32 0, .int .u32 0, .int .u16 0, .int .u16 0, .int .u32 0] 28) = v := ⟨_, rfl⟩
  have hba : Below wr6.heap.size wr6 wa6 := by rw [← ew6]; exact (Below.refl _ _).alloc (Nat.le_refl _) _
  have HBr6 := Lib.hid (below_trans hb6 hba)
  have Ew6 := Lib.hid ew6
  have Ez6 := Lib.hid ez6
  clear ew6 ez6 hba hb6
  go_upto_region 7 with (fail)
  rw [Ew6.out]
  try rw [Ez6.out]
  clear Ew6 Ez6
  have HB6 := Lib.hid (below_trans HB5.out HBr6.out)
  have HO6 := Lib.hid (HO5.out.on HBr6.out)
  have e1 := HO6.out.cell 6 (by omega)
  have f1 : wa6.frozen? ⟨g4, 6, none⟩ = false := World.ownsRow.frozenAt HO6.out _
  obtain ⟨w7, e7⟩ : ∃ v, wa6.setCell ⟨g4, 6, none⟩ (.int .u8 32) = v := ⟨_, rfl⟩
  have HO7 := Lib.hid (HO6.out.set_ 6 32)
  rw [e7] at HO7
  have HB7 := Lib.hid (HB6.out.setCell (p := ⟨g4, 6, none⟩) Hg4.out (.int .u8 32))
  rw [e7] at HB7
  have E7 := Lib.hid e7
  clear e7
  have e1' := e1
  have f1' := f1
  clear e1 f1
  rw [← E7.out] at HO7 HB7
  obtain ⟨w8, e8⟩ : ∃ v, (wa6.setCell ⟨g4, 6, none⟩ (.int .u8 32)).setCell ⟨g4, 7, none⟩ (.int .u8 0) = v := ⟨_, rfl⟩
  have e2 := HO7.out.cell 7 (by omega)
  have f2 : (wa6.setCell ⟨g4, 6, none⟩ (.int .u8 32)).frozen? ⟨g4, 7, none⟩ = false := World.ownsRow.frozenAt HO7.out _
  have HO8 := Lib.hid (HO7.out.set_ 7 0)
  rw [e8] at HO8
  have HB8 := Lib.hid (HB7.out.setCell (p := ⟨g4, 7, none⟩) Hg4.out (.int .u8 0))
  rw [e8] at HB8
  have E8 := Lib.hid e8
  clear e8 E7
  go_upto_region 8 with (fail)
  rw [E8.out]
  clear e1' f1' e2 f2 E8
  go_wp2_with fail
  refine (HRead.out (some ⟨g4, 0, none⟩) 40 _ (((Q.set 7 1).set 6 32).set 7 0) ⟨6, 167772161, 167772162, 5, 80⟩ 9 0 _ Hcc4.out (by decide) (HO8.out.rd (set_b (set_b (set_b HI.out.byte 7 1 (by omega)) 6 32 (by omega)) 7 0 (by omega))) HI.out.r2.2.1 HI.out.r2.2.2 HI.out.r2.1).mono ?_
  rintro e wr9 ⟨rfl, hb9⟩
  obtain ⟨z9, ez9⟩ : ∃ y, wr9.heap.size = y := ⟨_, rfl⟩
  obtain ⟨wa9, ew9⟩ : ∃ v, wr9.alloc (.cells #[.int .u8 6, .int .u32 167772161, .int .u32 167772162, .int .u16 5, .int .u16 80, .int .u32 9] 28) = v := ⟨_, rfl⟩
  have hba : Below wr9.heap.size wr9 wa9 := by rw [← ew9]; exact (Below.refl _ _).alloc (Nat.le_refl _) _
  have HBr9 := Lib.hid (below_trans hb9 hba)
  have Ew9 := Lib.hid ew9
  have Ez9 := Lib.hid ez9
  clear ew9 ez9 hba hb9
  go_upto_region 9 with (fail)
  rw [Ew9.out]
  try rw [Ez9.out]
  clear Ew9 Ez9
  have HB9 := Lib.hid (below_trans HB8.out HBr9.out)
  clear HO4 HO5 HO6 HO7 HO8 HB4 HB5 HB6 HB7 HB8 HBr6 HBr9
  go_upto_region 10 with (refine wpList_app rfl (.const (.slice none 0 0)) (.tmp 44) rfl wa9.heap.size none A1 0 0 40 c1 [] Q rfl rfl (OwnB.nil _ _) (HR1.out.below HB9.out) (by omega) (Nat.le_refl _) ?_; intro A10 c10 w10 ho10 _ hb10 _)
  have ho10 : OwnB w10 wa9.heap.size A10 40 c10 Q := by simpa using ho10
  obtain ⟨g10, rfl, hg10, hl10⟩ := ho10.addr (by omega)
  have HB10 := Lib.hid (below_trans HB9.out hb10)
  have HO10 := Lib.hid ho10
  have Hg10 := Lib.hid (show w1.heap.size ≤ g10 by have := HB9.out.size; omega)
  have Hcc10 := Lib.hid (show 40 ≤ c10 ∧ c10 ≤ maxLen from ⟨ho10.cap, ho10.capMax⟩)
  have hci10 : (40 : Int) ≤ (c10 : Int) := by have := ho10.cap; omega
  clear ho10 hb10 hg10 hl10
  have e1 := HO10.out.cell 0 (by omega)
  have f1 : w10.frozen? ⟨g10, 0, none⟩ = false := World.ownsRow.frozenAt HO10.out _
  obtain ⟨w11, e11⟩ : ∃ v, w10.setCell ⟨g10, 0, none⟩ (.int .u8 68) = v := ⟨_, rfl⟩
  have HO11 := Lib.hid (HO10.out.set_ 0 68)
  rw [e11] at HO11
  have HB11 := Lib.hid (HB10.out.setCell (p := ⟨g10, 0, none⟩) Hg10.out (.int .u8 68))
  rw [e11] at HB11
  have E11 := Lib.hid e11
  clear e11
  go_upto_region 11 with (fail)
  rw [E11.out]
  clear e1 f1 E11
  go_wp2_with fail
  refine (HRead.out (some ⟨g10, 0, none⟩) 40 _ (Q.set 0 68) ⟨0, 0, 0, 0, 0⟩ 0 5 _ Hcc10.out (by decide) (HO11.out.rd (set_b HI.out.byte 0 68 (by omega))) HI.out.r3.2.1 HI.out.r3.2.2 HI.out.r3.1).mono ?_
  rintro e wr12 ⟨rfl, hb12⟩
  obtain ⟨z12, ez12⟩ : ∃ y, wr12.heap.size = y := ⟨_, rfl⟩
  obtain ⟨wa12, ew12⟩ : ∃ v, wr12.alloc (.cells #[.int .u8 0, .int .u32 0, .int .u32 0, .int .u16 0, .int .u16 0, .int .u32 0] 28) = v := ⟨_, rfl⟩
  have hba : Below wr12.heap.size wr12 wa12 := by rw [← ew12]; exact (Below.refl _ _).alloc (Nat.le_refl _) _
  have HBr12 := Lib.hid (below_trans hb12 hba)
  have Ew12 := Lib.hid ew12
  have Ez12 := Lib.hid ez12
  clear ew12 ez12 hba hb12
  go_upto_region 12 with (fail)
  rw [Ew12.out]
  try rw [Ez12.out]
  clear Ew12 Ez12
  have HB12 := Lib.hid (below_trans HB11.out HBr12.out)
  have HO12 := Lib.hid (HO11.out.on HBr12.out)
  have e1 := HO12.out.cell 0 (by omega)
  have f1 : wa12.frozen? ⟨g10, 0, none⟩ = false := World.ownsRow.frozenAt HO12.out _
  obtain ⟨w13, e13⟩ : ∃ v, wa12.setCell ⟨g10, 0, none⟩ (.int .u8 73) = v := ⟨_, rfl⟩
  have HO13 := Lib.hid (HO12.out.set_ 0 73)
  rw [e13] at HO13
  have HB13 := Lib.hid (HB12.out.setCell (p := ⟨g10, 0, none⟩) Hg10.out (.int .u8 73))
  rw [e13] at HB13
  have E13 := Lib.hid e13
  clear e13
  go_upto_region 13 with (fail)
  rw [E13.out]
  clear e1 f1 E13
  go_wp2_with fail
  refine (HRead.out (some ⟨g10, 0, none⟩) 40 _ ((Q.set 0 68).set 0 73) ⟨0, 0, 0, 0, 0⟩ 0 4 _ Hcc10.out (by decide) (HO13.out.rd (set_b (set_b HI.out.byte 0 68 (by omega)) 0 73 (by omega))) HI.out.r4.2.1 HI.out.r4.2.2 HI.out.r4.1).mono ?_
  rintro e wr14 ⟨rfl, hb14⟩
  obtain ⟨z14, ez14⟩ : ∃ y, wr14.heap.size = y := ⟨_, rfl⟩
  obtain ⟨wa14, ew14⟩ : ∃ v, wr14.alloc (.cells #[.int .u8 0, .int .u32 0, .int .u32 0, .int .u16 0, .int .u16 0, .int .u32 0] 28) = v := ⟨_, rfl⟩
  have hba : Below wr14.heap.size wr14 wa14 := by rw [← ew14]; exact (Below.refl _ _).alloc (Nat.le_refl _) _
  have HBr14 := Lib.hid (below_trans hb14 hba)
  have Ew14 := Lib.hid ew14
  have Ez14 := Lib.hid ez14
  clear ew14 ez14 hba hb14
  go_upto_region 14 with (fail)
  rw [Ew14.out]
  try rw [Ez14.out]
  clear Ew14 Ez14
  have HB14 := Lib.hid (below_trans HB13.out HBr14.out)
  clear HO10 HO11 HO12 HO13 HB10 HB11 HB12 HB13 HBr12 HBr14
  go_wp2_with fail
  refine (HRead.out none 0 _ [] ⟨0, 0, 0, 0, 0⟩ 0 4 _ ⟨Nat.le_refl _, by simp [maxLen]⟩ (by decide) (Rd.nil _ _) k_r6.2.1 k_r6.2.2 k_r6.1).mono ?_
  rintro e wr15 ⟨rfl, hb15⟩
  obtain ⟨z15, ez15⟩ : ∃ y, wr15.heap.size = y := ⟨_, rfl⟩
  obtain ⟨wa15, ew15⟩ : ∃ v, wr15.alloc (.cells #[.int .u8 0, .int .u32 0, .int .u32 0, .int .u16 0, .int .u16 0, .int .u32 0] 28) = v := ⟨_, rfl⟩
  have hba : Below wr15.heap.size wr15 wa15 := by rw [← ew15]; exact (Below.refl _ _).alloc (Nat.le_refl _) _
  have HBr15 := Lib.hid (below_trans hb15 hba)
  have Ew15 := Lib.hid ew15
  have Ez15 := Lib.hid ez15
  clear ew15 ez15 hba hb15
  go_upto_region 15 with (fail)
  rw [Ew15.out]
  try rw [Ez15.out]
  clear Ew15 Ez15
  have HB15 := Lib.hid (below_trans HB14.out HBr15.out)
  go_wp2_with fail
  refine (HRead.out A1 19 _ (Q.take 19) ⟨0, 0, 0, 0, 0⟩ 0 4 _ ⟨by have := Hc1.out; omega, Hc1.out.2⟩ (by decide) ((HR1.out.below HB15.out).take (by omega)) HI.out.r5.2.1 HI.out.r5.2.2 HI.out.r5.1).mono ?_
  rintro e wr16 ⟨rfl, hb16⟩
  obtain ⟨z16, ez16⟩ : ∃ y, wr16.heap.size = y := ⟨_, rfl⟩
  obtain ⟨wa16, ew16⟩ : ∃ v, wr16.alloc (.cells #[.int .u8 0, .int .u32 0, .int .u32 0, .int .u16 0, .int .u16 0, .int .u32 0] 28) = v := ⟨_, rfl⟩
  have hba : Below wr16.heap.size wr16 wa16 := by rw [← ew16]; exact (Below.refl _ _).alloc (Nat.le_refl _) _
  have HBr16 := Lib.hid (below_trans hb16 hba)
  have Ew16 := Lib.hid ew16
  have Ez16 := Lib.hid ez16
  clear ew16 ez16 hba hb16
  go_upto_region 16 with (fail)
  rw [Ew16.out]
  try rw [Ez16.out]
  clear Ew16 Ez16
  have HB16 := Lib.hid (below_trans HB15.out HBr16.out)
  go_wp2_with fail
  refine (uput_told 1 2 3 4 [] none 0 0 8 D _ ⟨by decide, by decide⟩ ⟨Nat.le_refl _, by simp [maxLen]⟩ (Rd.nil _ _) (by decide) rfl HU.out.dg).mono ?_
  rintro e w17 ⟨A17, c17, rfl, hc17, hcm17, ho17, hb17⟩
  have HD17 := Lib.hid (ho17.rd HU.out.bd)
  have HB17 := Lib.hid (below_trans HB16.out hb17)
  have Hc17 := Lib.hid (And.intro hc17 hcm17)
  clear ho17 hb17 hc17 hcm17
  go_wp2_with fail
  refine (put_ok 0 0 1 17 1 2 false none A17 0 0 8 c17 [] D _ (by omega) (by omega) (by omega) (by omega) (by omega) (by omega) (by decide) (by omega) ⟨by omega, by simp [maxLen]⟩ Hc17.out (by omega) (Rd.nil _ _) HD17.out).mono ?_
  rintro e w18 ⟨A18, c18, rfl, hc18, hcm18, ho18, hb18⟩
  rw [HU.out.pk] at ho18
  have ho18 : OwnB w18 w17.heap.size A18 28 c18 P := ho18
  obtain ⟨g18, rfl, hg18, hl18⟩ := ho18.addr (by omega)
  have HB18 := Lib.hid (below_trans HB17.out hb18)
  have Hg18 := Lib.hid (show w1.heap.size ≤ g18 by have := HB17.out.size; omega)
  have Hc18 := Lib.hid (And.intro hc18 hcm18)
  have hc18i : (28 : Int) ≤ (c18 : Int) := by omega
  have e1 := ho18.cell 26 (by omega)
  have f1 : w18.frozen? ⟨g18, 26, none⟩ = false := World.ownsRow.frozenAt ho18 _
  have h1 := ho18.set_ 26 0
  have e2 := h1.cell 27 (by omega)
  have f2 : (w18.setCell ⟨g18, 26, none⟩ (.int .u8 0)).frozen? ⟨g18, 27, none⟩ = false := World.ownsRow.frozenAt h1 _
  have h2 := h1.set_ 27 0
  obtain ⟨w20, e20⟩ : ∃ v, (w18.setCell ⟨g18, 26, none⟩ (.int .u8 0)).setCell ⟨g18, 27, none⟩ (.int .u8 0) = v := ⟨_, rfl⟩
  have HB20 := Lib.hid ((HB18.out.setCell (p := ⟨g18, 26, none⟩) Hg18.out (.int .u8 0)).setCell (p := ⟨g18, 27, none⟩) Hg18.out (.int .u8 0))
  rw [e20] at HB20 h2
  have HU20 := Lib.hid (show Rd w20 (some ⟨g18, 0, none⟩) 28 (u0 P) from h2.rd HU.out.byte)
  have E20 := Lib.hid e20
  clear ho18 hb18 hc18 hcm18 hg18 hl18 h1 h2 e20 HD17 Hc17 HB17
  go_upto_region 21 with (fail)
  rw [E20.out]
  clear e1 f1 e2 f2 E20
  go_wp2_with fail
  refine (HRw.out (some ⟨g18, 0, none⟩) 28 c18 (u0 P) tU 9 _ V 28 0 Hc18.out (by decide) HU20.out tuU (by decide) HU.out.l1 HU.out.n1 HU.out.e1).mono ?_
  rintro e w21 ⟨A21, c21, rfl, ho21, hb21⟩
  have HV := Lib.hid (ho21.rd HU.out.b1)
  have HB21 := Lib.hid (below_trans HB20.out hb21)
  have hc21i : (28 : Int) ≤ (c21 : Int) := by have := ho21.cap; omega
  clear ho21 hb21 HU20 HB20 HB18 HB14 HB15 HB16 HB9 HBr15 HBr16
  go_upto_region 24 with (fail)
  dsimp only [List.append] at *
  obtain ⟨p26, r26, v26, -⟩ := HV.out.index (c := c21) (j := 26) (by decide)
  obtain ⟨p27, r27, v27, -⟩ := HV.out.index (c := c21) (j := 27) (by decide)
  obtain ⟨p15, r15, v15, -⟩ := HV.out.index (c := c21) (j := 15) (by decide)
  obtain ⟨p19, r19, v19, -⟩ := HV.out.index (c := c21) (j := 19) (by decide)
  obtain ⟨p21, r21, v21, -⟩ := HV.out.index (c := c21) (j := 21) (by decide)
  obtain ⟨p23, r23, v23, -⟩ := HV.out.index (c := c21) (j := 23) (by decide)
  have r26 := (show ∀ W : World, (Instr.indexAt 22 (.slice A21 28 c21) (.int .i64 26)).run Try.prog W = .ok (.pointer (some p26)) W from r26)
  have r27 := (show ∀ W : World, (Instr.indexAt 22 (.slice A21 28 c21) (.int .i64 27)).run Try.prog W = .ok (.pointer (some p27)) W from r27)
  have r15 := (show ∀ W : World, (Instr.indexAt 22 (.slice A21 28 c21) (.int .i64 15)).run Try.prog W = .ok (.pointer (some p15)) W from r15)
  have r19 := (show ∀ W : World, (Instr.indexAt 22 (.slice A21 28 c21) (.int .i64 19)).run Try.prog W = .ok (.pointer (some p19)) W from r19)
  have r21 := (show ∀ W : World, (Instr.indexAt 22 (.slice A21 28 c21) (.int .i64 21)).run Try.prog W = .ok (.pointer (some p21)) W from r21)
  have r23 := (show ∀ W : World, (Instr.indexAt 22 (.slice A21 28 c21) (.int .i64 23)).run Try.prog W = .ok (.pointer (some p23)) W from r23)
  have a26 := HU.out.a26
  have a27 := HU.out.a27
  have a15 := HU.out.a15
  have a19 := HU.out.a19
  have a21 := HU.out.a21
  have a23 := HU.out.a23
  obtain ⟨x26, e26⟩ : ∃ x, V.getD 26 0 = x := ⟨_, rfl⟩
  obtain ⟨x27, e27⟩ : ∃ x, V.getD 27 0 = x := ⟨_, rfl⟩
  obtain ⟨x15, e15⟩ : ∃ x, V.getD 15 0 = x := ⟨_, rfl⟩
  obtain ⟨x19, e19⟩ : ∃ x, V.getD 19 0 = x := ⟨_, rfl⟩
  obtain ⟨x21, e21⟩ : ∃ x, V.getD 21 0 = x := ⟨_, rfl⟩
  obtain ⟨x23, e23⟩ : ∃ x, V.getD 23 0 = x := ⟨_, rfl⟩
  rw [e26] at v26 a26
  rw [e27] at v27 a27
  rw [e15] at v15 a15
  rw [e19] at v19 a19
  rw [e21] at v21 a21
  rw [e23] at v23 a23
  clear e26 e27 e15 e19 e21 e23
  try simp only []
  repeat (first | go_values | go_skip | go_guarded | go_step | go_upon | go_back)
  clear r26 r27 r15 r19 r21 r23 v26 v27 v15 v19 v21 v23 a26 a27 a15 a19 a21 a23
  refine (HOf.out A1 40 c1 Q (-1) _ 40 w21 Hc1.out (by decide) (HR1.out.below HB21.out) (by decide) rfl HI.out.o1).mono ?_
  rintro e w22 ⟨A22, c22, rfl, -, -, -, hb22⟩
  have HB22 := Lib.hid (below_trans HB21.out hb22)
  clear hb22
  try simp only []
  repeat (first | go_values | go_skip | go_guarded | go_step | go_upon | go_back)
  refine (HOf.out A1 40 c1 Q 0 _ 20 w22 Hc1.out (by decide) (HR1.out.below HB22.out) (by decide) rfl HI.out.o2).mono ?_
  rintro e w23 ⟨A23, c23, rfl, -, -, -, hb23⟩
  have HB23 := Lib.hid (below_trans HB22.out hb23)
  clear hb23
  try simp only []
  repeat (first | go_values | go_skip | go_guarded | go_step | go_upon | go_back)
  refine (HOf.out A1 40 c1 Q 99 _ 40 w23 Hc1.out (by decide) (HR1.out.below HB23.out) (by decide) rfl HI.out.o3).mono ?_
  rintro e w24 ⟨A24, c24, rfl, -, -, -, hb24⟩
  have HB24 := Lib.hid (below_trans HB23.out hb24)
  clear hb24
  try simp only []
  repeat (first | go_values | go_skip | go_guarded | go_step | go_upon | go_back)
  refine (HOf.out A1 19 c1 (Q.take 19) 5 _ 0 w24 ⟨by have := Hc1.out; omega, Hc1.out.2⟩ (by decide) ((HR1.out.below HB24.out).take (by omega)) (by decide) rfl HI.out.o4).mono ?_
  rintro e w25 ⟨A25, c25, rfl, -, -, -, hb25⟩
  have HB25 := Lib.hid (below_trans HB24.out hb25)
  clear hb25
  try simp only []
  repeat (first | go_values | go_skip | go_guarded | go_step | go_upon | go_back)
  refine (HAw.out _).mono ?_
  rintro e w26 ⟨rfl, hb26⟩
  have HB26 := Lib.hid (below_trans HB25.out hb26)
  clear hb26
  try simp only []
  repeat (first | go_values | go_skip | go_guarded | go_step | go_upon | go_back)
  go_ret
  exact ⟨rfl, HW1.out.trans (HB26.out.mono HW1.out.size)⟩
end Go.Proofs.Ytoegfgbalcholaa.innerKnownW

/-
  A drawn region whose LAST operation turns what the region read (a store to a cell that it loads, an append onto a row that it reads): the condition S is asked behind every operation but that one. No function of the program.
-/
namespace Go.Proofs.Ytoegfgbalcholaa
set_option maxRecDepth 10000
section
variable {P : Program} {ops : Array Oper} {Q : Exit → Act → World → Prop} {md : Region.Mode} {S : World → Prop} {last : Nat}

end
end Go.Proofs.Ytoegfgbalcholaa

/-
  The contract of culvertref06's Parse.
-/
namespace Go.Proofs.Ytoegfgbalcholaa
set_option maxRecDepth 10000
open Go.RowKit

/-- The rest of a row of bytes, s[lo:], as one run equation. -/
theorem Rd.rest {w : World} {A : Option Addr} {n c : Nat} {l : List Int} (h : Rd w A n l) (lo : Nat) (loi : Int) (h0 : 0 < n) (hlo : lo ≤ n) (hc : n ≤ c) (hcm : c ≤ maxLen) (el : loi = (lo : Int)) :
    ∃ A', (∀ W : World, (Instr.sliceAt 22 (.slice A n c) (some (.int .i64 loi)) none none).run Try.prog W = .ok (.slice A' (n - lo) (c - lo)) W) ∧ Rd w A' (n - lo) (l.drop lo) := by
  subst el
  obtain ⟨b, o, rfl, _, _⟩ := h.at_ h0
  unfold maxLen at hcm
  have i0 : (0 : Int) ≤ (lo : Int) := by omega
  have i1 : (lo : Int) ≤ (n : Int) := by omega
  have i2 : (n : Int) ≤ (c : Int) := by omega
  have i3 : lo ≤ c := by omega
  by_cases hl : lo = c
  · subst hl
    obtain rfl : n = lo := by omega
    refine ⟨some ⟨b, o, none⟩, fun W => by go_simp, ?_⟩
    rw [Nat.sub_self, List.drop_eq_nil_of_le (by rw [h.len]; omega)]
    exact Rd.nil _ _
  · have i4 : ¬ c = lo := fun e => hl e.symm
    refine ⟨some ⟨b, o + lo, none⟩, fun W => by go_simp, ?_⟩
    exact h.drop_ rfl (by omega)

/-- How many bytes it says stand ahead of the Data. -/
def offB (b : List Int) : Nat := (b.getD 12 0 / 16 * 4).toNat
/-- What is wrong with a segment's bytes. -/
def errSeg (src dst : Int) (b : List Int) : Int :=
  if 1480 < b.length then 3 else if b.length < 20 then 4 else if offB b < 20 then 5 else if b.length < offB b then 4
  else if sumL (pseudoL src dst 6 b.length ++ b) ≠ 65535 then 20 else if (parseO ((b.take (offB b)).drop 20)).2 ≠ 0 then 5 else 0
end Go.Proofs.Ytoegfgbalcholaa

/-
  The contract of culvertref06's Parse where nothing is wrong.
-/
namespace Go.Proofs.Ytoegfgbalcholaa
set_option maxRecDepth 10000
open Go.RowKit

end Go.Proofs.Ytoegfgbalcholaa
