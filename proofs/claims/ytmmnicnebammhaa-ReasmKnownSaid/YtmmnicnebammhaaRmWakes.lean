/-
  culvertlaw18's wakes: the chapter's rows.
-/
import Derived.Test.YtmmnicnebammhaaRmTold
import Derived.RegionTactic
namespace Go.Proofs.Ytmmnicnebammhaa
set_option maxRecDepth 10000
open Go.RowKit
set_option linter.unusedSimpArgs false
set_option linter.unusedVariables false
variable {BAt : BA}
theorem str_abcd : strOfNums [97, 98, 99, 100] = { data := #[97, 98, 99, 100] } := by rfl
theorem str_012345 : strOfNums [48, 49, 50, 51, 52, 53] = { data := #[48, 49, 50, 51, 52, 53] } := by rfl
set_option maxHeartbeats 2000000 in
theorem rmwake_any (F : BFace BAt) (w : World) : Calls Try.prog 10 #[] w (Woke w) := by
  obtain ⟨L1, e1⟩ : ∃ s, putQ 2 [99, 100] (List.replicate 10 none) = s := ⟨_, rfl⟩
  obtain ⟨L2, e2⟩ : ∃ s, putQ (-1) [88, 97, 98] L1 = s := ⟨_, rfl⟩
  obtain ⟨L3, e3⟩ : ∃ s, leftB L2 = s := ⟨_, rfl⟩
  obtain ⟨L4, e4⟩ : ∃ s, putQ 0 [48, 49, 50, 51, 52, 53, 54, 55, 56, 57] L3 = s := ⟨_, rfl⟩
  obtain ⟨L5, e5⟩ : ∃ s, leftB L4 = s := ⟨_, rfl⟩
  have V : (putN 2 [99, 100] (List.replicate 10 none) = 2 ∧ putE 2 [99, 100] (List.replicate 10 none) = 0) ∧ (readyB L1 = 0 ∧ heldI 4294967294 L1 = [(0, 2)]) ∧ (putN (-1) [88, 97, 98] L1 = 2 ∧ putE (-1) [88, 97, 98] L1 = 0) ∧ (takeB L2 = [97, 98, 99, 100] ∧ num32 (4294967294 + readyB L2) = 2) ∧ L3.length = 6 ∧
      (putN 0 [48, 49, 50, 51, 52, 53, 54, 55, 56, 57] L3 = 6 ∧ putE 0 [48, 49, 50, 51, 52, 53, 54, 55, 56, 57] L3 = 0) ∧ (takeB L4 = [48, 49, 50, 51, 52, 53] ∧ num32 (2 + readyB L4) = 8) := by
    subst e1; subst e2; subst e3; subst e4
    decide +kernel
  obtain ⟨⟨n1, x1⟩, ⟨r1, h1⟩, ⟨n2, x2⟩, ⟨k2, c2⟩, l3, ⟨n4, x4⟩, ⟨k4, c4⟩⟩ := V
  have T1 := Lib.hid (fun w g B z (h : MB BAt B w _) hz => put_lit F B g z 4294967294 0 2 _ L1 2 0 [99, 100] (2, 3) w h hz (by decide) (by decide) (by decide) (by decide) e1 n1 x1)
  have T2 := Lib.hid (fun w g B (h : MB BAt B w _) => ready1 F B g 4294967294 L1 0 w h r1)
  have T3 := Lib.hid (fun w g B (h : MB BAt B w _) => held1 F B g 4294967294 L1 [(0, 2)] w h h1)
  have T4 := Lib.hid (fun w g B z (h : MB BAt B w _) hz => put_lit F B g z 4294967294 4294967293 (-1) L1 L2 2 0 [88, 97, 98] (3, 4) w h hz (by decide) (by decide) (by decide) (by decide) e2 n2 x2)
  have T5 := Lib.hid (fun w g B (h : MB BAt B w _) => take1 F B g 4294967294 2 L2 L3 [97, 98, 99, 100] w h c2 e3 k2)
  have T6 := Lib.hid (fun w g B (h : MB BAt B w _) => next1 F B g 2 L3 w h)
  have T7 := Lib.hid (fun w g B (h : MB BAt B w _) => room1 F B g 2 L3 6 w h l3)
  have T8 := Lib.hid (fun w g B z (h : MB BAt B w _) hz => put_lit F B g z 2 2 0 L3 L4 6 0 [48, 49, 50, 51, 52, 53, 54, 55, 56, 57] (10, 11) w h hz (by decide) (by decide) (by decide) (by decide) e4 n4 x4)
  have T9 := Lib.hid (fun w g B (h : MB BAt B w _) => take1 F B g 2 8 L4 L5 [48, 49, 50, 51, 52, 53] w h c4 e5 k4)
  have Hn := Lib.hid (new1 F w 4294967294 10 (by decide) (by decide))
  clear e1 e2 e3 e4 e5 n1 x1 r1 h1 n2 x2 k2 c2 l3 n4 x4 k4 c4
  have HF := Lib.hid F
  clear F
  go_enter Try.func10, Try.ntmps10
  go_wp2_with fail
  refine Hn.out.mono ?_
  rintro e w1 ⟨g, rfl, hp, hb⟩
  have HP := Lib.hid hp
  have HB := Lib.hid hb
  clear hp hb Hn
  unfold madeR
  have kc := Go.Joins.run_convert_bytes_const_at (P := Try.prog) w1 32 5 #[.int .u8 99, .int .u8 100] 2 2 w1.heap.size rfl Try.underlying32 Try.underlying5
  go_wp2_with fail
  obtain ⟨z, hz⟩ : ∃ z, w1.heap.size = z := ⟨_, rfl⟩
  clear kc
  have hsub := T1.out _ _ _ z HP.out hz
  simp only [hz]
  refine Calls.mono hsub ?_
  clear hsub
  rintro e w2 ⟨rfl, hp, hb⟩
  clear hz
  have HP := Lib.hid hp
  have HB := Lib.hid (HB.out.trans hb)
  clear hp hb
  go_wp2_with fail
  refine (T2.out _ _ _ HP.out).mono ?_
  rintro e w3 ⟨rfl, hp, hb⟩
  have HP := Lib.hid hp
  have HB := Lib.hid (HB.out.trans hb)
  clear hp hb
  go_wp2_with fail
  refine (T3.out _ _ _ HP.out).mono ?_
  rintro e w4 ⟨A, n, c, rfl, hn, hl, hp, hb⟩
  have HP := Lib.hid hp
  have HB := Lib.hid (HB.out.trans hb)
  have HL := Lib.hid hl
  have Hn1 := Lib.hid hn
  clear hp hb hl hn
  go_wp2_with fail
  obtain ⟨z, hz⟩ : ∃ z, w4.heap.size = z := ⟨_, rfl⟩
  have hs := same18_any (.slice A n c) (.slice (some ⟨z, 0, none⟩) 1 1) [(0, 2)] [(0, 2)] true (w4.alloc (.cells #[.int .u32 0, .int .u32 2] 60)) (by
      have := HL.out.but (But.of (S := fun _ => False) ((Below.refl w4.heap.size w4).alloc (Nat.le_refl _) (.cells #[.int .u32 0, .int .u32 2] 60))) (fun _ _ h => h)
      rw [← Hn1.out] at this
      rw [← Hn1.out]
      exact this) (RowV.one 60 (flat2 [(0, 2)]) z hz rfl) (by decide) (by decide)
  simp only [hz]
  refine Calls.mono hs ?_
  rintro e w5 ⟨rfl, m, rfl⟩
  have hba : Below w4.heap.size w4 ((w4.alloc (.cells #[.int .u32 0, .int .u32 2] 60)).drewN m) := ((But.refl (fun _ => False) w4).alloc _ |>.drewN m).below (fun _ h => h.elim) (Nat.le_refl _)
  obtain ⟨w5, ew5⟩ : ∃ v, (w4.alloc (.cells #[.int .u32 0, .int .u32 2] 60)).drewN m = v := ⟨_, rfl⟩
  rw [ew5] at hba ⊢
  have HP5 := Lib.hid (HP.out.but HF.out hba)
  have HB5 := Lib.hid (HB.out.trans (hba.mono HP.out.2))
  clear hs hz hba ew5 HP HB
  have HP := HP5
  have HB := HB5
  clear HP5 HB5
  have kc := Go.Joins.run_convert_bytes_const_at (P := Try.prog) w5 32 5 #[.int .u8 88, .int .u8 97, .int .u8 98] 3 3 w5.heap.size rfl Try.underlying32 Try.underlying5
  go_wp2_with fail
  obtain ⟨z, hz⟩ : ∃ z, w5.heap.size = z := ⟨_, rfl⟩
  clear kc
  have hsub := T4.out _ _ _ z HP.out hz
  simp only [hz]
  refine Calls.mono hsub ?_
  clear hsub
  rintro e w6 ⟨rfl, hp, hb⟩
  clear hz
  have HP := Lib.hid hp
  have HB := Lib.hid (HB.out.trans hb)
  clear hp hb
  go_wp2_with fail
  refine (T5.out _ _ _ HP.out).mono ?_
  rintro e w7 ⟨A7, n7, c7, rfl, hn, ho, hp, hb⟩
  obtain rfl : 4 = n7 := hn
  have hcv := conv_rd (ho.rd (by decide)) c7
  rw [str_abcd] at hcv
  have HP := Lib.hid hp
  have HB := Lib.hid (HB.out.trans hb)
  clear hp hb
  clear ho
  go_wp2_with fail
  refine (T6.out _ _ _ HP.out).mono ?_
  rintro e w8 ⟨rfl, hp, hb⟩
  have HP := Lib.hid hp
  have HB := Lib.hid (HB.out.trans hb)
  clear hp hb
  clear hcv
  go_wp2_with fail
  refine (T7.out _ _ _ HP.out).mono ?_
  rintro e w9 ⟨rfl, hp, hb⟩
  have HP := Lib.hid hp
  have HB := Lib.hid (HB.out.trans hb)
  clear hp hb
  have kc := Go.Joins.run_convert_bytes_const_at (P := Try.prog) w9 32 5 #[.int .u8 48, .int .u8 49, .int .u8 50, .int .u8 51, .int .u8 52, .int .u8 53, .int .u8 54, .int .u8 55, .int .u8 56, .int .u8 57] 10 10 w9.heap.size rfl Try.underlying32 Try.underlying5
  go_wp2_with fail
  obtain ⟨z, hz⟩ : ∃ z, w9.heap.size = z := ⟨_, rfl⟩
  clear kc
  have hsub := T8.out _ _ _ z HP.out hz
  simp only [hz]
  refine Calls.mono hsub ?_
  clear hsub
  rintro e w10 ⟨rfl, hp, hb⟩
  clear hz
  have HP := Lib.hid hp
  have HB := Lib.hid (HB.out.trans hb)
  clear hp hb
  go_wp2_with fail
  refine (T9.out _ _ _ HP.out).mono ?_
  rintro e w11 ⟨A8, n8, c8, rfl, hn, ho, hp, hb⟩
  obtain rfl : 6 = n8 := hn
  have hcv := conv_rd (ho.rd (by decide)) c8
  rw [str_012345] at hcv
  have HP := Lib.hid hp
  have HB := Lib.hid (HB.out.trans hb)
  clear hp hb
  clear ho
  go_wp2_with fail
  go_ret
  exact ⟨rfl, HB.out⟩
end Go.Proofs.Ytmmnicnebammhaa
