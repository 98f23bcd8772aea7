/-
  RexmitKnown's walk, over the face.
-/
import Derived.Test.YtncbkgcblmohoaaRxAwake
import Derived.Test.YtncbkgcblmohoaaRxNone
import Derived.Test.YtncbkgcblmohoaaMade
import Derived.Deep.CutRange
namespace Go.Proofs.Ytncbkgcblmohoaa.rexmitKnownW
set_option maxRecDepth 10000
open Go.RowKit
set_option linter.unusedVariables false
set_option linter.unusedSimpArgs false
variable {XAt : XA}

def k0 : XS := newX 4294967294 0 1 1
def k1 : XS := writeS [97, 98, 99] 5 k0
def k2 : XS := sendS 1 k1
def k3 : XS := tickS 2 6 k2
def k4 : XS := ackS 4294967295 9 7 k3
def k5 : XS := sendS 1460 k4
theorem long0 : longX (List.replicate 16385 0) k0 = true := by unfold longX; rw [List.length_replicate]; exact decide_eq_true (by decide)
theorem k_v0 : writeS (List.replicate 16385 0) 0 k0 = k0 ∧ writeE (List.replicate 16385 0) k0 = 3 := by
  unfold writeS writeE
  rw [if_pos long0, if_pos long0]
  exact ⟨rfl, rfl⟩
theorem k_v1 : writeE [97, 98, 99] k0 = 0 ∧ sendL 1 k1 = [] ∧ tickB 2 6 k2 = true ∧ tickE 2 6 k2 = 0 ∧ tickA 2 6 k2 = 4294967294 ∧ tickD 2 6 k2 = [97] := by decide +kernel
theorem k_v2 : ackN 4294967295 9 k3 = 1 ∧ ackE 4294967295 9 k3 = 0 ∧ sendL 1460 k4 = [(4294967295, [98, 99])] ∧ nxtX k5 = 1 ∧ ackN 2 9 k5 = 0 ∧ ackE 2 9 k5 = 1 := by decide +kernel
theorem k_v3 : ackBad 2 9 k5 = true := by decide +kernel
theorem k_v4 : ackS 2 9 7 k5 = k5 := by unfold ackS; rw [if_pos k_v3]
theorem k_s0 : sendS 0 k5 = k5 ∧ sendL 0 k5 = [] ∧ sendE 0 = 1 ∧ sendS 1501 k5 = k5 ∧ sendL 1501 k5 = [] ∧ sendE 1501 = 1 := ⟨rfl, rfl, rfl, rfl, rfl, rfl⟩
theorem str_k : strOfNums [97] = { data := #[97] } ∧ strOfNums [98, 99] = { data := #[98, 99] } := ⟨rfl, rfl⟩
set_option maxHeartbeats 8000000 in
theorem walk (F : XFace XAt) (w : World) : Calls Try.prog 8 #[] w fun e w' => e = .returned (.bool true) ∧ Below w.heap.size w w' := by
  have HF := Lib.hid F
  have HB := Lib.hid (Below.refl w.heap.size w)
  obtain ⟨C, hmk, hrdm⟩ : ∃ C, (∀ w, (Instr.makeSlice 37 (.int .i64 16385) (.int .i64 16385)).run Try.prog w = .ok (.slice (some ⟨w.heap.size, 0, none⟩) 16385 16385) (w.alloc (.cells C 5))) ∧ ∀ (w : World) (g : Nat), w.heap.size = g → Rd (w.alloc (.cells C 5)) (some ⟨g, 0, none⟩) 16385 (List.replicate 16385 0) := ⟨madeCells (Value.int .u8 0).cells 16385, fun w => made_run 16385 (by omega) w, fun w g h => made_nums w g h 16385⟩
  have Hrdm := Lib.hid hrdm
  clear F hrdm
  go_enter Try.func8, Try.ntmps8
  go_wp2_with fail
  refine (awake19_any HF.out w).mono ?_
  rintro e wa ⟨rfl, hb⟩
  have HB2 := Lib.hid hb
  clear hb HB
  have HB := HB2
  clear HB2
  go_wp2_with fail
  refine (HF.out.new_bad 0 0 0 1 _ (by decide) (by decide) (by decide) (by decide) (by unfold badX; decide)).mono ?_
  rintro e wb ⟨rfl, hb⟩
  have HB2 := Lib.hid (below_trans HB.out hb)
  clear hb HB
  have HB := HB2
  clear HB2
  go_wp2_with fail
  refine (HF.out.new_bad 0 0 1 11 _ (by decide) (by decide) (by decide) (by decide) (by unfold badX; decide)).mono ?_
  rintro e wc ⟨rfl, hb⟩
  have HB2 := Lib.hid (below_trans HB.out hb)
  clear hb HB
  have HB := HB2
  clear HB2
  go_wp2_with fail
  refine (HF.out.new_bad 0 1073741825 1 1 _ (by decide) (by decide) (by decide) (by decide) (by unfold badX; decide)).mono ?_
  rintro e w0 ⟨rfl, hb⟩
  have HB2 := Lib.hid (below_trans HB.out hb)
  clear hb HB
  have HB := HB2
  clear HB2
  go_wp2_with fail
  refine (ynew HF.out _ [] w0 w0 (AtX.start w0) 4294967294 0 1 1 (by decide) (by decide) (by unfold badX; decide)).mono ?_
  rintro e w1 ⟨g, rfl, h1, h2⟩
  have HM := Lib.hid h1
  clear h1 h2
  unfold madeX
  obtain ⟨z1, hz1⟩ : ∃ z, w1.heap.size = z := ⟨_, rfl⟩
  obtain ⟨w2, ew2⟩ : ∃ v, w1.alloc (.cells C 5) = v := ⟨_, rfl⟩
  have hb12 : Below w1.heap.size w1 w2 := by rw [← ew2]; exact (Below.refl _ _).alloc (Nat.le_refl _) _
  have hrd2 := Hrdm.out w1 z1 hz1
  have h1 := HM.out.more HF.out (w' := w2) (Z' := fun q => q < w0.heap.size ∨ q = z1) (T := fun _ => False) (But.of hb12) (fun _ x => x.elim) (fun _ x => x.elim) (fun q hq => by
    rcases hq with hq | hq
    · exact ⟨.inl hq, by have := HM.out.many.1 q hq; have := hb12.size; omega⟩
    · exact ⟨.inr (by omega), by rw [← ew2]; simp; omega⟩) (fun q hq => .inl hq)
  rw [ew2] at hrd2
  have HM := Lib.hid h1
  have Hrd2 := Lib.hid hrd2
  have Ew2 := Lib.hid ew2
  clear h1 hrd2 hb12 ew2 Hrdm
  have hmk1 := hmk w1
  rw [hz1] at hmk1
  clear hmk
  go_wp2_with fail
  try rw [Ew2.out]
  refine (ywrite HF.out _ 0 g k0 [(g, k0)] [(g, k0)] w0 w2 HM.out rfl 0 (some ⟨z1, 0, none⟩) 16385 16385 (List.replicate 16385 0) k0 3 (by decide) Hrd2.out (by decide) (by decide) (by simp [maxLen]) (fun b o e _ => by injection e with e; injection e with e; exact .inr e.symm) k_v0.1 k_v0.2 rfl).mono ?_
  rintro e w3 ⟨rfl, h1, h2⟩
  have HM := Lib.hid h1
  clear h1 h2 hmk1 Hrd2 Ew2 hz1
  have kc := Go.Joins.run_convert_bytes_const_at (P := Try.prog) w3 37 5 #[.int .u8 97, .int .u8 98, .int .u8 99] 3 3 w3.heap.size rfl Try.underlying37 Try.underlying5
  go_wp2_with fail
  obtain ⟨z, hz⟩ : ∃ z, w3.heap.size = z := ⟨_, rfl⟩
  clear kc
  have hsub := ywrite_lit HF.out _ 0 g k0 [(g, k0)] [(g, k1)] w0 w3 HM.out rfl z hz 5 [97, 98, 99] 3 rfl (3, 4) k1 0 (by decide) (by decide) (by decide) rfl k_v1.1 rfl
  simp only [hz]
  refine Calls.mono hsub ?_
  clear hsub hz
  rintro e w4 ⟨rfl, h1, h2⟩
  have HM := Lib.hid h1
  clear h1 h2
  go_wp2_with fail
  refine (ysend' (ysend HF.out _ 0 g k1 [(g, k1)] [(g, k2)] w0 w4 HM.out rfl 1 k2 _ 0 (by decide) rfl k_v1.2.1 (by decide) rfl)).mono ?_
  rintro e w5 ⟨v5, qs5, Z5, rfl, hp5, hq5, h1, h2, hzz, -⟩
  obtain ⟨A5, c5, rfl⟩ := pcs_no hp5 hq5
  have HM := Lib.hid h1
  clear hp5 hq5 h1 h2 hzz
  go_wp2_with fail
  refine (ytick' (ytick HF.out _ 0 g k2 [(g, k2)] [(g, k3)] w0 w5 HM.out rfl 2 6 k3 4294967294 true 0 [97] (by decide) (by decide) rfl k_v1.2.2.2.2.1 k_v1.2.2.1 k_v1.2.2.2.1 k_v1.2.2.2.2.2 rfl) (by decide)).mono ?_
  rintro e w6 ⟨A6, n6, c6, Z6, rfl, h0, h1, h2, hzz⟩
  have HM := Lib.hid h1
  have H0 := Lib.hid h0
  clear h0 h1 h2 hzz
  go_wp2_with fail
  obtain ⟨z6, hz6⟩ : ∃ z, w6.heap.size = z := ⟨_, rfl⟩
  simp only [hz6]
  obtain ⟨w7, Z7, ew7, h1, h2, hzz, h0⟩ := alloc_next HF.out HM.out hz6 4294967294 A6 n6 c6 [97] H0.out
  simp only [ew7]
  have HM := Lib.hid h1
  have HU := Lib.hid h0
  have HbU := Lib.hid (But.refl (fun q => ¬ Z7 q) w7)
  have HiU := Lib.hid (fun q (hq : Z7 q) => hq)
  clear h0 h1 h2 hzz hz6 ew7 H0
  refine (yack HF.out _ 0 g k3 [(g, k3)] [(g, k4)] w0 w7 HM.out rfl 4294967295 9 7 k4 1 0 (by decide) (by decide) (by decide) rfl k_v2.1 k_v2.2.1 rfl).mono ?_
  rintro e w8 ⟨rfl, h1, h2⟩
  have HM := Lib.hid h1
  have HbU2 := Lib.hid (but_on HbU.out HiU.out h2)
  clear HbU
  have HbU := HbU2
  clear HbU2
  clear h1 h2
  go_wp2_with fail
  refine (ysend' (ysend HF.out _ 0 g k4 [(g, k4)] [(g, k5)] w0 w8 HM.out rfl 1460 k5 _ 0 (by decide) rfl k_v2.2.2.1 (by decide) rfl)).mono ?_
  rintro e w9 ⟨v9, qs9, Z9, rfl, hp9, hq9, h1, h2, hzz, hz9⟩
  obtain ⟨gB, oB, cB, B0, d0, rfl, hB⟩ := pcs_one hp9 hq9 (by decide)
  obtain ⟨YB, hYB⟩ : ∃ Y, blkQ (.slice (some ⟨gB, oB, none⟩) 1 cB) qs9 = Y := ⟨_, rfl⟩
  rw [hYB] at hz9 hB
  have HM := Lib.hid h1
  have HbU2 := Lib.hid (but_on HbU.out HiU.out h2)
  have HiU2 := Lib.hid (sub_trans HiU.out hzz)
  clear HbU HiU
  have HbU := HbU2
  have HiU := HiU2
  clear HbU2 HiU2
  have HBB := Lib.hid (fun W (hb : But (fun q => ¬ YB q) w9 W) => hB W _ hb (fun k hk hn => hn hk))
  have HbB := Lib.hid (But.refl (fun q => ¬ YB q) w9)
  have HiB := Lib.hid hz9
  clear hp9 hq9 h1 h2 hB hzz hz9 hYB
  go_wp2_with fail
  refine (yack HF.out _ 0 g k5 [(g, k5)] [(g, k5)] w0 w9 HM.out rfl 2 9 7 k5 0 1 (by decide) (by decide) (by decide) k_v4 k_v2.2.2.2.2.1 k_v2.2.2.2.2.2 rfl).mono ?_
  rintro e w10 ⟨rfl, h1, h2⟩
  have HM := Lib.hid h1
  have HbU2 := Lib.hid (but_on HbU.out HiU.out h2)
  clear HbU
  have HbU := HbU2
  clear HbU2
  have HbB2 := Lib.hid (but_on HbB.out HiB.out h2)
  clear HbB
  have HbB := HbB2
  clear HbB2
  clear h1 h2
  go_wp2_with fail
  refine (ysend' (ysend HF.out _ 0 g k5 [(g, k5)] [(g, k5)] w0 w10 HM.out rfl 0 k5 [] 1 (by decide) k_s0.1 k_s0.2.1 k_s0.2.2.1 rfl)).mono ?_
  rintro e w11 ⟨v11, qs11, Z11, rfl, hp11, hq11, h1, h2, hzz, -⟩
  obtain ⟨A11, c11, rfl⟩ := pcs_no hp11 hq11
  have HM := Lib.hid h1
  have HbU2 := Lib.hid (but_on HbU.out HiU.out h2)
  have HiU2 := Lib.hid (sub_trans HiU.out hzz)
  clear HbU HiU
  have HbU := HbU2
  have HiU := HiU2
  clear HbU2 HiU2
  have HbB2 := Lib.hid (but_on HbB.out HiB.out h2)
  have HiB2 := Lib.hid (sub_trans HiB.out hzz)
  clear HbB HiB
  have HbB := HbB2
  have HiB := HiB2
  clear HbB2 HiB2
  clear hp11 hq11 h1 h2 hzz
  go_wp2_with fail
  refine (ysend' (ysend HF.out _ 0 g k5 [(g, k5)] [(g, k5)] w0 w11 HM.out rfl 1501 k5 [] 1 (by decide) k_s0.2.2.2.1 k_s0.2.2.2.2.1 k_s0.2.2.2.2.2 rfl)).mono ?_
  rintro e w12 ⟨v12, qs12, Z12, rfl, hp12, hq12, h1, h2, hzz, -⟩
  obtain ⟨A12, c12, rfl⟩ := pcs_no hp12 hq12
  have HM := Lib.hid h1
  have HbU2 := Lib.hid (but_on HbU.out HiU.out h2)
  have HiU2 := Lib.hid (sub_trans HiU.out hzz)
  clear HbU HiU
  have HbU := HbU2
  have HiU := HiU2
  clear HbU2 HiU2
  have HbB2 := Lib.hid (but_on HbB.out HiB.out h2)
  have HiB2 := Lib.hid (sub_trans HiB.out hzz)
  clear HbB HiB
  have HbB := HbB2
  have HiB := HiB2
  clear HbB2 HiB2
  clear hp12 hq12 h1 h2 hzz
  have HN := Lib.hid (fun W => NoX.nil W)
  go_wp2_with fail
  refine (xtick_none (HN.out w12) 1 0).mono ?_
  rintro e w13 ⟨rfl, hb⟩
  have h2 : But (fun q => ¬ Z12 q) w12 w13 := But.of hb
  have HbU2 := Lib.hid (but_on HbU.out HiU.out h2)
  clear HbU
  have HbU := HbU2
  clear HbU2
  have HbB2 := Lib.hid (but_on HbB.out HiB.out h2)
  clear HbB
  have HbB := HbB2
  clear HbB2
  have HM13 := Lib.hid (HM.out.below HF.out hb)
  clear HM hb h2
  go_wp2_with fail
  obtain ⟨w14, ew14⟩ : ∃ v, w13.alloc (.cells #[.int .u32 0, .slice none 0 0] 54) = v := ⟨_, rfl⟩
  have hb : Below w13.heap.size w13 w14 := by rw [← ew14]; exact (Below.refl _ _).alloc (Nat.le_refl _) _
  have h2 : But (fun q => ¬ Z12 q) w13 w14 := But.of hb
  have HbU2 := Lib.hid (but_on HbU.out HiU.out h2)
  clear HbU
  have HbU := HbU2
  clear HbU2
  have HbB2 := Lib.hid (but_on HbB.out HiB.out h2)
  clear HbB
  have HbB := HbB2
  clear HbB2
  have HM := Lib.hid (HM13.out.below HF.out hb)
  clear HM13 hb h2
  try rw [ew14]
  clear ew14
  refine (xack_none (HN.out w14) 0 0 0).mono ?_
  rintro e wq ⟨rfl, rfl⟩
  go_wp2_with fail
  refine (xalarm_none (HN.out w14)).mono ?_
  rintro e wq ⟨rfl, rfl⟩
  obtain ⟨kU0, kU1, jU⟩ := HU.out _ HbU.out
  have pB := HBB.out _ HbB.out
  have kB0 := pB.k0
  have kB1 := pB.k1
  have jB := pB.rd
  have hcU : (convert 37 9 (.slice A6 n6 c6)).run Try.prog w14 = .ok (.string { data := #[97] }) w14 := conv_rd jU c6
  have hcB : (convert 37 9 (.slice B0 2 d0)).run Try.prog w14 = .ok (.string { data := #[98, 99] }) w14 := conv_rd jB d0
  clear pB jU jB
  go_upto_region 22 with (fail)
  dsimp only [List.append] at *
  try simp only []
  repeat (first | go_values | go_skip | go_guarded | go_step | go_upon | go_back)
  refine (ynxt HF.out _ 0 g k5 _ w0 w14 HM.out rfl 1 k_v2.2.2.2.1).mono ?_
  rintro e w15 ⟨rfl, h1, h2⟩
  have HB15 := Lib.hid (below_trans HB.out h1.base)
  clear h1 h2 kU0 kU1 hcU kB0 kB1 hcB
  try simp only []
  repeat (first | go_values | go_skip | go_guarded | go_step | go_upon | go_back)
  refine (xwrite_none (HN.out w15) _ 0).mono ?_
  rintro e w9 ⟨rfl, rfl⟩
  try simp only []
  repeat (first | go_values | go_skip | go_guarded | go_step | go_upon | go_back)
  refine (xuna_none (HN.out w15)).mono ?_
  rintro e w9 ⟨rfl, rfl⟩
  try simp only []
  repeat (first | go_values | go_skip | go_guarded | go_step | go_upon | go_back)
  refine (xnxt_none (HN.out w15)).mono ?_
  rintro e w9 ⟨rfl, rfl⟩
  try simp only []
  repeat (first | go_values | go_skip | go_guarded | go_step | go_upon | go_back)
  refine (xwin_none (HN.out w15)).mono ?_
  rintro e w9 ⟨rfl, rfl⟩
  try simp only []
  repeat (first | go_values | go_skip | go_guarded | go_step | go_upon | go_back)
  refine (xcopy_none (HN.out w15)).mono ?_
  rintro e w9 ⟨rfl, rfl⟩
  try simp only []
  repeat (first | go_values | go_skip | go_guarded | go_step | go_upon | go_back)
  obtain ⟨z16, hz16⟩ : ∃ z, w15.heap.size = z := ⟨_, rfl⟩
  obtain ⟨w16, ew16⟩ : ∃ v, w15.alloc (.cells #[.pointer none, .int .u32 0, .slice none 0 0, .int .i64 0, .int .u32 0, .int .u64 0, .int .i64 0, .int .u64 0, .int .i64 0, .int .u64 0] 84) = v := ⟨_, rfl⟩
  have hk16 : w16.heap[z16]? = some (.cells #[.pointer none, .int .u32 0, .slice none 0 0, .int .i64 0, .int .u32 0, .int .u64 0, .int .i64 0, .int .u64 0, .int .i64 0, .int .u64 0] 84 (0, 0)) := by rw [← ew16, ← hz16]; exact heap_alloc_new w15 _
  have HZ := Lib.hid (NoX.zero hk16 rfl)
  have HE := Lib.hid (show Below w.heap.size w w16 from below_trans HB15.out (by rw [← ew16]; exact (Below.refl _ _).alloc (Nat.le_refl _) _))
  clear hk16
  try rw [hz16]
  try rw [ew16]
  clear ew16 hz16
  refine (xwrite_none HZ.out _ 0).mono ?_
  rintro e w9 ⟨rfl, rfl⟩
  try simp only []
  repeat (first | go_values | go_skip | go_guarded | go_step | go_upon | go_back)
  go_ret
  exact ⟨rfl, HE.out⟩
end Go.Proofs.Ytncbkgcblmohoaa.rexmitKnownW
