/-
  ReasmKnown's walk, over the face.
-/
import Derived.Test.YtmmnicnebammhaaRmNone
import Derived.Test.YtmmnicnebammhaaRmWakes
import Derived.Test.YtmmnicnebammhaaRmSame
import Derived.Deep.LoopGhost
import Derived.Deep.CutRange
namespace Go.Proofs.Ytmmnicnebammhaa.reasmKnownW
set_option maxRecDepth 10000
open Go.RowKit
set_option linter.unusedVariables false
set_option linter.unusedSimpArgs false
variable {BAt : BA}

def KL : Nat → BL
  | 0 => List.replicate 100 none
  | k + 1 => putQ (2 * (k : Int) + 1) [(k : Int)] (KL k)
theorem kl_all : ∀ k : Nat, k < 16 → putN (2 * (k : Int) + 1) [(k : Int)] (KL k) = 1 ∧ putE (2 * (k : Int) + 1) [(k : Int)] (KL k) = 0 := by decide +kernel
/-- What is told behind the sixteen. -/
structure KnownP (M0 M1 M2 M3 M4 M5 : BL) : Prop where
  m0 : putQ 33 [99] M0 = M0 ∧ putN 33 [99] M0 = 0 ∧ putE 33 [99] M0 = 7
  m1 : putQ 2 [98] M0 = M1 ∧ putN 2 [98] M0 = 1 ∧ putE 2 [98] M0 = 0
  m2 : putQ 33 [97] M1 = M2 ∧ putN 33 [97] M1 = 1 ∧ putE 33 [97] M1 = 0
  m3 : putQ 0 [96] M2 = M3 ∧ putN 0 [96] M2 = 1 ∧ putE 0 [96] M2 = 0
  m4 : takeB M3 = [96, 0, 98, 1] ∧ leftB M3 = M4 ∧ num32 (5 + readyB M3) = 9
  m5 : putQ 2147483644 [1] M4 = M5 ∧ putN 2147483644 [1] M4 = 0 ∧ putE 2147483644 [1] M4 = 0
def K1 : BL := putQ 2 [98] (KL 16)
def K2 : BL := putQ 33 [97] K1
def K3 : BL := putQ 0 [96] K2
theorem k_v0 : putQ 33 [99] (KL 16) = KL 16 ∧ putN 33 [99] (KL 16) = 0 ∧ putE 33 [99] (KL 16) = 7 := by decide +kernel
theorem k_v1 : putN 2 [98] (KL 16) = 1 ∧ putE 2 [98] (KL 16) = 0 := by decide +kernel
theorem k_v2 : putN 33 [97] K1 = 1 ∧ putE 33 [97] K1 = 0 := by decide +kernel
theorem k_v3 : putN 0 [96] K2 = 1 ∧ putE 0 [96] K2 = 0 := by decide +kernel
theorem k_v4 : takeB K3 = [96, 0, 98, 1] ∧ num32 (5 + readyB K3) = 9 := by decide +kernel
theorem k_v5 : putN 2147483644 [1] (leftB K3) = 0 ∧ putE 2147483644 [1] (leftB K3) = 0 := by decide +kernel
theorem known_p : ∃ M1 M2 M3 M4 M5, KnownP (KL 16) M1 M2 M3 M4 M5 :=
  ⟨K1, K2, K3, leftB K3, putQ 2147483644 [1] (leftB K3), k_v0, ⟨rfl, k_v1⟩, ⟨rfl, k_v2⟩, ⟨rfl, k_v3⟩, ⟨k_v4.1, rfl, k_v4.2⟩, ⟨rfl, k_v5⟩⟩
theorem none_p : putQ 0 [1] ([] : BL) = [] ∧ putN 0 [1] ([] : BL) = 0 ∧ putE 0 [1] ([] : BL) = 0 ∧ heldI 9 ([] : BL) = [] := by decide +kernel
theorem own_on {Z : Nat → Prop} {w w' : World} {B n c : Nat} {A : Option Addr} {l : List Int} (h : OwnB w B A n c l) (hb : But (fun k => ¬ Z k) w w') (hZ : ∀ b, (Value.slice A n c).ownBlock = some b → Z b) : OwnB w' B A n c l := by
  refine ⟨h.1, ?_⟩
  rcases h.2 with h0 | ⟨g, cap, cur, e, hB, hc, hrest⟩
  · exact .inl h0
  · exact .inr ⟨g, cap, cur, e, hB, hb.blk hc (fun hk => hk (hZ g (by rw [e]; rfl))), hrest⟩
set_option maxHeartbeats 4000000 in
theorem walk (F : BFace BAt) (w : World) : Calls Try.prog 7 #[] w fun e w' => e = .returned (.bool true) ∧ Below w.heap.size w w' := by
  obtain ⟨z, ez⟩ : ∃ z, w.heap.size = z := ⟨_, rfl⟩
  obtain ⟨w1, ew1⟩ : ∃ v, w.alloc (.cells #[.pointer none, .int .u32 0, .int .i64 0, .int .i64 0, .map none] 59) = v := ⟨_, rfl⟩
  have hk1 : w1.heap[z]? = some (.cells #[.pointer none, .int .u32 0, .int .i64 0, .int .i64 0, .map none] 59 (0, 0)) := by rw [← ew1, ← ez]; exact heap_alloc_new w _
  have HB := Lib.hid (show Below w.heap.size w w1 by rw [← ew1]; exact (Below.refl _ _).alloc (Nat.le_refl _) _)
  have HZ := Lib.hid (NoB.zero hk1 rfl)
  have HN := Lib.hid (NoB.nil w1)
  have HF := Lib.hid F
  clear F hk1
  go_enter Try.func7, Try.ntmps7
  go_upto_region 3 with (fail)
  try rw [ew1]
  try rw [ez]
  clear ew1
  go_wp2_with fail
  refine (put_none HN.out _ _).mono ?_
  rintro e w9 ⟨rfl, rfl⟩
  go_wp2_with fail
  refine (put_none HZ.out _ _).mono ?_
  rintro e w9 ⟨rfl, rfl⟩
  go_wp2_with fail
  refine (HF.out.new_bad 0 (-1) _ (by decide) (by decide) (by decide)).mono ?_
  rintro e w2 ⟨rfl, hb⟩
  have HN2 := Lib.hid (HN.out.on hb)
  have HZ2 := Lib.hid (HZ.out.on hb)
  have HB2 := Lib.hid (below_trans HB.out hb)
  clear hb HN HZ HB
  have HN := HN2
  have HZ := HZ2
  have HB := HB2
  clear HN2 HZ2 HB2
  go_wp2_with fail
  refine (HF.out.new_bad 0 16385 _ (by decide) (by decide) (by decide)).mono ?_
  rintro e w3 ⟨rfl, hb⟩
  have HN2 := Lib.hid (HN.out.on hb)
  have HZ2 := Lib.hid (HZ.out.on hb)
  have HB2 := Lib.hid (below_trans HB.out hb)
  clear hb HN HZ HB
  have HN := HN2
  have HZ := HZ2
  have HB := HB2
  clear HN2 HZ2 HB2
  go_wp2_with fail
  refine (room_none HN.out).mono ?_
  rintro e w9 ⟨rfl, rfl⟩
  go_wp2_with fail
  refine (room_none HZ.out).mono ?_
  rintro e w9 ⟨rfl, rfl⟩
  go_wp2_with fail
  refine (ready_none HN.out).mono ?_
  rintro e w9 ⟨rfl, rfl⟩
  go_wp2_with fail
  refine (ready_none HZ.out).mono ?_
  rintro e w9 ⟨rfl, rfl⟩
  go_wp2_with fail
  refine (next_none HN.out).mono ?_
  rintro e w9 ⟨rfl, rfl⟩
  go_wp2_with fail
  refine (next_none HZ.out).mono ?_
  rintro e w9 ⟨rfl, rfl⟩
  go_wp2_with fail
  refine (take_none HN.out).mono ?_
  rintro e w9 ⟨rfl, rfl⟩
  go_wp2_with fail
  refine (take_none HZ.out).mono ?_
  rintro e w9 ⟨rfl, rfl⟩
  go_wp2_with fail
  refine (held_none HN.out).mono ?_
  rintro e w4 ⟨rfl, hb⟩
  have HN2 := Lib.hid (HN.out.on hb)
  have HZ2 := Lib.hid (HZ.out.on hb)
  have HB2 := Lib.hid (below_trans HB.out hb)
  clear hb HN HZ HB
  have HN := HN2
  have HZ := HZ2
  have HB := HB2
  clear HN2 HZ2 HB2
  go_wp2_with fail
  refine (held_none HZ.out).mono ?_
  rintro e w5 ⟨rfl, hb⟩
  have HN2 := Lib.hid (HN.out.on hb)
  have HZ2 := Lib.hid (HZ.out.on hb)
  have HB2 := Lib.hid (below_trans HB.out hb)
  clear hb HN HZ HB
  have HN := HN2
  have HZ := HZ2
  have HB := HB2
  clear HN2 HZ2 HB2
  go_wp2_with fail
  refine (copy_none HN.out).mono ?_
  rintro e w9 ⟨rfl, rfl⟩
  clear HN HZ
  go_wp2_with fail
  refine (snew HF.out _ [] w5 w5 (At18.start w5) 5 100 (by decide) (by decide)).mono ?_
  rintro e w6 ⟨g, rfl, h1, h2⟩
  have HM := Lib.hid h1
  clear h1 h2
  unfold madeR
  go_wp2_with fail
  go_loopg [13] 16 (fun gk x13 wr => ∃ k : Nat, Hid (gk + k = 16) ∧ x13 = .int .u32 (k : Int) ∧ Hid (At18 BAt (fun k => k < w5.heap.size) w5 [(g, 5, KL k)] wr))
  case atStart => exact ⟨0, Lib.hid rfl, rfl, HM⟩
  case round =>
    clear HM
    obtain ⟨k, hgk, rfl, HM⟩ := hrel
    have hgk2 := hgk.out
    have i0 : (0 : Int) ≤ (k : Int) := by omega
    by_cases hk : k < 16
    · have i1 : (k : Int) < 16 := by omega
      obtain ⟨hn, he⟩ := kl_all k hk
      obtain ⟨z1, ez1⟩ : ∃ z, wr.heap.size = z := ⟨_, rfl⟩
      have hpu := sput_lit HF.out _ 0 g 5 (KL k) [(g, 5, KL k)] [(g, 5, KL (k + 1))] w5 wr HM.out rfl z1 ez1 (6 + 2 * (k : Int)) [(k : Int)] 1 rfl (2 * (k : Int) + 1) (KL (k + 1)) 1 0 (by omega) (fun y hy => by simp at hy; omega) (by decide) (by unfold diffB num32; omega) rfl hn he rfl
      have HPu := Lib.hid hpu
      have m1 : (k : Int) % 256 = k := by omega
      have m2 : IntKind.u8.wrap (k : Int) = k := by rw [IntKind.wrap_u8]; omega
      have Hx := Lib.hid (And.intro hgk2 hk)
      clear hpu hn he hgk2 hk
      go_wp2_with fail
      try rw [ez1]
      clear ez1 m1 m2
      refine HPu.out.mono ?_
      rintro e w7 ⟨rfl, h1, h2⟩
      have HM2 := Lib.hid h1
      clear h1 h2
      go_wp2_with fail
      go_roundg (gk - 1)
      case measure => have := Hx.out; omega
      case rel => exact ⟨k + 1, Lib.hid (by have := Hx.out; show gk - 1 + (k + 1) = _; omega), by go_num, HM2⟩
    · obtain rfl : k = 16 := by omega
      have i1 : ¬ ((16 : Nat) : Int) < 16 := by decide
      obtain ⟨M1, M2, M3, M4, M5, hK⟩ := known_p
      obtain ⟨M0, eM0⟩ : ∃ M, KL 16 = M := ⟨_, rfl⟩
      rw [eM0] at hK HM
      have HK := Lib.hid hK
      clear hgk2 hk eM0 hK
      obtain ⟨z2, ez2⟩ : ∃ z, wr.heap.size = z := ⟨_, rfl⟩
      have HPu := Lib.hid (sput_lit HF.out _ 0 g 5 M0 [(g, 5, M0)] [(g, 5, M0)] w5 wr HM.out rfl z2 ez2 38 [99] 1 rfl 33 M0 0 7 (by decide) (by decide) (by decide) (by decide) HK.out.m0.1 HK.out.m0.2.1 HK.out.m0.2.2 rfl)
      go_wp2_with fail
      try rw [ez2]
      clear ez2
      refine HPu.out.mono ?_
      rintro e wa ⟨rfl, h1, h2⟩
      have HM := Lib.hid h1
      clear HPu
      clear h1 h2
      obtain ⟨z3, ez3⟩ : ∃ z, wa.heap.size = z := ⟨_, rfl⟩
      have HPu := Lib.hid (sput_lit HF.out _ 0 g 5 M0 [(g, 5, M0)] [(g, 5, M1)] w5 wa HM.out rfl z3 ez3 7 [98] 1 rfl 2 M1 1 0 (by decide) (by decide) (by decide) (by decide) HK.out.m1.1 HK.out.m1.2.1 HK.out.m1.2.2 rfl)
      go_wp2_with fail
      try rw [ez3]
      clear ez3
      refine HPu.out.mono ?_
      rintro e wb ⟨rfl, h1, h2⟩
      have HM := Lib.hid h1
      clear HPu
      clear h1 h2
      obtain ⟨z4, ez4⟩ : ∃ z, wb.heap.size = z := ⟨_, rfl⟩
      have HPu := Lib.hid (sput_lit HF.out _ 0 g 5 M1 [(g, 5, M1)] [(g, 5, M2)] w5 wb HM.out rfl z4 ez4 38 [97] 1 rfl 33 M2 1 0 (by decide) (by decide) (by decide) (by decide) HK.out.m2.1 HK.out.m2.2.1 HK.out.m2.2.2 rfl)
      go_wp2_with fail
      try rw [ez4]
      clear ez4
      refine HPu.out.mono ?_
      rintro e wc ⟨rfl, h1, h2⟩
      have HM := Lib.hid h1
      clear HPu
      clear h1 h2
      obtain ⟨z5, ez5⟩ : ∃ z, wc.heap.size = z := ⟨_, rfl⟩
      have HPu := Lib.hid (sput_lit HF.out _ 0 g 5 M2 [(g, 5, M2)] [(g, 5, M3)] w5 wc HM.out rfl z5 ez5 5 [96] 1 rfl 0 M3 1 0 (by decide) (by decide) (by decide) (by decide) HK.out.m3.1 HK.out.m3.2.1 HK.out.m3.2.2 rfl)
      go_wp2_with fail
      try rw [ez5]
      clear ez5
      refine HPu.out.mono ?_
      rintro e wd ⟨rfl, h1, h2⟩
      have HM := Lib.hid h1
      clear HPu
      clear h1 h2
      go_wp2_with fail
      refine (stake HF.out _ 0 g 5 M3 [(g, 5, M3)] [(g, 9, M4)] w5 wd HM.out rfl 9 M4 [96, 0, 98, 1] HK.out.m4.1 HK.out.m4.2.1 HK.out.m4.2.2 rfl).mono ?_
      rintro e we ⟨Ax, nx, cx, rfl, hnx, hx, h1, h2⟩
      obtain rfl : 4 = nx := hnx
      have HM := Lib.hid h1
      have Hx := Lib.hid (hx.mono (B' := 0) (Nat.zero_le _))
      clear h1 h2 hx
      go_wp2_with fail
      refine (snew HF.out _ _ w5 we HM.out 9 0 (by decide) (by decide)).mono ?_
      rintro e wf ⟨g2, rfl, h1, h2⟩
      have HM := Lib.hid h1
      have Hx := Lib.hid (own_on Hx.out h2 (fun b hb => .inr hb))
      clear h1 h2
      unfold madeR
      obtain ⟨z6, ez6⟩ : ∃ z, wf.heap.size = z := ⟨_, rfl⟩
      have HPu := Lib.hid (sput_lit HF.out _ 1 g2 9 [] [(g, 9, M4), (g2, 9, [])] [(g, 9, M4), (g2, 9, [])] w5 wf HM.out rfl z6 ez6 9 [1] 1 rfl 0 [] 0 0 (by decide) (by decide) (by decide) (by decide) none_p.1 none_p.2.1 none_p.2.2.1 rfl)
      go_wp2_with fail
      try rw [ez6]
      clear ez6
      refine HPu.out.mono ?_
      rintro e wg ⟨rfl, h1, h2⟩
      have HM := Lib.hid h1
      clear HPu
      have Hx := Lib.hid (own_on Hx.out h2 (fun b hb => .inr hb))
      clear h1 h2
      obtain ⟨z7, ez7⟩ : ∃ z, wg.heap.size = z := ⟨_, rfl⟩
      have HPu := Lib.hid (sput_lit HF.out _ 0 g 9 M4 [(g, 9, M4), (g2, 9, [])] [(g, 9, M5), (g2, 9, [])] w5 wg HM.out rfl z7 ez7 2147483653 [1] 1 rfl 2147483644 M5 0 0 (by decide) (by decide) (by decide) (by decide) HK.out.m5.1 HK.out.m5.2.1 HK.out.m5.2.2 rfl)
      go_wp2_with fail
      try rw [ez7]
      clear ez7
      refine HPu.out.mono ?_
      rintro e wh ⟨rfl, h1, h2⟩
      have HM := Lib.hid h1
      clear HPu
      have Hx := Lib.hid (own_on Hx.out h2 (fun b hb => .inr hb))
      clear h1 h2
      obtain ⟨gx, rfl, -, -⟩ := Hx.out.addr (by decide)
      have x0 := Hx.out.cell 0 (by decide)
      have x1 := Hx.out.cell 1 (by decide)
      have x2 := Hx.out.cell 2 (by decide)
      have x3 := Hx.out.cell 3 (by decide)
      simp only [List.getD, List.getElem?_cons_zero, List.getElem?_cons_succ, Option.getD_some] at x0 x1 x2 x3
      go_upto_region 26 with (fail)
      dsimp only [List.append] at *
      try simp only []
      repeat (first | go_values | go_skip | go_guarded | go_step | go_upon | go_back)
      refine (snext HF.out _ 0 g 9 M5 _ w5 wh HM.out rfl).mono ?_
      rintro e wi ⟨rfl, h1, h2⟩
      have HM := Lib.hid h1
      clear h1 h2 x0 x1 x2 x3
      try simp only []
      repeat (first | go_values | go_skip | go_guarded | go_step | go_upon | go_back)
      refine (sheld HF.out _ 1 g2 9 [] _ w5 wi HM.out rfl [] none_p.2.2.2).mono ?_
      rintro e wj ⟨A9, n9, c9, rfl, hn9, hs9, h1, h2⟩
      obtain rfl : 0 = n9 := hn9
      have HM := Lib.hid h1
      have Hs9 := Lib.hid hs9
      clear h1 h2 hs9
      try simp only []
      repeat (first | go_values | go_skip | go_guarded | go_step | go_upon | go_back)
      refine (same18_any (.slice none 0 0) (.slice A9 0 c9) [] [] true wj (.inl ⟨rfl, rfl, rfl⟩) Hs9.out (by decide) (by decide)).mono ?_
      rintro e wk ⟨rfl, m9, rfl⟩
      have HB9 := Lib.hid (below_trans (below_trans HB.out HM.out.base) (((But.refl (fun _ => False) wj).drewN m9).below (fun _ h => h.elim) (Nat.le_refl _)))
      try simp only []
      repeat (first | go_values | go_skip | go_guarded | go_step | go_upon | go_back)
      refine (rmwake_any HF.out _).mono ?_
      rintro e wl ⟨rfl, hb⟩
      have HE := Lib.hid (below_trans HB9.out hb)
      clear hb
      try simp only []
      repeat (first | go_values | go_skip | go_guarded | go_step | go_upon | go_back)
      go_ret
      exact ⟨rfl, HE.out⟩
end Go.Proofs.Ytmmnicnebammhaa.reasmKnownW
