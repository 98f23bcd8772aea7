/-
  The program's own Make.
-/
import Derived.Test.YtgcliijngaohdaaDoorTk
import Derived.Test.YtgcliijngaohdaaDoorCkGoB
namespace Go.Proofs.YtgcliijngaohdaaDoor
set_option maxRecDepth 10000
open Go.RowKit
set_option linter.unusedSimpArgs false
set_option linter.unusedVariables false

theorem or_mark (g n : Int) (hg : 0 ≤ g ∧ g < 16777216) (hn : 0 ≤ n ∧ n < 256) : bits .or .u32 (g * 256) n = g * 256 + n :=
  bits_join .u32 32 (by decide) wraps_u32C 8 (g * 256) n (by omega) (by omega) (by omega) (by omega) (by omega) (by omega)
set_option maxHeartbeats 2000000 in
theorem makef17 : MakeF17 := by
  intro key t cl tick c k s y e w hk ht hc he hi hy hx hsz
  obtain ⟨z, hz⟩ : ∃ z, w.heap.size = z := ⟨_, rfl⟩
  obtain ⟨w0, ew⟩ : ∃ v, (w.alloc (.cells #[.int .u8 t.pr, .int .u32 t.sr, .int .u32 t.ds, .int .u16 t.sp, .int .u16 t.dp] 26)).alloc (.cells #[.int .i64 c, .bool k, .int .i64 s] 30) = v := ⟨_, rfl⟩
  have hb0 : Below w.heap.size w w0 := by rw [← ew]; exact ((Below.refl _ _).alloc (Nat.le_refl _) _).alloc (by simp) _
  have hk0 : w0.heap[z]? = some (.cells #[.int .u8 t.pr, .int .u32 t.sr, .int .u32 t.ds, .int .u16 t.sp, .int .u16 t.dp] 26 (0, 0)) := by rw [← ew, Below.heap_alloc _ _ _ (by simp [hz]), ← hz]; exact heap_alloc_new w _
  have hk1 : w0.heap[z + 1]? = some (.cells #[.int .i64 c, .bool k, .int .i64 s] 30 (0, 0)) := by rw [← ew, ← hz]; simpa using heap_alloc_new (w.alloc (.cells #[.int .u8 t.pr, .int .u32 t.sr, .int .u32 t.ds, .int .u16 t.sp, .int .u16 t.dp] 26)) (.cells #[.int .i64 c, .bool k, .int .i64 s] 30)
  obtain ⟨n, en⟩ : ∃ x, szC c = x := ⟨_, rfl⟩
  obtain ⟨f, ef⟩ : ∃ x, szE c = x := ⟨_, rfl⟩
  have hse := szE_cases c
  rw [ef] at hse
  have HSz := Lib.hid (fun W hW => sizef17 c n f W en ef hW)
  have HZ := Lib.hid (hsz.on hb0)
  have Ew := Lib.hid ew
  have Hz := Lib.hid hz
  have HB := Lib.hid hb0
  have HI := Lib.hid hk1
  have HT := Lib.hid hk0
  obtain ⟨i0, i1, i2⟩ := cells3C hk1
  by_cases hm : mayC c s
  case neg =>
    have Hyx := Lib.hid (show y = 0 ∧ e = 1 by unfold makeV at hy; unfold makeE at hx; rw [if_neg hm] at hy hx; exact ⟨hy.symm, hx.symm⟩)
    obtain rfl : y = 0 := Hyx.out.1
    obtain rfl : e = 1 := Hyx.out.2
    have hm2 : f = 1 ∨ (f = 0 ∧ s < -1) ∨ (f = 0 ∧ ¬ s < -1 ∧ 14 < s) := by unfold mayC at hm; omega
    clear hm hy hx hk ht hc he Hyx hse hsz ew hz hb0 hk0 hk1 en ef
    rcases hm2 with h | ⟨h, g1⟩ | ⟨h, g1, g2⟩
    all_goals
      subst h
      go_enter Tryd.func13, Tryd.ntmps13
      go_upto_region 1 with (fail)
      rw [Ew.out]
      try rw [Hz.out]
      go_wp2_with fail
      refine (HSz.out _ HZ.out).mono ?_
      rintro e w1 ⟨rfl, hb⟩
      have HL := Lib.hid hb
      obtain ⟨i0, i1, i2⟩ := cells3C (blk_on HI.out hb)
      clear hb
      go_wp2_with fail
      go_ret2
      exact ⟨rfl, below_trans HB.out HL.out⟩
  have hf : f = 0 := by unfold mayC at hm; omega
  subst hf
  have g3 : ¬ s < -1 := by unfold mayC at hm; omega
  have g4 : ¬ 14 < s := by unfold mayC at hm; omega
  have tq : Int.tdiv tick 64 = tick / 64 := Int.tdiv_eq_ediv_of_nonneg he.1
  have tw : IntKind.u64.wrap (tick / 64) = tick / 64 := by rw [IntKind.wrap_u64]; have := divC_bd he 64 (by decide); unfold U64C at this; omega
  obtain ⟨h, eh⟩ : ∃ x, hashC key t cl (tick / 64) = x := ⟨_, rfl⟩
  have hb : U64C h := by rw [← eh]; exact hashC_bd _ _ _ _
  have HH := Lib.hid (fun W => hashf17 key t cl (tick / 64) h W hk ht hc (divC_bd he 64 (by decide)) eh)
  obtain ⟨g, eg⟩ : ∃ x, h / 1099511627776 = x := ⟨_, rfl⟩
  obtain ⟨m, em⟩ : ∃ x, g * 256 = x := ⟨_, rfl⟩
  have HM := Lib.hid (fun W => mark17_any h m W hb (by rw [eg, em]))
  have HX := Lib.hid (fun W => bits17_any c k s W hm)
  obtain ⟨d, ed⟩ : ∃ x, encC c k s = x := ⟨_, rfl⟩
  have hd := enc_bd k hm.1 hm.2
  rw [ed] at HX hd
  have hor : bits .or .u32 m d = y := by
    rw [← em, or_mark g d (by unfold U64C at hb; omega) hd, ← hy]
    unfold makeV hiC
    rw [if_pos hm, eh, eg, ed]
  have he0 : e = 0 := by rw [← hx]; unfold makeE; rw [if_pos hm]
  subst he0
  clear hm hy hx hk ht hc he hse hsz ew hz hb0 hk0 hk1 en ef eh hb eg em ed hd
  go_enter Tryd.func13, Tryd.ntmps13
  go_upto_region 1 with (fail)
  rw [Ew.out]
  try rw [Hz.out]
  go_wp2_with fail
  refine (HSz.out _ HZ.out).mono ?_
  rintro e w1 ⟨rfl, hb⟩
  have HL := Lib.hid hb
  obtain ⟨i0, i1, i2⟩ := cells3C (blk_on HI.out hb)
  clear hb
  go_upto_region 4 with (fail)
  have HS8 := Lib.hid (fun W (hW : Below w0.heap.size w0 W) => And.intro (blk_on HT.out hW) (blk_on HI.out hW))
  refine wp_region_held_drew (S := fun w' => w'.heap[z]? = some (.cells #[.int .u8 t.pr, .int .u32 t.sr, .int .u32 t.ds, .int .u16 t.sp, .int .u16 t.dp] 26 (0, 0)) ∧ w'.heap[z + 1]? = some (.cells #[.int .i64 c, .bool k, .int .i64 s] 30 (0, 0))) (by kernel_rfl) (HS8.out _ (HL.out.drew)) (fun hHeld => ?_)
  obtain ⟨x6, ev⟩ : ∃ v, w1.drew = v := ⟨_, rfl⟩
  have HLy := Lib.hid (show Below w0.heap.size w0 x6 by rw [← ev]; exact HL.out.drew)
  rw [ev] at hHeld ⊢
  clear ev i0 i1 i2
  refine tk 0 ?_ rfl ?_ ?_
  rotate_left
  · intro w' hSw; (go_simp <;> (with_reducible rfl))
  try simp only [Act.put, putL]
  refine tk 1 (.agg #[.int .u8 t.pr, .int .u32 t.sr, .int .u32 t.ds, .int .u16 t.sp, .int .u16 t.dp]) rfl (fun w' hSw => exec_row 26 (.tmp 6) rfl z _ _ _ _ (hSw.1) rfl Tryd.underlying26 rfl (by kernel_rfl)) ?_
  try simp only [Act.put, putL]
  refine tk 2 ?_ rfl ?_ ?_
  rotate_left
  · intro w' hSw; (go_simp <;> (with_reducible rfl))
  try simp only [Act.put, putL]
  refine tk 3 ?_ rfl ?_ ?_
  rotate_left
  · intro w' hSw; (go_simp <;> (with_reducible rfl))
  try simp only [Act.put, putL]
  refine tk 4 ?_ rfl ?_ ?_
  rotate_left
  · intro w' hSw; (go_simp <;> (with_reducible rfl))
  try simp only [Act.put, putL]
  refine tk 7 (.agg #[.int .i64 c, .bool k, .int .i64 s]) rfl (fun w' hSw => exec_row 30 (.tmp 9) rfl (z + 1) _ _ _ _ (hSw.2) rfl Tryd.underlying30 rfl (by kernel_rfl)) ?_
  try simp only [Act.put, putL]
  refine tkC 5 rfl (fun K hK => ?_)
  go_simp
  (refine (HH.out _).mono ?_; rintro e y1 ⟨rfl, hb⟩; have HLy1 := Lib.hid (below_trans HLy.out hb); clear hb)
  refine hK.out _ _ ?_ (fun hHeld => ?_)
  · exact HS8.out _ HLy1.out
  clear hK K
  try simp only [Act.put, putL]
  refine tkC 6 rfl (fun K hK => ?_)
  go_simp
  (refine (HM.out _).mono ?_; rintro e y2 ⟨rfl, hb⟩; have HLy2 := Lib.hid (below_trans HLy1.out hb); clear hb)
  refine hK.out _ _ ?_ (fun hHeld => ?_)
  · exact HS8.out _ HLy2.out
  clear hK K
  try simp only [Act.put, putL]
  refine tkC 8 rfl (fun K hK => ?_)
  go_simp
  (refine (HX.out _).mono ?_; rintro e y3 ⟨rfl, hb⟩; have HLy3 := Lib.hid (below_trans HLy2.out hb); clear hb)
  refine hK.out _ _ ?_ (fun hHeld => ?_)
  · exact HS8.out _ HLy3.out
  clear hK K
  try simp only [Act.put, putL]
  refine tk 9 ?_ rfl ?_ ?_
  rotate_left
  · intro w' hSw; (go_simp <;> (with_reducible rfl))
  try simp only [Act.put, putL]
  refine tk 10 ?_ rfl ?_ ?_
  rotate_left
  · intro w' hSw; (go_simp <;> (with_reducible rfl))
  try simp only [Act.put, putL]
  refine tk 11 ?_ rfl ?_ ?_
  rotate_left
  · intro w' hSw; (go_simp <;> (with_reducible rfl))
  try simp only [Act.put, putL]
  refine wpAnyH_done (by kernel_rfl) ?_ _
  clear hHeld
  go_wp2_with fail
  go_ret2
  exact ⟨rfl, below_trans HB.out HLy3.out⟩
end Go.Proofs.YtgcliijngaohdaaDoor
