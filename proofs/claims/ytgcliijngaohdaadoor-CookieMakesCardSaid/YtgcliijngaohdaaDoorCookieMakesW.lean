/-
  CookieMakes' walk, over the face.
-/
import Derived.Test.YtgcliijngaohdaaDoorTk
import Derived.Test.YtgcliijngaohdaaDoorCkFace
namespace Go.Proofs.YtgcliijngaohdaaDoor.cookieMakesW
set_option maxRecDepth 10000
open Go.RowKit
set_option linter.unusedVariables false
set_option linter.unusedSimpArgs false

set_option maxHeartbeats 4000000 in
theorem walk (fc : ClassF17) (fs : SizeF17) (fh : HashF17) (fm : MakeF17) (w : World) (key : Int) (t : Tu) (cl tick c : Int) (k : Bool) (s m : Int) (hk : U64C key) (ht : TuNum t) (hc : 0 ≤ cl ∧ cl < 4294967296) (he : U64C tick) (hi : InfoN c s) (hm : 0 ≤ m ∧ m < 65536) (hsz : SzW w) :
    Calls Tryd.prog 3 #[.agg #[.int .u64 key, .int .u8 t.pr, .int .u32 t.sr, .int .u32 t.ds, .int .u16 t.sp, .int .u16 t.dp, .int .u32 cl, .int .u64 tick], .agg #[.int .i64 c, .bool k, .int .i64 s], .int .u16 m] w fun e w' => e = .returned (.bool true) ∧ Below w.heap.size w w' := by
  obtain ⟨z, hz⟩ : ∃ z, w.heap.size = z := ⟨_, rfl⟩
  obtain ⟨w0, ew⟩ : ∃ v, (w.alloc (.cells #[.int .u64 key, .int .u8 t.pr, .int .u32 t.sr, .int .u32 t.ds, .int .u16 t.sp, .int .u16 t.dp, .int .u32 cl, .int .u64 tick] 28)).alloc (.cells #[.int .i64 c, .bool k, .int .i64 s] 30) = v := ⟨_, rfl⟩
  have hb0 : Below w.heap.size w w0 := by rw [← ew]; exact ((Below.refl _ _).alloc (Nat.le_refl _) _).alloc (by simp) _
  have hk0 : w0.heap[z]? = some (.cells #[.int .u64 key, .int .u8 t.pr, .int .u32 t.sr, .int .u32 t.ds, .int .u16 t.sp, .int .u16 t.dp, .int .u32 cl, .int .u64 tick] 28 (0, 0)) := by rw [← ew, Below.heap_alloc _ _ _ (by simp [hz]), ← hz]; exact heap_alloc_new w _
  have hk1 : w0.heap[z + 1]? = some (.cells #[.int .i64 c, .bool k, .int .i64 s] 30 (0, 0)) := by rw [← ew, ← hz]; simpa using heap_alloc_new (w.alloc (.cells #[.int .u64 key, .int .u8 t.pr, .int .u32 t.sr, .int .u32 t.ds, .int .u16 t.sp, .int .u16 t.dp, .int .u32 cl, .int .u64 tick] 28)) (.cells #[.int .i64 c, .bool k, .int .i64 s] 30)
  have HF := Lib.hid (fun W (hW : Below w0.heap.size w0 W) => And.intro (blk_on hk0 hW) (blk_on hk1 hW))
  have HLw0 := Lib.hid (Below.refl w0.heap.size w0)
  have HZ := Lib.hid (fun W (hW : Below w0.heap.size w0 W) => (hsz.on hb0).on hW)
  have HB := Lib.hid hb0
  have Ew := Lib.hid ew
  have Hz := Lib.hid hz
  obtain ⟨i, ei⟩ : ∃ x, clsI m = x := ⟨_, rfl⟩
  obtain ⟨b, eb⟩ : ∃ x, clsB m = x := ⟨_, rfl⟩
  obtain ⟨n, en⟩ : ∃ x, szC c = x := ⟨_, rfl⟩
  obtain ⟨f, ef⟩ : ∃ x, szE c = x := ⟨_, rfl⟩
  obtain ⟨y, ey⟩ : ∃ x, makeV key t cl tick c k s = x := ⟨_, rfl⟩
  obtain ⟨g, eg⟩ : ∃ x, makeE c s = x := ⟨_, rfl⟩
  obtain ⟨h, eh⟩ : ∃ x, hashC key t cl tick = x := ⟨_, rfl⟩
  have hf : f = 0 ∨ f = 1 := by have := szE_cases c; omega
  have hg : g = 0 ∨ g = 1 := by have := makeE_bd c s; omega
  have hf64 : wrap64 f = f := IntWalk.wrap64_in _ (by omega)
  have hg64 : wrap64 g = g := IntWalk.wrap64_in _ (by omega)
  have C1 := Lib.hid (fun W => fc m i b W hm ei eb)
  have C2 := Lib.hid (fun W => rclass17_any m i b W hm ei eb)
  have S1 := Lib.hid (fun W => fs c n f W en ef)
  have S2 := Lib.hid (fun W => rsize17_any c n f W en ef)
  have M1 := Lib.hid (fun W => fm key t cl tick c k s y g W hk ht hc he hi ey eg)
  have M2 := Lib.hid (fun W => rmake17_any key t cl tick c k s y g W hk ht hc he hi ey eg)
  have H1 := Lib.hid (fun W => fh key t cl tick h W hk ht hc he eh)
  have H2 := Lib.hid (fun W => rhash17_any key t cl tick h W hk ht hc he eh)
  have A1 := Lib.hid (fun W => awake17_any fc fm W)
  clear hsz fc fs fh fm hk ht hc he hi hm ei eb en ef ey eg eh hf hg ew hz hb0 hk0 hk1
  go_enter Tryd.func3, Tryd.ntmps3
  go_upto_region 1 with (fail)
  rw [Ew.out]
  try rw [Hz.out]
  skip
  go_wp2_with fail
  refine (C1.out _ (HZ.out _ HLw0.out)).mono ?_
  rintro e w1 ⟨rfl, hb⟩
  have HLw1 := Lib.hid (below_trans HLw0.out hb)
  clear hb
  skip
  skip
  go_wp2_with fail
  refine (C2.out _).mono ?_
  rintro e w2 ⟨rfl, hb⟩
  have HLw2 := Lib.hid (below_trans HLw1.out hb)
  clear hb
  skip
  obtain ⟨i0, i1, i2⟩ := cells3C (HF.out _ HLw2.out).2
  go_wp2_with fail
  refine (S1.out _ (HZ.out _ HLw2.out)).mono ?_
  rintro e w3 ⟨rfl, hb⟩
  have HLw3 := Lib.hid (below_trans HLw2.out hb)
  clear hb
  clear i0 i1 i2
  obtain ⟨i0, i1, i2⟩ := cells3C (HF.out _ HLw3.out).2
  go_wp2_with fail
  refine (S2.out _).mono ?_
  rintro e w4 ⟨rfl, hb⟩
  have HLw4 := Lib.hid (below_trans HLw3.out hb)
  clear hb
  clear i0 i1 i2
  obtain ⟨s0, s1, s2, s3, s4, s5, s6, s7⟩ := cells8C (HF.out _ HLw4.out).1
  obtain ⟨i0, i1, i2⟩ := cells3C (HF.out _ HLw4.out).2
  go_wp2_with fail
  refine (M1.out _ (HZ.out _ HLw4.out)).mono ?_
  rintro e w5 ⟨rfl, hb⟩
  have HLw5 := Lib.hid (below_trans HLw4.out hb)
  clear hb
  clear i0 i1 i2 s0 s1 s2 s3 s4 s5 s6 s7
  obtain ⟨s0, s1, s2, s3, s4, s5, s6, s7⟩ := cells8C (HF.out _ HLw5.out).1
  obtain ⟨i0, i1, i2⟩ := cells3C (HF.out _ HLw5.out).2
  go_wp2_with fail
  refine (M2.out _).mono ?_
  rintro e w6 ⟨rfl, hb⟩
  have HLw6 := Lib.hid (below_trans HLw5.out hb)
  clear hb
  clear i0 i1 i2 s0 s1 s2 s3 s4 s5 s6 s7
  go_upto_region 7 with (fail)
  have HS8 := Lib.hid (fun W (hW : Below w0.heap.size w0 W) => cells8C (HF.out W hW).1)
  refine wp_region_held_drew (S := fun w' => w'.cell? ⟨z, 0, none⟩ = some (.int .u64 key) ∧ w'.cell? ⟨z, 1, none⟩ = some (.int .u8 t.pr) ∧ w'.cell? ⟨z, 2, none⟩ = some (.int .u32 t.sr) ∧ w'.cell? ⟨z, 3, none⟩ = some (.int .u32 t.ds) ∧ w'.cell? ⟨z, 4, none⟩ = some (.int .u16 t.sp) ∧ w'.cell? ⟨z, 5, none⟩ = some (.int .u16 t.dp) ∧ w'.cell? ⟨z, 6, none⟩ = some (.int .u32 cl) ∧ w'.cell? ⟨z, 7, none⟩ = some (.int .u64 tick)) (by kernel_rfl) (HS8.out _ (HLw6.out.drew)) (fun hHeld => ?_)
  obtain ⟨x6, ev⟩ : ∃ v, w6.drew = v := ⟨_, rfl⟩
  have HLy := Lib.hid (show Below w0.heap.size w0 x6 by rw [← ev]; exact HLw6.out.drew)
  rw [ev] at hHeld ⊢
  clear ev
  refine tkC 0 rfl (fun K hK => ?_)
  go_simp
  (refine (A1.out _ (HZ.out _ HLy.out)).mono ?_; rintro e y1 ⟨rfl, hb⟩; have HLy1 := Lib.hid (below_trans HLy.out hb); clear hb)
  refine hK.out _ _ ?_ (fun hHeld => ?_)
  · exact HS8.out _ HLy1.out
  clear hK K
  try simp only [Act.put, putL]
  refine tk 1 ?_ rfl ?_ ?_
  rotate_left
  · intro w' hSw; (go_simp <;> (with_reducible rfl))
  try simp only [Act.put, putL]
  refine tk 2 ?_ rfl ?_ ?_
  rotate_left
  · intro w' hSw; (go_simp <;> (with_reducible rfl))
  try simp only [Act.put, putL]
  refine tk 3 ?_ rfl ?_ ?_
  rotate_left
  · intro w' hSw; (go_simp <;> (with_reducible rfl))
  try simp only [Act.put, putL]
  refine tk 4 ?_ rfl ?_ ?_
  rotate_left
  · intro w' hSw; (go_simp <;> (with_reducible rfl))
  try simp only [Act.put, putL]
  refine tk 5 ?_ rfl ?_ ?_
  rotate_left
  · intro w' hSw; (go_simp <;> (with_reducible rfl))
  try simp only [Act.put, putL]
  refine tk 6 ?_ rfl ?_ ?_
  rotate_left
  · intro w' hSw; (go_simp <;> (with_reducible rfl))
  try simp only [Act.put, putL]
  refine tk 7 ?_ rfl ?_ ?_
  rotate_left
  · intro w' hSw; (go_simp <;> (with_reducible rfl))
  try simp only [Act.put, putL]
  refine tk 8 ?_ rfl ?_ ?_
  rotate_left
  · intro w' hSw; (go_simp <;> (with_reducible rfl))
  try simp only [Act.put, putL]
  refine tk 9 ?_ rfl ?_ ?_
  rotate_left
  · intro w' hSw; (go_simp <;> (with_reducible rfl))
  try simp only [Act.put, putL]
  refine tk 10 ?_ rfl ?_ ?_
  rotate_left
  · intro w' hSw; (go_simp <;> (with_reducible rfl))
  try simp only [Act.put, putL]
  refine tk 11 ?_ rfl ?_ ?_
  rotate_left
  · intro w' hSw; (go_simp <;> (with_reducible rfl))
  try simp only [Act.put, putL]
  refine tk 12 ?_ rfl ?_ ?_
  rotate_left
  · intro w' hSw; (go_simp <;> (with_reducible rfl))
  try simp only [Act.put, putL]
  refine tk 13 ?_ rfl ?_ ?_
  rotate_left
  · intro w' hSw; (go_simp <;> (with_reducible rfl))
  try simp only [Act.put, putL]
  refine tk 14 ?_ rfl ?_ ?_
  rotate_left
  · intro w' hSw; (go_simp <;> (with_reducible rfl))
  try simp only [Act.put, putL]
  refine tk 15 ?_ rfl ?_ ?_
  rotate_left
  · intro w' hSw; (go_simp <;> (with_reducible rfl))
  try simp only [Act.put, putL]
  refine tk 16 ?_ rfl ?_ ?_
  rotate_left
  · intro w' hSw; (go_simp <;> (with_reducible rfl))
  try simp only [Act.put, putL]
  refine tk 17 ?_ rfl ?_ ?_
  rotate_left
  · intro w' hSw; (go_simp <;> (with_reducible rfl))
  try simp only [Act.put, putL]
  refine tk 18 ?_ rfl ?_ ?_
  rotate_left
  · intro w' hSw; (go_simp <;> (with_reducible rfl))
  try simp only [Act.put, putL]
  refine tk 19 ?_ rfl ?_ ?_
  rotate_left
  · intro w' hSw; (go_simp <;> (with_reducible rfl))
  try simp only [Act.put, putL]
  refine tk 20 ?_ rfl ?_ ?_
  rotate_left
  · intro w' hSw; (go_simp <;> (with_reducible rfl))
  try simp only [Act.put, putL]
  refine tk 21 ?_ rfl ?_ ?_
  rotate_left
  · intro w' hSw; (go_simp <;> (with_reducible rfl))
  try simp only [Act.put, putL]
  refine tk 22 ?_ rfl ?_ ?_
  rotate_left
  · intro w' hSw; (go_simp <;> (with_reducible rfl))
  try simp only [Act.put, putL]
  refine tk 23 ?_ rfl ?_ ?_
  rotate_left
  · intro w' hSw; (go_simp <;> (with_reducible rfl))
  try simp only [Act.put, putL]
  refine tk 24 ?_ rfl ?_ ?_
  rotate_left
  · intro w' hSw; (go_simp <;> (with_reducible rfl))
  try simp only [Act.put, putL]
  refine tk 25 ?_ rfl ?_ ?_
  rotate_left
  · intro w' hSw; (go_simp <;> (with_reducible rfl))
  try simp only [Act.put, putL]
  refine tk 26 ?_ rfl ?_ ?_
  rotate_left
  · intro w' hSw; (go_simp <;> (with_reducible rfl))
  try simp only [Act.put, putL]
  refine tk 27 ?_ rfl ?_ ?_
  rotate_left
  · intro w' hSw; (go_simp <;> (with_reducible rfl))
  try simp only [Act.put, putL]
  refine tk 28 ?_ rfl ?_ ?_
  rotate_left
  · intro w' hSw; (go_simp <;> (with_reducible rfl))
  try simp only [Act.put, putL]
  refine tk 29 ?_ rfl ?_ ?_
  rotate_left
  · intro w' hSw; (go_simp <;> (with_reducible rfl))
  try simp only [Act.put, putL]
  refine tk 30 ?_ rfl ?_ ?_
  rotate_left
  · intro w' hSw; (go_simp <;> (with_reducible rfl))
  try simp only [Act.put, putL]
  refine tk 31 ?_ rfl ?_ ?_
  rotate_left
  · intro w' hSw; (go_simp <;> (with_reducible rfl))
  try simp only [Act.put, putL]
  refine tk 32 ?_ rfl ?_ ?_
  rotate_left
  · intro w' hSw; (go_simp <;> (with_reducible rfl))
  try simp only [Act.put, putL]
  refine tk 33 ?_ rfl ?_ ?_
  rotate_left
  · intro w' hSw; (go_simp <;> (with_reducible rfl))
  try simp only [Act.put, putL]
  refine tk 34 ?_ rfl ?_ ?_
  rotate_left
  · intro w' hSw; (go_simp <;> (with_reducible rfl))
  try simp only [Act.put, putL]
  refine tk 35 ?_ rfl ?_ ?_
  rotate_left
  · intro w' hSw; (go_simp <;> (with_reducible rfl))
  try simp only [Act.put, putL]
  refine tk 36 ?_ rfl ?_ ?_
  rotate_left
  · intro w' hSw; (go_simp <;> (with_reducible rfl))
  try simp only [Act.put, putL]
  refine tk 37 ?_ rfl ?_ ?_
  rotate_left
  · intro w' hSw; (go_simp <;> (with_reducible rfl))
  try simp only [Act.put, putL]
  refine tk 38 ?_ rfl ?_ ?_
  rotate_left
  · intro w' hSw; (go_simp <;> (with_reducible rfl))
  try simp only [Act.put, putL]
  refine tk 39 ?_ rfl ?_ ?_
  rotate_left
  · intro w' hSw; (go_simp <;> (with_reducible rfl))
  try simp only [Act.put, putL]
  refine tk 41 ?_ rfl ?_ ?_
  rotate_left
  · intro w' hSw; (go_simp <;> (with_reducible rfl))
  try simp only [Act.put, putL]
  refine tk 42 ?_ rfl ?_ ?_
  rotate_left
  · intro w' hSw; (go_simp <;> (with_reducible rfl))
  try simp only [Act.put, putL]
  refine tk 43 ?_ rfl ?_ ?_
  rotate_left
  · intro w' hSw; (go_simp <;> (with_reducible rfl))
  try simp only [Act.put, putL]
  refine tk 44 ?_ rfl ?_ ?_
  rotate_left
  · intro w' hSw; (go_simp <;> (with_reducible rfl))
  try simp only [Act.put, putL]
  refine tk 45 ?_ rfl ?_ ?_
  rotate_left
  · intro w' hSw; (go_simp <;> (with_reducible rfl))
  try simp only [Act.put, putL]
  refine tk 46 ?_ rfl ?_ ?_
  rotate_left
  · intro w' hSw; (go_simp <;> (with_reducible rfl))
  try simp only [Act.put, putL]
  refine tk 47 ?_ rfl ?_ ?_
  rotate_left
  · intro w' hSw; (go_simp <;> (with_reducible rfl))
  try simp only [Act.put, putL]
  refine tk 48 ?_ rfl ?_ ?_
  rotate_left
  · intro w' hSw; (go_simp <;> (with_reducible rfl))
  try simp only [Act.put, putL]
  refine tkC 40 rfl (fun K hK => ?_)
  go_simp
  (refine (H1.out _).mono ?_; rintro e y2 ⟨rfl, hb⟩; have HLy2 := Lib.hid (below_trans HLy1.out hb); clear hb)
  refine hK.out _ _ ?_ (fun hHeld => ?_)
  · exact HS8.out _ HLy2.out
  clear hK K
  try simp only [Act.put, putL]
  refine tkC 49 rfl (fun K hK => ?_)
  go_simp
  (refine (H2.out _).mono ?_; rintro e y3 ⟨rfl, hb⟩; have HLy3 := Lib.hid (below_trans HLy2.out hb); clear hb)
  refine hK.out _ _ ?_ (fun hHeld => ?_)
  · exact HS8.out _ HLy3.out
  clear hK K
  try simp only [Act.put, putL]
  refine tk 50 ?_ rfl ?_ ?_
  rotate_left
  · intro w' hSw; (go_simp <;> (with_reducible rfl))
  try simp only [Act.put, putL]
  refine tk 51 ?_ rfl ?_ ?_
  rotate_left
  · intro w' hSw; (go_simp <;> (with_reducible rfl))
  try simp only [Act.put, putL]
  refine tk 52 ?_ rfl ?_ ?_
  rotate_left
  · intro w' hSw; (go_simp <;> (with_reducible rfl))
  try simp only [Act.put, putL]
  refine wpAnyH_done (by kernel_rfl) ?_ _
  clear hHeld
  go_wp2_with fail
  go_ret
  exact ⟨rfl, below_trans HB.out HLy3.out⟩
end Go.Proofs.YtgcliijngaohdaaDoor.cookieMakesW
