/-
  Texts laid together: NatChainW, NatWakes.
-/
import Derived.Test.YtheknmihnkennaaGreatZB01
import Derived.Test.YtheknmihnkennaaGreatZB32
import Derived.Test.YtheknmihnkennaaGreatZB33
import Derived.Test.YtheknmihnkennaaGreatZB31
import Derived.Test.YtheknmihnkennaaGreatZB18
import Derived.Test.YtheknmihnkennaaGreatZB24
import Derived.Test.YtheknmihnkennaaGreatZB08
import Derived.RegionTactic
import Derived.BigRegion
import Derived.Test.YtheknmihnkennaaGreatZB28
import Derived.Test.YtheknmihnkennaaGreatZB25

/-
  NatChain: the walk, over what Rewrite and awake tell (stage 15, written ahead).
-/
namespace Go.Proofs.YtheknmihnkennaaGreat.natChainW
set_option maxRecDepth 10000
open Go.ChangeShapes Go.WideShapes Go.ChangeAt Go.RowKit
set_option linter.unusedVariables false
set_option linter.unusedSimpArgs false

theorem tupT_num {p : Pk} {a : PkA} {w : World} (h : PkRd w p a) : TuNum (tupT p) := by
  unfold tupT
  split
  · exact ⟨h.hn.pr, h.hn.sr, h.hn.ds, h.sr.num.sp, h.sr.num.dp⟩
  · split
    · exact ⟨h.hn.pr, h.hn.sr, h.hn.ds, h.un.sp, h.un.dp⟩
    · split
      · exact ⟨h.hn.pr, h.hn.sr, h.hn.ds, by have := h.mn.rs; simp only; omega, by simp⟩
      · exact ⟨by decide, by decide, by decide, by decide, by decide⟩
theorem own_cells (l : List Int) (t : Tu) (n : Int) (h : n = l.getD 9 0) : #[Value.int .u8 (ownT l t).pr, .int .u32 (ownT l t).sr, .int .u32 (ownT l t).ds, .int .u16 (ownT l t).sp, .int .u16 (ownT l t).dp] = #[Value.int .u8 n, .int .u32 t.sr, .int .u32 t.ds, .int .u16 t.sp, .int .u16 (if n = 1 then 0 else t.dp)] := by
  subst h
  rfl
theorem plc_bd (pr : Int) : 0 ≤ plc pr ∧ plc pr ≤ 16 := by
  unfold plc
  split
  · decide
  · split
    · decide
    · split <;> decide
set_option maxHeartbeats 4000000 in
theorem walk (rw_ : RwF) (aw : AwF) (W : World) (v v1 v2 : Value) (hv : BytesIn W v) (h1 : ∃ t : Tu, v1 = .agg #[.int .u8 t.pr, .int .u32 t.sr, .int .u32 t.ds, .int .u16 t.sp, .int .u16 t.dp] ∧ TuNum t) (h2 : ∃ u : Tu, v2 = .agg #[.int .u8 u.pr, .int .u32 u.sr, .int .u32 u.ds, .int .u16 u.sp, .int .u16 u.dp] ∧ TuNum u) :
    Calls Tryz.prog 4 #[v, v1, v2] W fun e w' => e = .returned (.bool true) ∧ Below W.heap.size W w' := by
  obtain ⟨A, N, c, D, rfl, hc, hr⟩ := hv
  obtain ⟨t, rfl, ht⟩ := h1
  obtain ⟨u, rfl, hu⟩ := h2
  obtain ⟨n, hmin, hnN, hn1600⟩ := min_nat 1600 N (by omega)
  have hr := hr.take hnN
  obtain ⟨l, ed⟩ : ∃ d, D.take n = d := ⟨_, rfl⟩
  rw [ed] at hr
  have hni : (n : Int) ≤ (c : Int) := by omega
  have hn2 : n ≤ 1600 := by omega
  have hnc : n ≤ c := by omega
  have hn0 : (0 : Int) ≤ (n : Int) := by omega
  obtain ⟨z, hz⟩ : ∃ z, W.heap.size = z := ⟨_, rfl⟩
  obtain ⟨w0, ew⟩ : ∃ v, (W.alloc (.cells #[.int .u8 t.pr, .int .u32 t.sr, .int .u32 t.ds, .int .u16 t.sp, .int .u16 t.dp] 45)).alloc (.cells #[.int .u8 u.pr, .int .u32 u.sr, .int .u32 u.ds, .int .u16 u.sp, .int .u16 u.dp] 45) = v := ⟨_, rfl⟩
  have hb0 : Below W.heap.size W w0 := by rw [← ew]; exact ((Below.refl _ _).alloc (Nat.le_refl _) _).alloc (by simp) _
  have hk0 : w0.heap[z]? = some (.cells #[.int .u8 t.pr, .int .u32 t.sr, .int .u32 t.ds, .int .u16 t.sp, .int .u16 t.dp] 45 (0, 0)) := by rw [← ew, Below.heap_alloc _ _ _ (by simp [hz]), ← hz]; exact heap_alloc_new W _
  have hk1 : w0.heap[z + 1]? = some (.cells #[.int .u8 u.pr, .int .u32 u.sr, .int .u32 u.ds, .int .u16 u.sp, .int .u16 u.dp] 45 (0, 0)) := by
    rw [← ew, ← hz]; simpa using heap_alloc_new (W.alloc (.cells #[.int .u8 t.pr, .int .u32 t.sr, .int .u32 t.ds, .int .u16 t.sp, .int .u16 t.dp] 45)) (.cells #[.int .u8 u.pr, .int .u32 u.sr, .int .u32 u.ds, .int .u16 u.sp, .int .u16 u.dp] 45)
  have HoffA := Lib.hid (show offR (fun k => k = z ∨ k = z + 1) A n from hr.off.sub (fun k hk => by omega))
  have Hr := Lib.hid (hr.below hb0)
  have Hc := Lib.hid (And.intro hnc hc.2)
  have Hn2 := Lib.hid hn2
  have HB0 := Lib.hid hb0
  have HK0 := Lib.hid hk0
  have HK1 := Lib.hid hk1
  have Ht := Lib.hid ht
  have Hu := Lib.hid hu
  have Rw := Lib.hid rw_
  have Aw := Lib.hid aw
  have Ew := Lib.hid ew
  have Hz := Lib.hid hz
  clear ed hc hr rw_ aw hb0 hk0 hk1 ew hz ht hu
  go_enter Tryz.func4, Tryz.ntmps4
  go_upto_region 1 with (fail)
  rw [Ew.out]
  try rw [Hz.out]
  go_upto_region 2 with (fail)
  clear hni hnc hn0 hmin hn2 hnN hn1600 Ew
  obtain ⟨k, ek⟩ : ∃ k, errAll l = k := ⟨_, rfl⟩
  have Ek := Lib.hid ek
  clear ek
  try simp only []
  repeat (first | go_values | go_skip | go_guarded | go_step | go_upon | go_back)
  by_cases h0 : k = 0
  case neg =>
    have H0 := Lib.hid h0
    have h0b : (k != 0) = true := by simpa using h0
    refine (parse9_err A n c l k _ Hc.out (by have := Hn2.out; omega) Hr.out Ek.out h0).mono ?_
    clear h0
    rintro e w1 ⟨rfl, hb1⟩
    obtain ⟨g, eg⟩ : ∃ g, w1.heap.size = g := ⟨_, rfl⟩
    obtain ⟨w2, ew2⟩ : ∃ v, w1.alloc (.cells #[.int .u8 0, .int .u16 0, .bool false, .int .u8 0, .int .u8 0, .int .u32 0, .int .u32 0, .slice none 0 0, .int .u16 0, .int .u16 0, .int .u32 0, .int .u32 0, .int .u8 0, .int .u16 0, .int .u16 0, .slice none 0 0, .slice none 0 0, .int .u16 0, .int .u16 0, .slice none 0 0, .int .u8 0, .int .u8 0, .int .u32 0, .slice none 0 0] 35) = v := ⟨_, rfl⟩
    have hb12 : Below w1.heap.size w1 w2 := by rw [← ew2]; exact (Below.refl _ _).alloc (Nat.le_refl _) _
    have HB2 := Lib.hid (HB0.out.trans ((below_trans hb1 hb12).mono HB0.out.size))
    have HK2 := Lib.hid (show w2.heap[g]? = some (.cells #[.int .u8 0, .int .u16 0, .bool false, .int .u8 0, .int .u8 0, .int .u32 0, .int .u32 0, .slice none 0 0, .int .u16 0, .int .u16 0, .int .u32 0, .int .u32 0, .int .u8 0, .int .u16 0, .int .u16 0, .slice none 0 0, .slice none 0 0, .int .u16 0, .int .u16 0, .slice none 0 0, .int .u8 0, .int .u8 0, .int .u32 0, .slice none 0 0] 35 (0, 0)) by rw [← ew2, ← eg]; exact heap_alloc_new w1 _)
    have Ew2 := Lib.hid ew2
    have Eg := Lib.hid eg
    clear ew2 hb1 hb12 eg
    go_upto_region 3 with (refine wp_store_new 35 (.tmp 7) (.tmp 27) rfl rfl w1 _ _ rfl rfl (by kernel_rfl) rfl (by simp [Value.oneCell']) ?_)
    rw [Ew2.out]
    try rw [Eg.out]
    clear Ew2 Eg
    try simp only []
    repeat (first | (refine wp_load_row 35 (.tmp 7) rfl g _ _ _ _ HK2.out rfl Tryz.underlying35 rfl (by kernel_rfl) ?_; simp only [Act.put, List.setIfInBounds_toArray, List.set_cons_zero, List.set_cons_succ]) | go_values | go_skip | go_guarded | go_step | go_upon | go_back)
    obtain ⟨s, es⟩ : ∃ s, zeroTu = s := ⟨_, rfl⟩
    have hof := (show Calls Tryz.prog 10 #[.agg #[.int .u8 0, .int .u16 0, .bool false, .int .u8 0, .int .u8 0, .int .u32 0, .int .u32 0, .slice none 0 0, .int .u16 0, .int .u16 0, .int .u32 0, .int .u32 0, .int .u8 0, .int .u16 0, .int .u16 0, .slice none 0 0, .slice none 0 0, .int .u16 0, .int .u16 0, .slice none 0 0, .int .u8 0, .int .u8 0, .int .u32 0, .slice none 0 0]] w2 (OfIs zeroTu false w2) from tof_any ⟨⟨0, 0, false, 0, 0, 0, 0, []⟩, zeroSeg, zeroDg, zeroM⟩ ⟨none, 0, 0, none, 0, 0, [], none, 0, 0, none, 0, 0, none, 0, 0⟩ w2 zeroTu false (by decide) rfl rfl)
    rw [es] at hof
    refine hof.mono ?_
    clear hof es
    rintro e w3 ⟨rfl, hb3⟩
    obtain ⟨w4, ew4⟩ : ∃ v, w3.alloc (.cells #[.int .u8 s.pr, .int .u32 s.sr, .int .u32 s.ds, .int .u16 s.sp, .int .u16 s.dp] 45) = v := ⟨_, rfl⟩
    have HB4 := Lib.hid (show Below W.heap.size W w4 by rw [← ew4]; have h := HB2.out.trans (hb3.mono HB2.out.size); exact h.alloc h.size _)
    have Ew4 := Lib.hid ew4
    clear ew4 hb3 HB2 HK2
    go_upto_region 4 with (refine wp_store_new 45 (.tmp 9) (.tmp 32) rfl rfl w3 _ _ rfl rfl (by kernel_rfl) rfl (by simp [Value.oneCell']) ?_)
    rw [Ew4.out]
    clear Ew4
    try simp only []
    repeat (first | go_values | go_skip | go_guarded | go_step | go_upon | go_back)
    refine (Aw.out _).mono ?_
    rintro e w5 ⟨rfl, hb5⟩
    have HB5 := Lib.hid (HB4.out.trans (hb5.mono HB4.out.size))
    clear hb5
    try simp only []
    repeat (first | go_values | go_skip | go_guarded | go_step | go_upon | go_back)
    go_ret
    exact ⟨rfl, HB5.out⟩
  subst h0
  obtain ⟨p, ep⟩ : ∃ p, pkOfB l = p := ⟨_, rfl⟩
  have Hp := Lib.hid ep
  have hg := parse9_ok A n c l w0 Hc.out (by have := Hn2.out; omega) Hr.out Ek.out
  rw [ep] at hg
  clear ep
  refine hg.mono ?_
  clear hg
  rintro e w1 ⟨a, rfl, hp1, hn1, hof1, hb1⟩
  obtain ⟨g, eg⟩ : ∃ g, w1.heap.size = g := ⟨_, rfl⟩
  obtain ⟨w2, ew2⟩ : ∃ v, w1.alloc (.cells #[.int .u8 p.h.to, .int .u16 p.h.id, .bool p.h.df, .int .u8 p.h.tt, .int .u8 p.h.pr, .int .u32 p.h.sr, .int .u32 p.h.ds, .slice a.AH a.nH a.cH, .int .u16 p.s.sp, .int .u16 p.s.dp, .int .u32 p.s.sq, .int .u32 p.s.ak, .int .u8 p.s.fl, .int .u16 p.s.wn, .int .u16 p.s.ug, .slice a.AO a.nO a.cO, .slice a.AD a.nD a.cD, .int .u16 p.u.sp, .int .u16 p.u.dp, .slice a.AU a.nU a.cU, .int .u8 p.m.ty, .int .u8 p.m.cd, .int .u32 p.m.rs, .slice a.AM a.nM a.cM] 35) = v := ⟨_, rfl⟩
  have hb12 : Below w1.heap.size w1 w2 := by rw [← ew2]; exact (Below.refl _ _).alloc (Nat.le_refl _) _
  have HK2 := Lib.hid (show w2.heap[g]? = some (.cells #[.int .u8 p.h.to, .int .u16 p.h.id, .bool p.h.df, .int .u8 p.h.tt, .int .u8 p.h.pr, .int .u32 p.h.sr, .int .u32 p.h.ds, .slice a.AH a.nH a.cH, .int .u16 p.s.sp, .int .u16 p.s.dp, .int .u32 p.s.sq, .int .u32 p.s.ak, .int .u8 p.s.fl, .int .u16 p.s.wn, .int .u16 p.s.ug, .slice a.AO a.nO a.cO, .slice a.AD a.nD a.cD, .int .u16 p.u.sp, .int .u16 p.u.dp, .slice a.AU a.nU a.cU, .int .u8 p.m.ty, .int .u8 p.m.cd, .int .u32 p.m.rs, .slice a.AM a.nM a.cM] 35 (0, 0)) by rw [← ew2, ← eg]; exact heap_alloc_new w1 _)
  have HB2 := Lib.hid (below_trans hb1 hb12)
  have HnH := Lib.hid (show (p.h.o.length = a.nH) from hp1.hr.len)
  have Hrs := Lib.hid hp1.mn.rs
  have Hsn := Lib.hid (tupT_num hp1)
  have Hg := Lib.hid (show w0.heap.size ≤ g by rw [← eg]; exact hb1.size)
  have Ew2 := Lib.hid ew2
  have Eg := Lib.hid eg
  clear eg ew2 hb12 hp1 hn1 hof1 hb1
  go_upto_region 3 with (refine wp_store_new 35 (.tmp 7) (.tmp 27) rfl rfl w1 _ _ rfl rfl (by kernel_rfl) rfl (by simp [Value.oneCell']) ?_)
  rw [Ew2.out]
  try rw [Eg.out]
  clear Ew2 Eg
  try simp only []
  repeat (first | (refine wp_load_row 35 (.tmp 7) rfl g _ _ _ _ HK2.out rfl Tryz.underlying35 rfl (by kernel_rfl) ?_; simp only [Act.put, List.setIfInBounds_toArray, List.set_cons_zero, List.set_cons_succ]) | go_values | go_skip | go_guarded | go_step | go_upon | go_back)
  obtain ⟨s, es⟩ : ∃ s, tupT p = s := ⟨_, rfl⟩
  obtain ⟨x, ex⟩ : ∃ x, isT p = x := ⟨_, rfl⟩
  have Hs := Lib.hid es
  have Hx := Lib.hid ex
  refine (tof_any p a _ s x Hrs.out es ex).mono ?_
  clear es ex
  rintro e w3 ⟨rfl, hb3⟩
  obtain ⟨gt, egt⟩ : ∃ g, w3.heap.size = g := ⟨_, rfl⟩
  obtain ⟨w4, ew4⟩ : ∃ v, w3.alloc (.cells #[.int .u8 s.pr, .int .u32 s.sr, .int .u32 s.ds, .int .u16 s.sp, .int .u16 s.dp] 45) = v := ⟨_, rfl⟩
  have hb34 : Below w3.heap.size w3 w4 := by rw [← ew4]; exact (Below.refl _ _).alloc (Nat.le_refl _) _
  have HKt := Lib.hid (show w4.heap[gt]? = some (.cells #[.int .u8 s.pr, .int .u32 s.sr, .int .u32 s.ds, .int .u16 s.sp, .int .u16 s.dp] 45 (0, 0)) by rw [← ew4, ← egt]; exact heap_alloc_new w3 _)
  have HB4 := Lib.hid (below_trans HB2.out (below_trans hb3 hb34))
  have HK4 := Lib.hid (blk_on HK2.out (below_trans hb3 hb34))
  have Hgt := Lib.hid (show w0.heap.size ≤ gt by rw [← egt]; have := hb3.size; have := HB2.out.size; omega)
  have Ew4 := Lib.hid ew4
  have Egt := Lib.hid egt
  clear ew4 hb3 egt hb34 HK2 HB2
  go_upto_region 4 with (refine wp_store_new 45 (.tmp 9) (.tmp 32) rfl rfl w3 _ _ rfl rfl (by kernel_rfl) rfl (by simp [Value.oneCell']) ?_)
  rw [Ew4.out]
  try rw [Egt.out]
  clear Ew4 Egt
  cases x
  · skip
    try simp only []
    repeat (first | go_values | go_skip | go_guarded | go_step | go_upon | go_back)
    refine (Aw.out _).mono ?_
    rintro e w5 ⟨rfl, hb5⟩
    have HB5 := Lib.hid (HB0.out.trans ((below_trans HB4.out hb5).mono HB0.out.size))
    clear hb5
    try simp only []
    repeat (first | go_values | go_skip | go_guarded | go_step | go_upon | go_back)
    go_ret
    exact ⟨rfl, HB5.out⟩
  have hs1 := tup_pr Hx.out
  rw [Hs.out, ← Hp.out, pkOfB_h, hd_pr] at hs1
  have Hs1 := Lib.hid hs1
  have HDz0 := Lib.hid (blk_on HK0.out HB4.out)
  have HDo0 := Lib.hid (blk_on HK1.out HB4.out)
  have hzl := lt_of_block HK0.out
  have hol := lt_of_block HK1.out
  have hne1 : z ≠ gt := by have := Hgt.out; omega
  have hne2 : z + 1 ≠ gt := by have := Hgt.out; omega
  have Hne := Lib.hid (show g ≠ z ∧ g ≠ z + 1 ∧ z ≠ gt ∧ z + 1 ≠ gt by have := Hg.out; omega)
  clear hs1 hzl hol HK0 HK1
  go_upto_region 6 with (fail)
  have HBd := Lib.hid (Below.drew (Below.refl w4.heap.size w4))
  have HDz := Lib.hid (blk_on HDz0.out HBd.out)
  have HDo := Lib.hid (blk_on HDo0.out HBd.out)
  have HDt := Lib.hid (blk_on HKt.out HBd.out)
  refine wp_region_held_drew (S := fun w' => w'.cell? ⟨gt, 0, none⟩ = some (.int .u8 s.pr)) (by kernel_rfl) (show w4.drew.cell? ⟨gt, 0, none⟩ = some (.int .u8 s.pr) by rw [blk_cell HDt.out]; rfl) (fun hHeld => ?_)
  obtain ⟨wd, ewd⟩ : ∃ wd, w4.drew = wd := ⟨_, rfl⟩
  rw [ewd] at HBd hHeld HDz HDo HDt ⊢
  clear ewd HDz0 HDo0
  have lz : wd.cell? ⟨z, 0, none⟩ = some (.int .u8 t.pr) := by rw [blk_cell HDz.out]; rfl
  have fz := blk_free HDz.out 0
  refine tk 0 ?_ rfl ?_ ?_
  rotate_left
  · intro w' hSw; (go_simp <;> (with_reducible rfl))
  try simp only [Act.put, putL]
  refine tk 1 ?_ rfl ?_ ?_
  rotate_left
  · intro w' hSw; (go_simp <;> (with_reducible rfl))
  try simp only [Act.put, putL]
  refine tk 2 ?_ rfl ?_ ?_
  rotate_left
  · intro w' hSw; (go_simp <;> (with_reducible rfl))
  try simp only [Act.put, putL]
  refine tk 3 ?_ rfl ?_ ?_
  rotate_left
  · intro w' hSw; (go_simp <;> (with_reducible rfl))
  try simp only [Act.put, putL]
  refine tk 4 ?_ rfl ?_ ?_
  rotate_left
  · intro w' hSw; (go_simp <;> (with_reducible rfl))
  try simp only [Act.put, putL]
  refine tkC 5 rfl (fun K hK => ?_)
  go_simp
  skip
  refine hK.out _ _ ?_ (fun hHeld => ?_)
  · exact keep_cell hHeld hne1 _
  clear hK K
  try simp only [Act.put, putL]
  obtain ⟨we, ewe⟩ : ∃ v, wd.setCell ⟨z, 0, none⟩ (.int .u8 s.pr) = v := ⟨_, rfl⟩
  have HEz := Lib.hid (show we.heap[z]? = some (.cells #[.int .u8 s.pr, .int .u32 t.sr, .int .u32 t.ds, .int .u16 t.sp, .int .u16 t.dp] 45 (0, 0)) by rw [← ewe, set_blk HDz.out]; rfl)
  have HEo := Lib.hid (show we.heap[z + 1]? = some (.cells #[.int .u8 u.pr, .int .u32 u.sr, .int .u32 u.ds, .int .u16 u.sp, .int .u16 u.dp] 45 (0, 0)) by rw [← ewe]; exact keep_blk HDo.out (by omega) _)
  have HBe := Lib.hid (show But (fun k => k = z ∨ k = z + 1) wd we by rw [← ewe]; exact (But.refl (fun k => k = z ∨ k = z + 1) wd).setCell (p := ⟨z, 0, none⟩) (.inl rfl) _)
  rw [ewe] at hHeld ⊢
  have lo := (show we.cell? ⟨z + 1, 0, none⟩ = some (.int .u8 u.pr) by rw [blk_cell HEo.out]; rfl)
  have fo := blk_free HEo.out 0
  refine tk 6 ?_ rfl ?_ ?_
  rotate_left
  · intro w' hSw; (go_simp <;> (with_reducible rfl))
  try simp only [Act.put, putL]
  refine tkC 7 rfl (fun K hK => ?_)
  go_simp
  skip
  refine hK.out _ _ ?_ (fun hHeld => ?_)
  · exact keep_cell hHeld hne2 _
  clear hK K
  try simp only [Act.put, putL]
  refine wpAnyH_done (by kernel_rfl) ?_ _
  obtain ⟨w6, ew6⟩ : ∃ v, we.setCell ⟨z + 1, 0, none⟩ (.int .u8 s.pr) = v := ⟨_, rfl⟩
  rw [ew6]
  have hb6 : But (fun k => k = z ∨ k = z + 1) wd w6 := by rw [← ew6]; exact HBe.out.setCell (p := ⟨z + 1, 0, none⟩) (.inr rfl) _
  have HKz := Lib.hid (show w6.heap[z]? = some (.cells #[.int .u8 s.pr, .int .u32 t.sr, .int .u32 t.ds, .int .u16 t.sp, .int .u16 t.dp] 45 (0, 0)) by rw [← ew6]; exact keep_blk HEz.out (by omega) _)
  have HKo := Lib.hid (show w6.heap[z + 1]? = some (.cells #[.int .u8 s.pr, .int .u32 u.sr, .int .u32 u.ds, .int .u16 u.sp, .int .u16 u.dp] 45 (0, 0)) by rw [← ew6, set_blk HEo.out]; rfl)
  have HKt6 := Lib.hid (hb6.blk HDt.out (fun e => by have := Hne.out; omega))
  have HKp6 := Lib.hid (hb6.blk (blk_on HK4.out HBd.out) (fun e => by have := Hne.out; omega))
  have HR6 := Lib.hid (((Hr.out.below HB4.out).below HBd.out).offBut hb6 HoffA.out)
  have HB6 := Lib.hid (show Below W.heap.size W w6 from (HB0.out.trans ((below_trans HB4.out HBd.out).mono HB0.out.size)).trans (hb6.below (B := W.heap.size) (fun k hk => by have := Hz.out; omega) (by have := HB0.out.size; have := HB4.out.size; have := HBd.out.size; omega)))
  clear hHeld lz fz lo fo hb6 ew6 HEz HEo HBe HDz HDo HDt HBd HKt HK4 HB4 Hr hne1 hne2
  obtain ⟨x, ex⟩ : ∃ x, ownT l t = x := ⟨_, rfl⟩
  obtain ⟨y, ey⟩ : ∃ y, ownT l u = y := ⟨_, rfl⟩
  have hcx := own_cells l t s.pr Hs1.out
  have hcy := own_cells l u s.pr Hs1.out
  rw [ex] at hcx
  rw [ey] at hcy
  have Hcx := Lib.hid hcx
  have Hcy := Lib.hid hcy
  have Hex := Lib.hid ex
  have Hey := Lib.hid ey
  clear hcx hcy ex ey
  have kt : w6.cell? ⟨gt, 0, none⟩ = some (.int .u8 s.pr) := by rw [blk_cell HKt6.out]; rfl
  go_upto_if 49 with (fail)
  clear kt
  go_cut [] (fun wv => ∃ wx, wx = wv ∧ Hid (wx.heap[z]? = some (.cells #[.int .u8 x.pr, .int .u32 x.sr, .int .u32 x.ds, .int .u16 x.sp, .int .u16 x.dp] 45 (0, 0))) ∧ Hid (wx.heap[z + 1]? = some (.cells #[.int .u8 y.pr, .int .u32 y.sr, .int .u32 y.ds, .int .u16 y.sp, .int .u16 y.dp] 45 (0, 0))) ∧ Hid (But (fun k => k = z ∨ k = z + 1) w6 wx))
  case first =>
    by_cases h1 : s.pr = 1
    · have h1b : (s.pr == 1) = true := by simpa using h1
      have lz : w6.cell? ⟨z, 4, none⟩ = some (.int .u16 t.dp) := by rw [blk_cell HKz.out]; rfl
      have fz := blk_free HKz.out 4
      have hk4 : ∀ v, (w6.setCell ⟨z, 4, none⟩ v).heap[z + 1]? = some (.cells #[.int .u8 s.pr, .int .u32 u.sr, .int .u32 u.ds, .int .u16 u.sp, .int .u16 u.dp] 45 (0, 0)) := fun v => keep_blk HKo.out (by omega) v
      have lo : ∀ v, (w6.setCell ⟨z, 4, none⟩ v).cell? ⟨z + 1, 4, none⟩ = some (.int .u16 u.dp) := fun v => by rw [blk_cell (hk4 v)]; rfl
      have fo : ∀ v, (w6.setCell ⟨z, 4, none⟩ v).frozen? ⟨z + 1, 4, none⟩ = false := fun v => blk_free (hk4 v) 4
      have H1 := Lib.hid h1
      have Hk4 := Lib.hid hk4
      clear h1 hk4
      go_wp2_with fail
      go_meet
      case rel => exact ⟨_, rfl, Lib.hid (by rw [Hcx.out, if_pos H1.out]; exact keep_blk (by rw [set_blk HKz.out]; rfl) (by omega) _), Lib.hid (by rw [Hcy.out, if_pos H1.out, set_blk (Hk4.out _)]; rfl), Lib.hid (((But.refl (fun k => k = z ∨ k = z + 1) w6).setCell (p := ⟨z, 4, none⟩) (.inl rfl) _).setCell (p := ⟨z + 1, 4, none⟩) (.inr rfl) _)⟩
    · have h1b : (s.pr == 1) = false := by simpa using h1
      have H1 := Lib.hid h1
      clear h1
      go_wp2_with fail
      go_meet
      case rel => exact ⟨_, rfl, Lib.hid (by rw [Hcx.out, if_neg H1.out]; exact HKz.out), Lib.hid (by rw [Hcy.out, if_neg H1.out]; exact HKo.out), Lib.hid (But.refl _ _)⟩
  case rest =>
    obtain ⟨wx, hwx, HZ, HO, HBx⟩ := hcut
    subst hwx
    have HRx := Lib.hid (HR6.out.offBut HBx.out HoffA.out)
    have HKpx := Lib.hid (HBx.out.blk HKp6.out (fun e => by have := Hne.out; omega))
    have HBw := Lib.hid (HB6.out.trans (HBx.out.below (B := W.heap.size) (fun k hk => by have := Hz.out; omega) HB6.out.size))
    obtain ⟨X, Y, Z, hC⟩ := chain_is (b := l) (t := t) (o := u) HRx.out.byte Ek.out (by rw [Hp.out]; exact Hx.out) Ht.out Hu.out
    obtain ⟨F, eF⟩ : ∃ F, fldW l = F := ⟨_, rfl⟩
    rw [eF] at hC
    have hln := HRx.out.len
    have e1 := hC.e1
    have e2 := hC.e2
    have e3 := hC.e3
    have f1 := hC.ex
    have f2 := hC.ey
    have f3 := hC.ez
    rw [Hex.out] at e1 e3 f1 f3
    rw [Hey.out] at e2 f2
    have HC := Lib.hid hC
    have HE := Lib.hid (And.intro e1 (And.intro e2 e3))
    have HF := Lib.hid (And.intro f1 (And.intro f2 f3))
    have HL := Lib.hid (show X.length = n ∧ Y.length = n ∧ Z.length = n from ⟨hC.lx.trans hln, hC.ly.trans hln, hC.lz.trans hln⟩)
    have HxN := Lib.hid (show TuNum x by rw [← Hex.out]; exact ownT_num HRx.out.byte Ht.out)
    have HyN := Lib.hid (show TuNum y by rw [← Hey.out]; exact ownT_num HRx.out.byte Hu.out)
    have hln2 := hC.len
    have hf10 := hC.f10
    have hpl := hC.pl
    rw [Hp.out, HnH.out] at hpl
    obtain ⟨q, eq⟩ : ∃ q, 2 * F = q := ⟨_, rfl⟩
    rw [eq] at hpl
    have hq2 : q + 1 < n ∧ 20 ≤ q := by omega
    have Hq2 := Lib.hid hq2
    have Hq := Lib.hid eq
    have Hpl := Lib.hid hpl
    have HnHb := Lib.hid (show a.nH ≤ 1000000 by have := plc_bd p.h.pr; have := Hn2.out; omega)
    clear hC eF hln e1 e2 e3 f1 f2 f3 hln2 hf10 hpl eq hq2 HBx HR6 HKp6 HB6
    try simp only []
    repeat (first | (refine wp_load_row 45 (.tmp 4) rfl z _ _ _ _ HZ.out rfl Tryz.underlying45 rfl (by kernel_rfl) ?_; simp only [Act.put, List.setIfInBounds_toArray, List.set_cons_zero, List.set_cons_succ]) | go_values | go_skip | go_guarded | go_step | go_upon | go_back)
    refine (Rw.out A n c l x false wx X n 0 Hc.out Hn2.out HRx.out HxN.out HF.out.1 HL.out.1 HE.out.1).mono ?_
    rintro e w7 ⟨A1, c1, rfl, ho1, hb7⟩
    have HX7 := Lib.hid (ho1.rd HC.out.bx)
    have HB7 := Lib.hid hb7
    have HO7 := Lib.hid (blk_on HO.out hb7)
    clear ho1 hb7 HO
    try simp only []
    repeat (first | (refine wp_load_row 45 (.tmp 5) rfl (z+1) _ _ _ _ HO7.out rfl Tryz.underlying45 rfl (by kernel_rfl) ?_; simp only [Act.put, List.setIfInBounds_toArray, List.set_cons_zero, List.set_cons_succ]) | go_values | go_skip | go_guarded | go_step | go_upon | go_back)
    refine (Rw.out A n c l y false w7 Y n 0 Hc.out Hn2.out (HRx.out.below HB7.out) HyN.out HF.out.2.1 HL.out.2.1 HE.out.2.1).mono ?_
    rintro e w8 ⟨A2, c2, rfl, ho2, hb8⟩
    have HY8 := Lib.hid (ho2.rd HC.out.by_)
    have Hc2 := Lib.hid (And.intro ho2.cap ho2.capMax)
    have HX8 := Lib.hid (HX7.out.below hb8)
    have HB8 := Lib.hid (below_trans HB7.out hb8)
    have HZ8 := Lib.hid (blk_on HZ.out HB8.out)
    clear ho2 hb8 HO7 HX7 HB7 HZ
    try simp only []
    repeat (first | (refine wp_load_row 45 (.tmp 4) rfl z _ _ _ _ HZ8.out rfl Tryz.underlying45 rfl (by kernel_rfl) ?_; simp only [Act.put, List.setIfInBounds_toArray, List.set_cons_zero, List.set_cons_succ]) | go_values | go_skip | go_guarded | go_step | go_upon | go_back)
    refine (Rw.out A2 n c2 Y x false w8 Z n 0 Hc2.out Hn2.out HY8.out HxN.out HF.out.2.2 HL.out.2.2 HE.out.2.2).mono ?_
    rintro e w9 ⟨A3, c3, rfl, ho3, hb9⟩
    have HZ9 := Lib.hid (ho3.rd HC.out.bz)
    have HX9 := Lib.hid (HX8.out.below hb9)
    have HB9 := Lib.hid (below_trans HB8.out hb9)
    have HK9 := Lib.hid (blk_on HKpx.out HB9.out)
    clear ho3 hb9 HZ8 HX8 HB8 HY8 HKpx
    try simp only []
    repeat (first | (refine wp_load_row 35 (.tmp 7) rfl g _ _ _ _ HK9.out rfl Tryz.underlying35 rfl (by kernel_rfl) ?_; simp only [Act.put, List.setIfInBounds_toArray, List.set_cons_zero, List.set_cons_succ]) | go_values | go_skip | go_guarded | go_step | go_upon | go_back)
    refine (place_any p a w9 (q : Int) Hpl.out HnHb.out).mono ?_
    rintro e w10 ⟨rfl, hb10⟩
    have HS := Lib.hid (show ∀ w', Below w10.heap.size w10 w' → Rd w' A1 n X ∧ Rd w' A3 n Z from fun w' hb => ⟨(HX9.out.below hb10).below hb, (HZ9.out.below hb10).below hb⟩)
    have HB10 := Lib.hid (HBw.out.trans ((below_trans HB9.out hb10).mono HBw.out.size))
    clear hb10 HK9 HX9 HZ9 HB9 HBw HRx Hcx Hcy Hex Hey HKz HKo HKt6 Rw
    go_wp2_with fail
    go_loopg [91] n (fun gk i wr => ∃ j : Nat, Hid (gk + j = n) ∧ j ≤ n ∧ i = .int .i64 (j : Int) ∧ Hid (Below w10.heap.size w10 wr))
    case atStart => exact ⟨0, Lib.hid (by omega), Nat.zero_le _, rfl, Lib.hid (Below.refl _ _)⟩
    case round =>
      obtain ⟨j, hgk, hj, rfl, hBr⟩ := hrel
      by_cases hjk : j < n
      · have Hjk := Lib.hid hjk
        have hn2 := Hn2.out
        obtain ⟨p1, r1, c10, -⟩ := (HS.out _ hBr.out).1.index (c := c1) hjk
        obtain ⟨p2, r2, c20, -⟩ := (HS.out _ hBr.out).2.index (c := c3) hjk
        obtain ⟨x1, ex1⟩ : ∃ v, X.getD j 0 = v := ⟨_, rfl⟩
        obtain ⟨x2, ex2⟩ : ∃ v, Z.getD j 0 = v := ⟨_, rfl⟩
        rw [ex1] at c10
        rw [ex2] at c20
        have Ex1 := Lib.hid ex1
        have Ex2 := Lib.hid ex2
        have wq : IntKind.i64.wrap ((q : Int) + 1) = (q : Int) + 1 := IntWalk.i64_in _ (by have := Hq2.out; have := Hn2.out; omega)
        clear ex1 ex2
        by_cases h10 : j = 10
        · have b10 : ((j : Int) != 10) = false := by simp; omega
          clear h10
          go_upto_region 18 with (fail)
          have HBd := Lib.hid (Below.drew (Below.refl wr.heap.size wr))
          refine wp_region_held_drew (S := fun w' => w'.cell? p1 = some (.int .u8 x1) ∧ w'.cell? p2 = some (.int .u8 x2)) (by kernel_rfl) ⟨c10, c20⟩ (fun hHeld => ?_)
          obtain ⟨wd, ewd⟩ : ∃ wd, wr.drew = wd := ⟨_, rfl⟩
          rw [ewd] at HBd hHeld ⊢
          clear ewd
          refine tk 0 ?_ rfl ?_ ?_
          rotate_left
          · intro w' hSw; (go_simp <;> (with_reducible rfl))
          try simp only [Act.put, putL]
          refine tk 1 ?_ rfl ?_ ?_
          rotate_left
          · intro w' hSw; (go_simp <;> (with_reducible rfl))
          try simp only [Act.put, putL]
          refine tk 2 ?_ rfl ?_ ?_
          rotate_left
          · intro w' hSw; (go_simp <;> (with_reducible rfl))
          try simp only [Act.put, putL]
          refine tkN 3 rfl ?_
          try simp only [Act.put, putL]
          refine tkN 4 rfl ?_
          try simp only [Act.put, putL]
          refine tk 5 ?_ rfl ?_ ?_
          rotate_left
          · intro w' hSw; (go_simp <;> (with_reducible rfl))
          try simp only [Act.put, putL]
          refine tk 6 ?_ rfl ?_ ?_
          rotate_left
          · intro w' hSw; (go_simp <;> (with_reducible rfl))
          try simp only [Act.put, putL]
          refine tkN 7 rfl ?_
          try simp only [Act.put, putL]
          refine tkN 8 rfl ?_
          try simp only [Act.put, putL]
          refine tkN 9 rfl ?_
          try simp only [Act.put, putL]
          refine tk 10 ?_ rfl ?_ ?_
          rotate_left
          · intro w' hSw; (go_simp <;> (with_reducible rfl))
          try simp only [Act.put, putL]
          refine tk 11 ?_ rfl ?_ ?_
          rotate_left
          · intro w' hSw; (go_simp <;> (with_reducible rfl))
          try simp only [Act.put, putL]
          refine tkN 12 rfl ?_
          try simp only [Act.put, putL]
          refine tkN 13 rfl ?_
          try simp only [Act.put, putL]
          refine tkN 14 rfl ?_
          try simp only [Act.put, putL]
          refine tkN 15 rfl ?_
          try simp only [Act.put, putL]
          refine tk 16 ?_ rfl ?_ ?_
          rotate_left
          · intro w' hSw; (go_simp <;> (with_reducible rfl))
          try simp only [Act.put, putL]
          refine tk 17 ?_ rfl ?_ ?_
          rotate_left
          · intro w' hSw; (go_simp <;> (with_reducible rfl))
          try simp only [Act.put, putL]
          refine tkN 18 rfl ?_
          try simp only [Act.put, putL]
          refine tkN 19 rfl ?_
          try simp only [Act.put, putL]
          refine tkN 20 rfl ?_
          try simp only [Act.put, putL]
          refine tkN 21 rfl ?_
          try simp only [Act.put, putL]
          refine tkN 22 rfl ?_
          try simp only [Act.put, putL]
          refine tkN 23 rfl ?_
          try simp only [Act.put, putL]
          refine tkN 24 rfl ?_
          try simp only [Act.put, putL]
          refine tkN 25 rfl ?_
          try simp only [Act.put, putL]
          refine tkN 26 rfl ?_
          try simp only [Act.put, putL]
          refine tk 27 ?_ rfl ?_ ?_
          rotate_left
          · intro w' hSw; (go_simp <;> (with_reducible rfl))
          try simp only [Act.put, putL]
          refine wpAnyH_done (by kernel_rfl) ?_ _
          clear hHeld
          go_wp2_with fail
          go_roundg (gk - 1)
          case measure => have := hgk.out; omega
          case rel => exact ⟨j + 1, by have := hgk.out; show gk - 1 + (j + 1) = _; omega, by have := Hjk.out; omega, (by have h1 := Hn2.out; have h2 := Hjk.out; go_num), Lib.hid (hBr.out.trans (HBd.out.mono hBr.out.size))⟩
        have b10 : ((j : Int) != 10) = true := by simp; omega
        by_cases h11 : j = 11
        · have b11 : ((j : Int) != 11) = false := by simp; omega
          clear h10 h11
          go_upto_region 18 with (fail)
          have HBd := Lib.hid (Below.drew (Below.refl wr.heap.size wr))
          refine wp_region_held_drew (S := fun w' => w'.cell? p1 = some (.int .u8 x1) ∧ w'.cell? p2 = some (.int .u8 x2)) (by kernel_rfl) ⟨c10, c20⟩ (fun hHeld => ?_)
          obtain ⟨wd, ewd⟩ : ∃ wd, wr.drew = wd := ⟨_, rfl⟩
          rw [ewd] at HBd hHeld ⊢
          clear ewd
          refine tk 0 ?_ rfl ?_ ?_
          rotate_left
          · intro w' hSw; (go_simp <;> (with_reducible rfl))
          try simp only [Act.put, putL]
          refine tk 1 ?_ rfl ?_ ?_
          rotate_left
          · intro w' hSw; (go_simp <;> (with_reducible rfl))
          try simp only [Act.put, putL]
          refine tk 2 ?_ rfl ?_ ?_
          rotate_left
          · intro w' hSw; (go_simp <;> (with_reducible rfl))
          try simp only [Act.put, putL]
          refine tk 3 ?_ rfl ?_ ?_
          rotate_left
          · intro w' hSw; (go_simp <;> (with_reducible rfl))
          try simp only [Act.put, putL]
          refine tk 4 ?_ rfl ?_ ?_
          rotate_left
          · intro w' hSw; (go_simp <;> (with_reducible rfl))
          try simp only [Act.put, putL]
          refine tk 5 ?_ rfl ?_ ?_
          rotate_left
          · intro w' hSw; (go_simp <;> (with_reducible rfl))
          try simp only [Act.put, putL]
          refine tk 6 ?_ rfl ?_ ?_
          rotate_left
          · intro w' hSw; (go_simp <;> (with_reducible rfl))
          try simp only [Act.put, putL]
          refine tkN 7 rfl ?_
          try simp only [Act.put, putL]
          refine tkN 8 rfl ?_
          try simp only [Act.put, putL]
          refine tkN 9 rfl ?_
          try simp only [Act.put, putL]
          refine tk 10 ?_ rfl ?_ ?_
          rotate_left
          · intro w' hSw; (go_simp <;> (with_reducible rfl))
          try simp only [Act.put, putL]
          refine tk 11 ?_ rfl ?_ ?_
          rotate_left
          · intro w' hSw; (go_simp <;> (with_reducible rfl))
          try simp only [Act.put, putL]
          refine tkN 12 rfl ?_
          try simp only [Act.put, putL]
          refine tkN 13 rfl ?_
          try simp only [Act.put, putL]
          refine tkN 14 rfl ?_
          try simp only [Act.put, putL]
          refine tkN 15 rfl ?_
          try simp only [Act.put, putL]
          refine tk 16 ?_ rfl ?_ ?_
          rotate_left
          · intro w' hSw; (go_simp <;> (with_reducible rfl))
          try simp only [Act.put, putL]
          refine tk 17 ?_ rfl ?_ ?_
          rotate_left
          · intro w' hSw; (go_simp <;> (with_reducible rfl))
          try simp only [Act.put, putL]
          refine tkN 18 rfl ?_
          try simp only [Act.put, putL]
          refine tkN 19 rfl ?_
          try simp only [Act.put, putL]
          refine tkN 20 rfl ?_
          try simp only [Act.put, putL]
          refine tkN 21 rfl ?_
          try simp only [Act.put, putL]
          refine tkN 22 rfl ?_
          try simp only [Act.put, putL]
          refine tkN 23 rfl ?_
          try simp only [Act.put, putL]
          refine tkN 24 rfl ?_
          try simp only [Act.put, putL]
          refine tkN 25 rfl ?_
          try simp only [Act.put, putL]
          refine tkN 26 rfl ?_
          try simp only [Act.put, putL]
          refine tk 27 ?_ rfl ?_ ?_
          rotate_left
          · intro w' hSw; (go_simp <;> (with_reducible rfl))
          try simp only [Act.put, putL]
          refine wpAnyH_done (by kernel_rfl) ?_ _
          clear hHeld
          go_wp2_with fail
          go_roundg (gk - 1)
          case measure => have := hgk.out; omega
          case rel => exact ⟨j + 1, by have := hgk.out; show gk - 1 + (j + 1) = _; omega, by have := Hjk.out; omega, (by have h1 := Hn2.out; have h2 := Hjk.out; go_num), Lib.hid (hBr.out.trans (HBd.out.mono hBr.out.size))⟩
        have b11 : ((j : Int) != 11) = true := by simp; omega
        by_cases hq : j = q
        · have bq : ((j : Int) != (q : Int)) = false := by simp; omega
          clear h10 h11 hq
          go_upto_region 18 with (fail)
          have HBd := Lib.hid (Below.drew (Below.refl wr.heap.size wr))
          refine wp_region_held_drew (S := fun w' => w'.cell? p1 = some (.int .u8 x1) ∧ w'.cell? p2 = some (.int .u8 x2)) (by kernel_rfl) ⟨c10, c20⟩ (fun hHeld => ?_)
          obtain ⟨wd, ewd⟩ : ∃ wd, wr.drew = wd := ⟨_, rfl⟩
          rw [ewd] at HBd hHeld ⊢
          clear ewd
          refine tk 0 ?_ rfl ?_ ?_
          rotate_left
          · intro w' hSw; (go_simp <;> (with_reducible rfl))
          try simp only [Act.put, putL]
          refine tk 1 ?_ rfl ?_ ?_
          rotate_left
          · intro w' hSw; (go_simp <;> (with_reducible rfl))
          try simp only [Act.put, putL]
          refine tk 2 ?_ rfl ?_ ?_
          rotate_left
          · intro w' hSw; (go_simp <;> (with_reducible rfl))
          try simp only [Act.put, putL]
          refine tk 3 ?_ rfl ?_ ?_
          rotate_left
          · intro w' hSw; (go_simp <;> (with_reducible rfl))
          try simp only [Act.put, putL]
          refine tk 4 ?_ rfl ?_ ?_
          rotate_left
          · intro w' hSw; (go_simp <;> (with_reducible rfl))
          try simp only [Act.put, putL]
          refine tk 5 ?_ rfl ?_ ?_
          rotate_left
          · intro w' hSw; (go_simp <;> (with_reducible rfl))
          try simp only [Act.put, putL]
          refine tk 6 ?_ rfl ?_ ?_
          rotate_left
          · intro w' hSw; (go_simp <;> (with_reducible rfl))
          try simp only [Act.put, putL]
          refine tk 7 ?_ rfl ?_ ?_
          rotate_left
          · intro w' hSw; (go_simp <;> (with_reducible rfl))
          try simp only [Act.put, putL]
          refine tk 8 ?_ rfl ?_ ?_
          rotate_left
          · intro w' hSw; (go_simp <;> (with_reducible rfl))
          try simp only [Act.put, putL]
          refine tk 9 ?_ rfl ?_ ?_
          rotate_left
          · intro w' hSw; (go_simp <;> (with_reducible rfl))
          try simp only [Act.put, putL]
          refine tk 10 ?_ rfl ?_ ?_
          rotate_left
          · intro w' hSw; (go_simp <;> (with_reducible rfl))
          try simp only [Act.put, putL]
          refine tk 11 ?_ rfl ?_ ?_
          rotate_left
          · intro w' hSw; (go_simp <;> (with_reducible rfl))
          try simp only [Act.put, putL]
          refine tkN 12 rfl ?_
          try simp only [Act.put, putL]
          refine tkN 13 rfl ?_
          try simp only [Act.put, putL]
          refine tkN 14 rfl ?_
          try simp only [Act.put, putL]
          refine tkN 15 rfl ?_
          try simp only [Act.put, putL]
          refine tk 16 ?_ rfl ?_ ?_
          rotate_left
          · intro w' hSw; (go_simp <;> (with_reducible rfl))
          try simp only [Act.put, putL]
          refine tk 17 ?_ rfl ?_ ?_
          rotate_left
          · intro w' hSw; (go_simp <;> (with_reducible rfl))
          try simp only [Act.put, putL]
          refine tkN 18 rfl ?_
          try simp only [Act.put, putL]
          refine tkN 19 rfl ?_
          try simp only [Act.put, putL]
          refine tkN 20 rfl ?_
          try simp only [Act.put, putL]
          refine tkN 21 rfl ?_
          try simp only [Act.put, putL]
          refine tkN 22 rfl ?_
          try simp only [Act.put, putL]
          refine tkN 23 rfl ?_
          try simp only [Act.put, putL]
          refine tkN 24 rfl ?_
          try simp only [Act.put, putL]
          refine tkN 25 rfl ?_
          try simp only [Act.put, putL]
          refine tkN 26 rfl ?_
          try simp only [Act.put, putL]
          refine tk 27 ?_ rfl ?_ ?_
          rotate_left
          · intro w' hSw; (go_simp <;> (with_reducible rfl))
          try simp only [Act.put, putL]
          refine wpAnyH_done (by kernel_rfl) ?_ _
          clear hHeld
          go_wp2_with fail
          go_roundg (gk - 1)
          case measure => have := hgk.out; omega
          case rel => exact ⟨j + 1, by have := hgk.out; show gk - 1 + (j + 1) = _; omega, by have := Hjk.out; omega, (by have h1 := Hn2.out; have h2 := Hjk.out; go_num), Lib.hid (hBr.out.trans (HBd.out.mono hBr.out.size))⟩
        have bq : ((j : Int) != (q : Int)) = true := by simp; omega
        by_cases hq1 : j = q + 1
        · have bq1 : ((j : Int) != (q : Int) + 1) = false := by simp; omega
          clear h10 h11 hq hq1
          go_upto_region 18 with (fail)
          have HBd := Lib.hid (Below.drew (Below.refl wr.heap.size wr))
          refine wp_region_held_drew (S := fun w' => w'.cell? p1 = some (.int .u8 x1) ∧ w'.cell? p2 = some (.int .u8 x2)) (by kernel_rfl) ⟨c10, c20⟩ (fun hHeld => ?_)
          obtain ⟨wd, ewd⟩ : ∃ wd, wr.drew = wd := ⟨_, rfl⟩
          rw [ewd] at HBd hHeld ⊢
          clear ewd
          refine tk 0 ?_ rfl ?_ ?_
          rotate_left
          · intro w' hSw; (go_simp <;> (with_reducible rfl))
          try simp only [Act.put, putL]
          refine tk 1 ?_ rfl ?_ ?_
          rotate_left
          · intro w' hSw; (go_simp <;> (with_reducible rfl))
          try simp only [Act.put, putL]
          refine tk 2 ?_ rfl ?_ ?_
          rotate_left
          · intro w' hSw; (go_simp <;> (with_reducible rfl))
          try simp only [Act.put, putL]
          refine tk 3 ?_ rfl ?_ ?_
          rotate_left
          · intro w' hSw; (go_simp <;> (with_reducible rfl))
          try simp only [Act.put, putL]
          refine tk 4 ?_ rfl ?_ ?_
          rotate_left
          · intro w' hSw; (go_simp <;> (with_reducible rfl))
          try simp only [Act.put, putL]
          refine tk 5 ?_ rfl ?_ ?_
          rotate_left
          · intro w' hSw; (go_simp <;> (with_reducible rfl))
          try simp only [Act.put, putL]
          refine tk 6 ?_ rfl ?_ ?_
          rotate_left
          · intro w' hSw; (go_simp <;> (with_reducible rfl))
          try simp only [Act.put, putL]
          refine tk 7 ?_ rfl ?_ ?_
          rotate_left
          · intro w' hSw; (go_simp <;> (with_reducible rfl))
          try simp only [Act.put, putL]
          refine tk 8 ?_ rfl ?_ ?_
          rotate_left
          · intro w' hSw; (go_simp <;> (with_reducible rfl))
          try simp only [Act.put, putL]
          refine tk 9 ?_ rfl ?_ ?_
          rotate_left
          · intro w' hSw; (go_simp <;> (with_reducible rfl))
          try simp only [Act.put, putL]
          refine tk 10 ?_ rfl ?_ ?_
          rotate_left
          · intro w' hSw; (go_simp <;> (with_reducible rfl))
          try simp only [Act.put, putL]
          refine tk 11 ?_ rfl ?_ ?_
          rotate_left
          · intro w' hSw; (go_simp <;> (with_reducible rfl))
          try simp only [Act.put, putL]
          refine tk 12 ?_ rfl ?_ ?_
          rotate_left
          · intro w' hSw; (go_simp <;> (with_reducible rfl))
          try simp only [Act.put, putL]
          refine tk 13 ?_ rfl ?_ ?_
          rotate_left
          · intro w' hSw; (go_simp <;> (with_reducible rfl))
          try simp only [Act.put, putL]
          refine tk 14 ?_ rfl ?_ ?_
          rotate_left
          · intro w' hSw; (go_simp <;> (with_reducible rfl))
          try simp only [Act.put, putL]
          refine tk 15 ?_ rfl ?_ ?_
          rotate_left
          · intro w' hSw; (go_simp <;> (with_reducible rfl))
          try simp only [Act.put, putL]
          refine tk 16 ?_ rfl ?_ ?_
          rotate_left
          · intro w' hSw; (go_simp <;> (with_reducible rfl))
          try simp only [Act.put, putL]
          refine tk 17 ?_ rfl ?_ ?_
          rotate_left
          · intro w' hSw; (go_simp <;> (with_reducible rfl))
          try simp only [Act.put, putL]
          refine tkN 18 rfl ?_
          try simp only [Act.put, putL]
          refine tkN 19 rfl ?_
          try simp only [Act.put, putL]
          refine tkN 20 rfl ?_
          try simp only [Act.put, putL]
          refine tkN 21 rfl ?_
          try simp only [Act.put, putL]
          refine tkN 22 rfl ?_
          try simp only [Act.put, putL]
          refine tkN 23 rfl ?_
          try simp only [Act.put, putL]
          refine tkN 24 rfl ?_
          try simp only [Act.put, putL]
          refine tkN 25 rfl ?_
          try simp only [Act.put, putL]
          refine tkN 26 rfl ?_
          try simp only [Act.put, putL]
          refine tk 27 ?_ rfl ?_ ?_
          rotate_left
          · intro w' hSw; (go_simp <;> (with_reducible rfl))
          try simp only [Act.put, putL]
          refine wpAnyH_done (by kernel_rfl) ?_ _
          clear hHeld
          go_wp2_with fail
          go_roundg (gk - 1)
          case measure => have := hgk.out; omega
          case rel => exact ⟨j + 1, by have := hgk.out; show gk - 1 + (j + 1) = _; omega, by have := Hjk.out; omega, (by have h1 := Hn2.out; have h2 := Hjk.out; go_num), Lib.hid (hBr.out.trans (HBd.out.mono hBr.out.size))⟩
        have bq1 : ((j : Int) != (q : Int) + 1) = true := by simp; omega
        have hag := HC.out.ag j (by omega) (by have := Hq.out; omega)
        rw [Ex1.out, Ex2.out] at hag
        have b12 : (x1 != x2) = false := by rw [hag]; simp
        clear h10 h11 hq hq1 Ex1 Ex2 hag
        go_upto_region 18 with (fail)
        have HBd := Lib.hid (Below.drew (Below.refl wr.heap.size wr))
        refine wp_region_held_drew (S := fun w' => w'.cell? p1 = some (.int .u8 x1) ∧ w'.cell? p2 = some (.int .u8 x2)) (by kernel_rfl) ⟨c10, c20⟩ (fun hHeld => ?_)
        obtain ⟨wd, ewd⟩ : ∃ wd, wr.drew = wd := ⟨_, rfl⟩
        rw [ewd] at HBd hHeld ⊢
        clear ewd
        refine tk 0 ?_ rfl ?_ ?_
        rotate_left
        · intro w' hSw; (go_simp <;> (with_reducible rfl))
        try simp only [Act.put, putL]
        refine tk 1 ?_ rfl ?_ ?_
        rotate_left
        · intro w' hSw; (go_simp <;> (with_reducible rfl))
        try simp only [Act.put, putL]
        refine tk 2 ?_ rfl ?_ ?_
        rotate_left
        · intro w' hSw; (go_simp <;> (with_reducible rfl))
        try simp only [Act.put, putL]
        refine tk 3 ?_ rfl ?_ ?_
        rotate_left
        · intro w' hSw; (go_simp <;> (with_reducible rfl))
        try simp only [Act.put, putL]
        refine tk 4 ?_ rfl ?_ ?_
        rotate_left
        · intro w' hSw; (go_simp <;> (with_reducible rfl))
        try simp only [Act.put, putL]
        refine tk 5 ?_ rfl ?_ ?_
        rotate_left
        · intro w' hSw; (go_simp <;> (with_reducible rfl))
        try simp only [Act.put, putL]
        refine tk 6 ?_ rfl ?_ ?_
        rotate_left
        · intro w' hSw; (go_simp <;> (with_reducible rfl))
        try simp only [Act.put, putL]
        refine tk 7 ?_ rfl ?_ ?_
        rotate_left
        · intro w' hSw; (go_simp <;> (with_reducible rfl))
        try simp only [Act.put, putL]
        refine tk 8 ?_ rfl ?_ ?_
        rotate_left
        · intro w' hSw; (go_simp <;> (with_reducible rfl))
        try simp only [Act.put, putL]
        refine tk 9 ?_ rfl ?_ ?_
        rotate_left
        · intro w' hSw; (go_simp <;> (with_reducible rfl))
        try simp only [Act.put, putL]
        refine tk 10 ?_ rfl ?_ ?_
        rotate_left
        · intro w' hSw; (go_simp <;> (with_reducible rfl))
        try simp only [Act.put, putL]
        refine tk 11 ?_ rfl ?_ ?_
        rotate_left
        · intro w' hSw; (go_simp <;> (with_reducible rfl))
        try simp only [Act.put, putL]
        refine tk 12 ?_ rfl ?_ ?_
        rotate_left
        · intro w' hSw; (go_simp <;> (with_reducible rfl))
        try simp only [Act.put, putL]
        refine tk 13 ?_ rfl ?_ ?_
        rotate_left
        · intro w' hSw; (go_simp <;> (with_reducible rfl))
        try simp only [Act.put, putL]
        refine tk 14 ?_ rfl ?_ ?_
        rotate_left
        · intro w' hSw; (go_simp <;> (with_reducible rfl))
        try simp only [Act.put, putL]
        refine tk 15 ?_ rfl ?_ ?_
        rotate_left
        · intro w' hSw; (go_simp <;> (with_reducible rfl))
        try simp only [Act.put, putL]
        refine tk 16 ?_ rfl ?_ ?_
        rotate_left
        · intro w' hSw; (go_simp <;> (with_reducible rfl))
        try simp only [Act.put, putL]
        refine tk 17 ?_ rfl ?_ ?_
        rotate_left
        · intro w' hSw; (go_simp <;> (with_reducible rfl))
        try simp only [Act.put, putL]
        refine tk 18 ?_ rfl ?_ ?_
        rotate_left
        · intro w' hSw; (go_simp <;> (with_reducible rfl))
        try simp only [Act.put, putL]
        refine tk 19 ?_ rfl ?_ ?_
        rotate_left
        · intro w' hSw; (go_simp <;> (with_reducible rfl))
        try simp only [Act.put, putL]
        refine tk 20 ?_ rfl ?_ ?_
        rotate_left
        · intro w' hSw; (go_simp <;> (with_reducible rfl))
        try simp only [Act.put, putL]
        refine tk 21 ?_ rfl ?_ ?_
        rotate_left
        · intro w' hSw; (go_simp <;> (with_reducible rfl))
        try simp only [Act.put, putL]
        refine tk 22 ?_ rfl ?_ ?_
        rotate_left
        · intro w' hSw; (go_simp <;> (with_reducible rfl))
        try simp only [Act.put, putL]
        refine tk 23 ?_ rfl ?_ ?_
        rotate_left
        · intro w' hSw; (go_simp <;> (with_reducible rfl))
        try simp only [Act.put, putL]
        refine tk 24 ?_ rfl ?_ ?_
        rotate_left
        · intro w' hSw; (go_simp <;> (with_reducible rfl))
        try simp only [Act.put, putL]
        refine tk 25 ?_ rfl ?_ ?_
        rotate_left
        · intro w' hSw; (go_simp <;> (with_reducible rfl))
        try simp only [Act.put, putL]
        refine tk 26 ?_ rfl ?_ ?_
        rotate_left
        · intro w' hSw; (go_simp <;> (with_reducible rfl))
        try simp only [Act.put, putL]
        refine tk 27 ?_ rfl ?_ ?_
        rotate_left
        · intro w' hSw; (go_simp <;> (with_reducible rfl))
        try simp only [Act.put, putL]
        refine wpAnyH_done (by kernel_rfl) ?_ _
        clear hHeld
        go_wp2_with fail
        go_roundg (gk - 1)
        case measure => have := hgk.out; omega
        case rel => exact ⟨j + 1, by have := hgk.out; show gk - 1 + (j + 1) = _; omega, by have := Hjk.out; omega, (by have h1 := Hn2.out; have h2 := Hjk.out; go_num), Lib.hid (hBr.out.trans (HBd.out.mono hBr.out.size))⟩
      · obtain rfl : j = n := by omega
        go_wp2_with fail
        refine (Aw.out _).mono ?_
        rintro e w11 ⟨rfl, hb11⟩
        have HB11 := Lib.hid (below_trans hBr.out hb11)
        clear hb11
        go_wp2_with fail
        refine (show Calls Tryz.prog _ #[.slice A1 j c1, .slice A3 j c3, .int .i64 10] _ (TrueIs15 _) from like15_any A1 A3 j c1 j c3 10 5 X Z _ (HS.out _ HB11.out).1 (HS.out _ HB11.out).2 rfl (by have := Hq2.out; omega) (by have := Hq2.out; omega) Hn2.out HC.out.h).mono ?_
        rintro e w12 ⟨rfl, hb12⟩
        have HB12 := Lib.hid (below_trans HB11.out hb12)
        clear hb12 HB11
        go_wp2_with fail
        refine (like15_any A1 A3 j c1 j c3 q F X Z _ (HS.out _ HB12.out).1 (HS.out _ HB12.out).2 Hq.out.symm Hq2.out.1 Hq2.out.1 Hn2.out HC.out.p).mono ?_
        rintro e w13 ⟨rfl, hb13⟩
        have HB13 := Lib.hid (HB10.out.trans ((below_trans HB12.out hb13).mono HB10.out.size))
        clear hb13 HB12
        go_wp2_with fail
        go_ret
        exact ⟨rfl, HB13.out⟩
end Go.Proofs.YtheknmihnkennaaGreat.natChainW

/-
  culvertlaw15's syn and awake, over what Rewrite tells (stage 15, written ahead).
-/
namespace Go.Proofs.YtheknmihnkennaaGreat
set_option maxRecDepth 10000
open Go.RowKit
set_option linter.unusedSimpArgs false
set_option linter.unusedVariables false

def synS15 : Seg := ⟨4000, 80, 9, 0, 2, 0, 0, [], []⟩
def synP15 : Pk := ⟨ownH 167772162 3221225985 6, synS15, zeroDg, zeroM⟩
def synT15 : Tu := ⟨6, 3325256705, 3221225985, 20000, 80⟩
theorem syn15_1 : errPk synP15 = 0 := by decide +kernel
theorem syn15_2 : (pkB synP15).length = 40 := by decide +kernel
theorem syn15_3 : errRw (pkB synP15) synT15 true = 0 := by decide +kernel
theorem syn15_4 : errAll (rwT (pkB synP15) synT15 true) = 0 := by decide +kernel
theorem syn15_5 : (rwT (pkB synP15) synT15 true).length = 40 := by decide +kernel
theorem syn15_6 : (pkOfB (rwT (pkB synP15) synT15 true)).h.sr = 3325256705 := by decide +kernel
theorem syn15_7 : (pkOfB (rwT (pkB synP15) synT15 true)).s.sp = 20000 := by decide +kernel
theorem syn15_8 : (pkOfB (rwT (pkB synP15) synT15 true)).h.tt = 63 := by decide +kernel
theorem syn15_9 : (pkOfB (rwT (pkB synP15) synT15 true)).s.sq = 9 := by decide +kernel
theorem syn15_b : Bytes (rwT (pkB synP15) synT15 true) := by unfold Bytes; decide +kernel

/-- The SYN's bytes. -/
def SynGot (L : List Int) (w : World) (e : Ending) (w' : World) : Prop := ∃ A c, e = .returned (.slice A 40 c) ∧ (40 ≤ c ∧ c ≤ maxLen) ∧ Rd w' A 40 L ∧ Below w.heap.size w w'
theorem syn15_any (L : List Int) (w : World) (hL : pkB synP15 = L) : Calls Tryz.prog 20 #[] w (SynGot L w) := by
  have HL := Lib.hid hL
  clear hL
  have HC := Lib.hid (show Calls Tryz.prog _ _ w (MadeIs synP15 0 w) from tcp9_any 167772162 3221225985 synS15 none 0 0 [] none 0 0 w (by decide) (by decide) (by decide) (by decide) (by intro l hl; cases hl) ⟨⟨by decide, by decide, by decide, by decide, by decide, by decide, by decide⟩, ⟨Nat.le_refl _, by simp [maxLen]⟩, ⟨Nat.le_refl _, by simp [maxLen]⟩, RdO.nil _ _, trivial, Rd.nil _ _⟩)
  obtain ⟨q, eq⟩ : ∃ q, synP15 = q := ⟨_, rfl⟩
  rw [eq] at HC
  have Eq := Lib.hid eq
  clear eq
  go_enter Tryz.func20, Tryz.ntmps20
  go_wp2_with fail
  refine HC.out.mono ?_
  rintro e w1 ⟨b, rfl, hp, hnO, -, hb1⟩
  have Hp := Lib.hid hp
  have HnO := Lib.hid hnO
  have HB1 := Lib.hid hb1
  clear hp hnO hb1 HC
  go_wp2_with fail
  have hD : b.nD = 0 := by rw [← Hp.out.sr.d.len, ← Eq.out]; rfl
  refine (put9_any q b w1 L 40 0 Hp.out (by have := HnO.out; omega) (by omega) (by rw [← Eq.out]; exact syn15_1) (by rw [← Eq.out]; exact HL.out) (by rw [← HL.out]; exact syn15_2)).mono ?_
  rintro e w2 ⟨A, c, rfl, hc, hr, hb2⟩
  clear hD
  have HB2 := Lib.hid (below_trans HB1.out hb2)
  have Hr := Lib.hid hr
  have Hc := Lib.hid hc
  clear hb2 hr hc Hp HnO HB1 Eq
  go_wp2_with fail
  go_ret
  exact ⟨A, c, rfl, Hc.out, Hr.out, HB2.out⟩
set_option maxHeartbeats 2000000 in
theorem awake15_any (rw_ : RwF) : AwF := by
  intro w
  have Rw := Lib.hid rw_
  clear rw_
  obtain ⟨L, eL⟩ : ∃ L, pkB synP15 = L := ⟨_, rfl⟩
  obtain ⟨L2, eL2⟩ : ∃ L2, rwT L synT15 true = L2 := ⟨_, rfl⟩
  obtain ⟨p, ep⟩ : ∃ p, pkOfB L2 = p := ⟨_, rfl⟩
  have h3 := syn15_3; have h4 := syn15_4; have h5 := syn15_5; have h6 := syn15_6; have h7 := syn15_7; have h8 := syn15_8; have h9 := syn15_9; have hb := syn15_b
  rw [eL] at h3 h4 h5 h6 h7 h8 h9 hb
  rw [eL2] at h4 h5 h6 h7 h8 h9 hb
  rw [ep] at h6 h7 h8 h9
  have H3 := Lib.hid h3; have H4 := Lib.hid h4; have H5 := Lib.hid h5; have HL := Lib.hid eL; have HL2 := Lib.hid eL2; have Hp := Lib.hid ep; have Hby := Lib.hid hb
  have H6 := Lib.hid (show (p.h.sr == 3325256705) = true by simpa using h6)
  have H7 := Lib.hid (show (p.s.sp == 20000) = true by simpa using h7)
  have H8 := Lib.hid (show (p.h.tt == 63) = true by simpa using h8)
  have H9 := Lib.hid (show (p.s.sq == 9) = true by simpa using h9)
  clear h3 h4 h5 h6 h7 h8 h9 eL eL2 ep hb
  go_enter Tryz.func8, Tryz.ntmps8
  go_wp2_with fail
  refine (syn15_any L _ HL.out).mono ?_
  rintro e w1 ⟨A1, c1, rfl, hc1, hr1, hb1⟩
  have Hr1 := Lib.hid hr1
  have Hc1 := Lib.hid hc1
  have HB1 := Lib.hid hb1
  clear hr1 hc1 hb1
  go_wp2_with fail
  refine (Rw.out A1 40 c1 L synT15 true w1 L2 40 0 Hc1.out (by decide) Hr1.out ⟨by decide, by decide, by decide, by decide, by decide⟩ HL2.out H5.out H3.out).mono ?_
  rintro e w2 ⟨A2, c2, rfl, ho2, hb2⟩
  have Hr2 := Lib.hid (ho2.rd Hby.out)
  have Hc2 := Lib.hid (And.intro ho2.cap ho2.capMax)
  have HB2 := Lib.hid (below_trans HB1.out hb2)
  clear ho2 hb2 HB1 Hr1 Hc1
  go_wp2_with fail
  have hg := parse9_ok A2 40 c2 L2 w2 Hc2.out (by decide) Hr2.out H4.out
  rw [Hp.out] at hg
  refine hg.mono ?_
  clear hg
  rintro e w3 ⟨a, rfl, hp, hn, hof, hb3⟩
  obtain ⟨g, eg⟩ : ∃ g, w3.heap.size = g := ⟨_, rfl⟩
  obtain ⟨w4, ew4⟩ : ∃ v, w3.alloc (.cells #[.int .u8 p.h.to, .int .u16 p.h.id, .bool p.h.df, .int .u8 p.h.tt, .int .u8 p.h.pr, .int .u32 p.h.sr, .int .u32 p.h.ds, .slice a.AH a.nH a.cH, .int .u16 p.s.sp, .int .u16 p.s.dp, .int .u32 p.s.sq, .int .u32 p.s.ak, .int .u8 p.s.fl, .int .u16 p.s.wn, .int .u16 p.s.ug, .slice a.AO a.nO a.cO, .slice a.AD a.nD a.cD, .int .u16 p.u.sp, .int .u16 p.u.dp, .slice a.AU a.nU a.cU, .int .u8 p.m.ty, .int .u8 p.m.cd, .int .u32 p.m.rs, .slice a.AM a.nM a.cM] 35) = v := ⟨_, rfl⟩
  have HK4 := Lib.hid (show w4.heap[g]? = some (.cells #[.int .u8 p.h.to, .int .u16 p.h.id, .bool p.h.df, .int .u8 p.h.tt, .int .u8 p.h.pr, .int .u32 p.h.sr, .int .u32 p.h.ds, .slice a.AH a.nH a.cH, .int .u16 p.s.sp, .int .u16 p.s.dp, .int .u32 p.s.sq, .int .u32 p.s.ak, .int .u8 p.s.fl, .int .u16 p.s.wn, .int .u16 p.s.ug, .slice a.AO a.nO a.cO, .slice a.AD a.nD a.cD, .int .u16 p.u.sp, .int .u16 p.u.dp, .slice a.AU a.nU a.cU, .int .u8 p.m.ty, .int .u8 p.m.cd, .int .u32 p.m.rs, .slice a.AM a.nM a.cM] 35 (0, 0)) by rw [← ew4, ← eg]; exact heap_alloc_new w3 _)
  have HB4 := Lib.hid (show Below w.heap.size w w4 by rw [← ew4]; have h := below_trans HB2.out hb3; exact h.alloc h.size _)
  have Ew4 := Lib.hid ew4
  have Eg := Lib.hid eg
  clear eg ew4 hp hn hof hb3 HB2 Hr2 Hc2
  go_upto_region 3 with (refine wp_store_new 35 (.tmp 3) (.tmp 14) rfl rfl w3 _ _ rfl rfl (by kernel_rfl) rfl (by simp [Value.oneCell']) ?_)
  rw [Ew4.out]
  try rw [Eg.out]
  clear Ew4 Eg
  have k3 := (cells24 HK4.out).2.2.2.1
  have k5 := (cells24 HK4.out).2.2.2.2.2.1
  have k8 := (cells24 HK4.out).2.2.2.2.2.2.2.2.1
  have k10 := (cells24 HK4.out).2.2.2.2.2.2.2.2.2.2.1
  have h6 := H6.out
  have h7 := H7.out
  have h8 := H8.out
  have h9 := H9.out
  go_wp2_with fail
  go_ret
  exact ⟨rfl, HB4.out⟩
end Go.Proofs.YtheknmihnkennaaGreat
