/-
  culvertlaw09's syn and awake: the document's example.
-/
import Derived.Test.YtkooehejdfaekaaZK28
namespace Go.Proofs.Ytkooehejdfaekaa
set_option maxRecDepth 10000
open Go.RowKit
set_option linter.unusedSimpArgs false
set_option linter.unusedVariables false

def synS : Seg := ⟨3, 4, 0, 0, 2, 0, 0, [], []⟩
def synP : Pk := ⟨ownH 1 2 6, synS, zeroDg, zeroM⟩
def synR : List Int := [0, 3, 0, 4, 0, 0, 0, 0, 0, 0, 0, 0, 80, 2, 0, 0, 175, 217, 0, 0]
def synL : List Int := [69, 0, 0, 40, 0, 0, 64, 0, 64, 6, 58, 206, 0, 0, 0, 1, 0, 0, 0, 2] ++ synR
theorem syn_1 : errPk synP = 0 := by decide +kernel
theorem syn_2 : pkB synP = synL := by decide +kernel
theorem syn_3 : errIp synL = 0 := by decide +kernel
theorem syn_4 : hdOf synL = ownH 1 2 6 := (hdSame_iff _ _).1 (by decide +kernel)
theorem syn_5 : restOf synL = synR := by decide +kernel
theorem syn_6 : errSeg 1 2 synR = 0 := by decide +kernel
theorem syn_7 : segOf synR (offB synR) = synS := (segSame_iff _ _).1 (by decide +kernel)
theorem syn_8 : errPk ⟨{ ownH 1 2 6 with pr := 17 }, synS, zeroDg, zeroM⟩ = 1 := by decide +kernel
theorem syn_9 : pkB ⟨{ ownH 1 2 6 with pr := 17 }, synS, zeroDg, zeroM⟩ = [] := by decide +kernel

theorem syn_any (w : World) : Calls Try.prog 16 #[] w (MadeIs synP 0 w) := by
  obtain ⟨z, hz⟩ : ∃ z, w.heap.size = z := ⟨_, rfl⟩
  obtain ⟨w0, ew⟩ : ∃ w0, w.alloc (.cells #[.int .u8 0, .int .u16 0, .bool false, .int .u8 0, .int .u8 0, .int .u32 0, .int .u32 0, .slice none 0 0, .int .u16 0, .int .u16 0, .int .u32 0, .int .u32 0, .int .u8 0, .int .u16 0, .int .u16 0, .slice none 0 0, .slice none 0 0, .int .u16 0, .int .u16 0, .slice none 0 0, .int .u8 0, .int .u8 0, .int .u32 0, .slice none 0 0] 35) = w0 := ⟨_, rfl⟩
  have hb0 : Below w.heap.size w w0 := by rw [← ew]; exact (Below.refl _ _).alloc (Nat.le_refl _) _
  have hk0 : w0.heap[z]? = some (.cells #[.int .u8 0, .int .u16 0, .bool false, .int .u8 0, .int .u8 0, .int .u32 0, .int .u32 0, .slice none 0 0, .int .u16 0, .int .u16 0, .int .u32 0, .int .u32 0, .int .u8 0, .int .u16 0, .int .u16 0, .slice none 0 0, .slice none 0 0, .int .u16 0, .int .u16 0, .slice none 0 0, .int .u8 0, .int .u8 0, .int .u32 0, .slice none 0 0] 35 (0, 0)) := by rw [← ew, ← hz]; exact heap_alloc_new w _
  have HC := Lib.hid (show Calls Try.prog _ _ w0 (MadeIs synP 0 w0) from tcp9_any 1 2 synS none 0 0 [] none 0 0 w0 (by decide) (by decide) (by decide) (by decide) (by intro l hl; cases hl) ⟨⟨by decide, by decide, by decide, by decide, by decide, by decide, by decide⟩, ⟨Nat.le_refl _, by simp [maxLen]⟩, ⟨Nat.le_refl _, by simp [maxLen]⟩, RdO.nil _ _, trivial, Rd.nil _ _⟩)
  obtain ⟨q, eq⟩ : ∃ q, synP = q := ⟨_, rfl⟩
  rw [eq] at HC ⊢
  clear eq
  have HK0 := Lib.hid hk0
  have Hb0 := Lib.hid hb0
  have Ew := Lib.hid ew
  have Hz := Lib.hid hz
  clear hz ew hb0 hk0
  go_enter Try.func16, Try.ntmps16
  go_upto_region 1 with (fail)
  rw [Ew.out]
  try rw [Hz.out]
  go_wp2_with fail
  refine HC.out.mono ?_
  rintro e w1 ⟨b, rfl, hp, hnO, hof, hb1⟩
  have HKE := Lib.hid (blk_on HK0.out hb1)
  have HB1 := Lib.hid (below_trans Hb0.out hb1)
  have Hz1 := Lib.hid (show z < w0.heap.size from lt_of_block HK0.out)
  have Hp := Lib.hid hp
  have Hof := Lib.hid hof
  clear hp hb1 hof
  try simp only []
  repeat (first | (refine wp_store_row 35 (.tmp 0) (.tmp 2) rfl z _ rfl rfl 35 _ HKE.out (by kernel_rfl) rfl (by simp [Value.oneCell']) ?_; simp only [Act.put, List.setIfInBounds_toArray, List.set_cons_zero, List.set_cons_succ]) | go_values | go_skip | go_guarded | go_step | go_upon | go_back)
  exact bodyPost_ret (results_cell_row rfl _ _ z _ _ _ _ rfl (setRow_heap _ _ _ _ _ _ HKE.out) Try.underlying35 rfl (by kernel_rfl)) rfl ⟨b, rfl, Hp.out.but (row_but _ _ _) (Hof.out.sub (fun g hg => by have := Hz1.out; omega)), hnO, Hof.out.sub (fun g hg => by have := Hz1.out; have := Hz.out; omega), below_setRow HB1.out (by rw [Hz.out]; exact Nat.le_refl _) _⟩

theorem syn_put (q : Pk) (b : PkA) (w : World) (hq : synP = q) (hp : PkRd w q b) (hn : b.nO = 0) : Calls Try.prog 6 #[.agg #[.int .u8 q.h.to, .int .u16 q.h.id, .bool q.h.df, .int .u8 q.h.tt, .int .u8 q.h.pr, .int .u32 q.h.sr, .int .u32 q.h.ds, .slice b.AH b.nH b.cH, .int .u16 q.s.sp, .int .u16 q.s.dp, .int .u32 q.s.sq, .int .u32 q.s.ak, .int .u8 q.s.fl, .int .u16 q.s.wn, .int .u16 q.s.ug, .slice b.AO b.nO b.cO, .slice b.AD b.nD b.cD, .int .u16 q.u.sp, .int .u16 q.u.dp, .slice b.AU b.nU b.cU, .int .u8 q.m.ty, .int .u8 q.m.cd, .int .u32 q.m.rs, .slice b.AM b.nM b.cM]] w (PutGot synL 40 0 w) := by
  have hD : b.nD = 0 := by rw [← hp.sr.d.len, ← hq]; rfl
  exact put9_any q b w synL 40 0 hp (by omega) (by omega) (by rw [← hq]; exact syn_1) (by rw [← hq]; exact syn_2) (by decide +kernel)
theorem syn_parse (q : Pk) (A : Option Addr) (c : Nat) (w : World) (hq : synP = q) (hc : 40 ≤ c ∧ c ≤ maxLen) (h : Rd w A 40 synL) : Calls Try.prog 11 #[.slice A 40 c] w (PkGood q w) := by
  rw [← hq]
  exact parse9_good_6 A 40 c 0 20 0 synL synR (ownH 1 2 6) synS w hc (by decide) h syn_3 syn_4 syn_5 rfl (by decide +kernel) rfl syn_6 syn_7 rfl
def oddP (q : Pk) : Pk := ⟨{ q.h with pr := 17 }, q.s, q.u, q.m⟩
theorem odd_put (q : Pk) (b : PkA) (w : World) (hq : synP = q) (hp : PkRd w q b) (hn : b.nO = 0) : Calls Try.prog 6 #[.agg #[.int .u8 q.h.to, .int .u16 q.h.id, .bool q.h.df, .int .u8 q.h.tt, .int .u8 17, .int .u32 q.h.sr, .int .u32 q.h.ds, .slice b.AH b.nH b.cH, .int .u16 q.s.sp, .int .u16 q.s.dp, .int .u32 q.s.sq, .int .u32 q.s.ak, .int .u8 q.s.fl, .int .u16 q.s.wn, .int .u16 q.s.ug, .slice b.AO b.nO b.cO, .slice b.AD b.nD b.cD, .int .u16 q.u.sp, .int .u16 q.u.dp, .slice b.AU b.nU b.cU, .int .u8 q.m.ty, .int .u8 q.m.cd, .int .u32 q.m.rs, .slice b.AM b.nM b.cM]] w (PutGot [] 0 1 w) := by
  have hD : b.nD = 0 := by rw [← hp.sr.d.len, ← hq]; rfl
  exact put9_any (oddP q) b w [] 0 1 ⟨⟨hp.hn.to, hp.hn.id, hp.hn.tt, (by show 0 ≤ (17 : Int) ∧ (17 : Int) < 256; decide), hp.hn.sr, hp.hn.ds⟩, hp.hc, hp.hr, hp.sr, hp.un, hp.uc, hp.ur, hp.mn, hp.mc, hp.mr⟩ (by omega) (by omega) (by rw [← hq]; exact syn_8) (by rw [← hq]; exact syn_9) rfl
set_option maxHeartbeats 4000000 in
theorem awake9_any (w : World) : Calls Try.prog 7 #[] w (Woke w) := by
  obtain ⟨q, eq⟩ : ∃ q, synP = q := ⟨_, rfl⟩
  have Eq := Lib.hid eq
  have hdp : (q.s.dp == 4) = true := by rw [← eq]; rfl
  have Hdp := Lib.hid hdp
  clear eq hdp
  go_enter Try.func7, Try.ntmps7
  go_wp2_with fail
  refine (syn_any _).mono ?_
  rw [Eq.out]
  rintro e w1 ⟨b, rfl, hp, hnO, -, hb1⟩
  (have Hp := Lib.hid hp; have HnO := Lib.hid hnO; have HB := Lib.hid hb1; clear hp hnO hb1)
  go_wp2_with fail
  refine (syn_put q b _ Eq.out Hp.out HnO.out).mono ?_
  rintro e w2 ⟨A1, c1, rfl, hc1, hr1, hb2⟩
  have Hr1 := Lib.hid hr1
  have Hc1 := Lib.hid hc1
  have HB2 := Lib.hid (below_trans HB.out hb2)
  clear hr1 hc1 hb2 HB Hp HnO
  go_wp2_with fail
  refine (syn_parse q A1 c1 _ Eq.out Hc1.out Hr1.out).mono ?_
  rintro e w3 ⟨b3, rfl, hp3, hn3, -, hb3⟩
  obtain ⟨w4, ew4⟩ : ∃ v, w3.alloc (.cells #[.int .u8 q.h.to, .int .u16 q.h.id, .bool q.h.df, .int .u8 q.h.tt, .int .u8 q.h.pr, .int .u32 q.h.sr, .int .u32 q.h.ds, .slice b3.AH b3.nH b3.cH, .int .u16 q.s.sp, .int .u16 q.s.dp, .int .u32 q.s.sq, .int .u32 q.s.ak, .int .u8 q.s.fl, .int .u16 q.s.wn, .int .u16 q.s.ug, .slice b3.AO b3.nO b3.cO, .slice b3.AD b3.nD b3.cD, .int .u16 q.u.sp, .int .u16 q.u.dp, .slice b3.AU b3.nU b3.cU, .int .u8 q.m.ty, .int .u8 q.m.cd, .int .u32 q.m.rs, .slice b3.AM b3.nM b3.cM] 35) = v := ⟨_, rfl⟩
  have hb4 : Below w3.heap.size w3 w4 := by rw [← ew4]; exact (Below.refl _ _).alloc (Nat.le_refl _) _
  have HK4 := Lib.hid (show w4.heap[w3.heap.size]? = some (.cells #[.int .u8 q.h.to, .int .u16 q.h.id, .bool q.h.df, .int .u8 q.h.tt, .int .u8 q.h.pr, .int .u32 q.h.sr, .int .u32 q.h.ds, .slice b3.AH b3.nH b3.cH, .int .u16 q.s.sp, .int .u16 q.s.dp, .int .u32 q.s.sq, .int .u32 q.s.ak, .int .u8 q.s.fl, .int .u16 q.s.wn, .int .u16 q.s.ug, .slice b3.AO b3.nO b3.cO, .slice b3.AD b3.nD b3.cD, .int .u16 q.u.sp, .int .u16 q.u.dp, .slice b3.AU b3.nU b3.cU, .int .u8 q.m.ty, .int .u8 q.m.cd, .int .u32 q.m.rs, .slice b3.AM b3.nM b3.cM] 35 (0, 0)) by rw [← ew4]; exact heap_alloc_new w3 _)
  have HP4 := Lib.hid (hp3.below hb4)
  have HB4 := Lib.hid (below_trans HB2.out (below_trans hb3 hb4))
  have Hn3 := Lib.hid hn3
  have Hs4 := Lib.hid (show w4.heap.size = w3.heap.size + 1 by rw [← ew4]; simp)
  have Ew4 := Lib.hid ew4
  clear ew4 hb4 hp3 hb3 hn3 HB2 Hr1 Hc1
  go_upto_region 3 with (refine wp_store_new 35 (.tmp 3) (.tmp 16) rfl rfl w3 _ _ rfl rfl (by kernel_rfl) rfl (by simp [Value.oneCell']) ?_)
  rw [Ew4.out]
  clear Ew4
  go_wp2_with fail
  refine (syn_any _).mono ?_
  rw [Eq.out]
  rintro e w5 ⟨b5, rfl, hp5, hn5, hof5, hb5⟩
  have hk5 := blk_on HK4.out hb5
  obtain ⟨w6, ew6⟩ : ∃ v, w5.alloc (.cells #[.int .u8 q.h.to, .int .u16 q.h.id, .bool q.h.df, .int .u8 q.h.tt, .int .u8 q.h.pr, .int .u32 q.h.sr, .int .u32 q.h.ds, .slice b5.AH b5.nH b5.cH, .int .u16 q.s.sp, .int .u16 q.s.dp, .int .u32 q.s.sq, .int .u32 q.s.ak, .int .u8 q.s.fl, .int .u16 q.s.wn, .int .u16 q.s.ug, .slice b5.AO b5.nO b5.cO, .slice b5.AD b5.nD b5.cD, .int .u16 q.u.sp, .int .u16 q.u.dp, .slice b5.AU b5.nU b5.cU, .int .u8 q.m.ty, .int .u8 q.m.cd, .int .u32 q.m.rs, .slice b5.AM b5.nM b5.cM] 35) = v := ⟨_, rfl⟩
  have hb6 : Below w5.heap.size w5 w6 := by rw [← ew6]; exact (Below.refl _ _).alloc (Nat.le_refl _) _
  have hk6 : w6.heap[w5.heap.size]? = some (.cells #[.int .u8 q.h.to, .int .u16 q.h.id, .bool q.h.df, .int .u8 q.h.tt, .int .u8 q.h.pr, .int .u32 q.h.sr, .int .u32 q.h.ds, .slice b5.AH b5.nH b5.cH, .int .u16 q.s.sp, .int .u16 q.s.dp, .int .u32 q.s.sq, .int .u32 q.s.ak, .int .u8 q.s.fl, .int .u16 q.s.wn, .int .u16 q.s.ug, .slice b5.AO b5.nO b5.cO, .slice b5.AD b5.nD b5.cD, .int .u16 q.u.sp, .int .u16 q.u.dp, .slice b5.AU b5.nU b5.cU, .int .u8 q.m.ty, .int .u8 q.m.cd, .int .u32 q.m.rs, .slice b5.AM b5.nM b5.cM] 35 (0, 0)) := by rw [← ew6]; exact heap_alloc_new w5 _
  have hp6 := hp5.below hb6
  have h34 : w3.heap.size < w5.heap.size := by have := Hs4.out; have := hb5.size; omega
  have hk7 := setCell_block (i := 4) hk6 (.int .u8 17)
  simp only [Array.set!, List.setIfInBounds_toArray, List.set_cons_succ, List.set_cons_zero] at hk7
  have hbut : But (fun k => k = w5.heap.size) w6 (w6.setCell ⟨w5.heap.size, 4, none⟩ (.int .u8 17)) := (But.refl (fun k => k = w5.heap.size) w6).setCell (p := ⟨w5.heap.size, 4, none⟩) rfl _
  have HP7 := Lib.hid ((hp5.off).sub (S' := fun k => k = w5.heap.size) (fun g hg => by omega))
  have HP8 := Lib.hid (hp6.but hbut HP7.out)
  have HK8 := Lib.hid hk7
  have HK9 := Lib.hid (hbut.blk (blk_on hk5 hb6) (by omega))
  have HP9 := Lib.hid (((HP4.out.below hb5).below hb6).but hbut ((HP4.out.off).sub (fun g hg => by have := Hs4.out; omega)))
  have HB8 := Lib.hid (((below_trans HB4.out hb5).trans (hb6.mono (below_trans HB4.out hb5).size)).setCell (p := ⟨w5.heap.size, 4, none⟩) (show w.heap.size ≤ w5.heap.size from (below_trans HB4.out hb5).size) (.int .u8 17))
  have Hn5 := Lib.hid hn5
  have f4 := late_free hk6 4
  have c4 := (cells24 hk6).2.2.2.2.1
  have Ew6 := Lib.hid ew6
  clear ew6 hb5 hb6 hk5 hk6 hp5 hp6 hk7 hbut hn5 hof5 HP4 HB4 HK4 HP7 h34
  go_upto_region 4 with (refine wp_store_new 35 (.tmp 5) (.tmp 18) rfl rfl w5 _ _ rfl rfl (by kernel_rfl) rfl (by simp [Value.oneCell']) ?_)
  rw [Ew6.out]
  clear Ew6
  go_upto_region 5 with (fail)
  clear f4 c4
  obtain ⟨w8, ew8⟩ : ∃ v, w6.setCell ⟨w5.heap.size, 4, none⟩ (.int .u8 17) = v := ⟨_, rfl⟩
  rw [ew8] at HP8 HK8 HK9 HP9 HB8 ⊢
  clear ew8
  try simp only []
  repeat (first | (refine wp_load_row 35 (.tmp 5) rfl w5.heap.size _ _ _ _ HK8.out rfl Try.underlying35 rfl (by kernel_rfl) ?_; simp only [Act.put, List.setIfInBounds_toArray, List.set_cons_zero, List.set_cons_succ]) | go_values | go_skip | go_guarded | go_step | go_upon | go_back)
  refine (odd_put q b5 _ Eq.out HP8.out Hn5.out).mono ?_
  rintro e w9 ⟨A9, c9, rfl, -, -, hb9⟩
  have HK10 := Lib.hid (blk_on HK9.out hb9)
  have HP10 := Lib.hid (HP9.out.below hb9)
  have HB10 := Lib.hid (below_trans HB8.out hb9)
  clear hb9 HK9 HP9 HB8 HK8 HP8
  go_upto_region 6 with (fail)
  have hdp := Hdp.out
  have Cell9 := Lib.hid (show ∀ (W : World), W.heap[w3.heap.size]? = some (.cells #[.int .u8 q.h.to, .int .u16 q.h.id, .bool q.h.df, .int .u8 q.h.tt, .int .u8 q.h.pr, .int .u32 q.h.sr, .int .u32 q.h.ds, .slice b3.AH b3.nH b3.cH, .int .u16 q.s.sp, .int .u16 q.s.dp, .int .u32 q.s.sq, .int .u32 q.s.ak, .int .u8 q.s.fl, .int .u16 q.s.wn, .int .u16 q.s.ug, .slice b3.AO b3.nO b3.cO, .slice b3.AD b3.nD b3.cD, .int .u16 q.u.sp, .int .u16 q.u.dp, .slice b3.AU b3.nU b3.cU, .int .u8 q.m.ty, .int .u8 q.m.cd, .int .u32 q.m.rs, .slice b3.AM b3.nM b3.cM] 35 (0, 0)) → W.cell? ⟨w3.heap.size, 9, none⟩ = some (.int .u16 q.s.dp) from fun W h => (cells24 h).2.2.2.2.2.2.2.2.2.1)
  have HBd := Lib.hid (Below.drew (Below.refl w9.heap.size w9))
  have HKd := Lib.hid (show ∀ w', Below w9.heap.size w9 w' → w'.heap[w3.heap.size]? = some (.cells #[.int .u8 q.h.to, .int .u16 q.h.id, .bool q.h.df, .int .u8 q.h.tt, .int .u8 q.h.pr, .int .u32 q.h.sr, .int .u32 q.h.ds, .slice b3.AH b3.nH b3.cH, .int .u16 q.s.sp, .int .u16 q.s.dp, .int .u32 q.s.sq, .int .u32 q.s.ak, .int .u8 q.s.fl, .int .u16 q.s.wn, .int .u16 q.s.ug, .slice b3.AO b3.nO b3.cO, .slice b3.AD b3.nD b3.cD, .int .u16 q.u.sp, .int .u16 q.u.dp, .slice b3.AU b3.nU b3.cU, .int .u8 q.m.ty, .int .u8 q.m.cd, .int .u32 q.m.rs, .slice b3.AM b3.nM b3.cM] 35 (0, 0)) ∧ PkRd w' q b3 from fun w' hb => ⟨blk_on HK10.out hb, HP10.out.below hb⟩)
  refine wp_region_held_drew (S := fun w' => w'.heap[w3.heap.size]? = some (.cells #[.int .u8 q.h.to, .int .u16 q.h.id, .bool q.h.df, .int .u8 q.h.tt, .int .u8 q.h.pr, .int .u32 q.h.sr, .int .u32 q.h.ds, .slice b3.AH b3.nH b3.cH, .int .u16 q.s.sp, .int .u16 q.s.dp, .int .u32 q.s.sq, .int .u32 q.s.ak, .int .u8 q.s.fl, .int .u16 q.s.wn, .int .u16 q.s.ug, .slice b3.AO b3.nO b3.cO, .slice b3.AD b3.nD b3.cD, .int .u16 q.u.sp, .int .u16 q.u.dp, .slice b3.AU b3.nU b3.cU, .int .u8 q.m.ty, .int .u8 q.m.cd, .int .u32 q.m.rs, .slice b3.AM b3.nM b3.cM] 35 (0, 0)) ∧ w'.cell? ⟨w3.heap.size, 9, none⟩ = some (.int .u16 q.s.dp)) (by kernel_rfl) (⟨(HKd.out _ HBd.out).1, Cell9.out _ (HKd.out _ HBd.out).1⟩) (fun hHeld => ?_)
  obtain ⟨wd, ewd⟩ : ∃ wd, w9.drew = wd := ⟨_, rfl⟩
  rw [ewd] at HBd hHeld ⊢
  clear ewd
  refine wpAnyH_take (i := 0) (oi := { dst := some 26, op := Go.Op.move (Go.Operand.tmp 2), type := 37, pos := "law.go:24", after := #[], guard := none }) (v := ?_) rfl (by kernel_rfl) (by kernel_rfl) (by kernel_rfl) (fun _ _ _ h => h) (Or.inl ⟨by rfl, ?_⟩) (by assumption) ?_
  rotate_left 1
  · intro w' hSw; (go_simp <;> (with_reducible rfl))
  (try simp only [Act.put, List.setIfInBounds_toArray, List.set_cons_zero, List.set_cons_succ])
  refine wpAnyH_take (i := 1) (oi := { dst := some 27, op := Go.Op.binOp Go.BinOp.eql 37 (Go.Operand.tmp 26) (Go.Operand.const (Go.Value.int Go.IntKind.i64 0)) 37, type := 4, pos := "law.go:24", after := #[{ on := 0, ground := Go.Ground.data }], guard := none }) (v := ?_) rfl (by kernel_rfl) (by kernel_rfl) (by kernel_rfl) (fun _ _ _ h => h) (Or.inl ⟨by rfl, ?_⟩) (by assumption) ?_
  rotate_left 1
  · intro w' hSw; (go_simp <;> (with_reducible rfl))
  (try simp only [Act.put, List.setIfInBounds_toArray, List.set_cons_zero, List.set_cons_succ])
  refine wpAnyH_take (i := 2) (oi := { dst := some 28, op := Go.Op.move (Go.Operand.tmp 27), type := 4, pos := "law.go:24", after := #[{ on := 1, ground := Go.Ground.data }], guard := none }) (v := ?_) rfl (by kernel_rfl) (by kernel_rfl) (by kernel_rfl) (fun _ _ _ h => h) (Or.inl ⟨by rfl, ?_⟩) (by assumption) ?_
  rotate_left 1
  · intro w' hSw; (go_simp <;> (with_reducible rfl))
  (try simp only [Act.put, List.setIfInBounds_toArray, List.set_cons_zero, List.set_cons_succ])
  refine wpAnyH_take (i := 3) (oi := { dst := some 29, op := Go.Op.move (Go.Operand.tmp 4), type := 37, pos := "law.go:24", after := #[{ on := 2, ground := Go.Ground.guard }], guard := some (2, true) }) (v := ?_) rfl (by kernel_rfl) (by kernel_rfl) (by kernel_rfl) (fun _ _ _ h => h) (Or.inl ⟨by rfl, ?_⟩) (by assumption) ?_
  rotate_left 1
  · intro w' hSw; (go_simp <;> (with_reducible rfl))
  (try simp only [Act.put, List.setIfInBounds_toArray, List.set_cons_zero, List.set_cons_succ])
  refine wpAnyH_take (i := 4) (oi := { dst := some 30, op := Go.Op.binOp Go.BinOp.eql 37 (Go.Operand.tmp 29) (Go.Operand.const (Go.Value.int Go.IntKind.i64 0)) 37, type := 4, pos := "law.go:24", after := #[{ on := 3, ground := Go.Ground.data }, { on := 2, ground := Go.Ground.guard }], guard := some (2, true) }) (v := ?_) rfl (by kernel_rfl) (by kernel_rfl) (by kernel_rfl) (fun _ _ _ h => h) (Or.inl ⟨by rfl, ?_⟩) (by assumption) ?_
  rotate_left 1
  · intro w' hSw; (go_simp <;> (with_reducible rfl))
  (try simp only [Act.put, List.setIfInBounds_toArray, List.set_cons_zero, List.set_cons_succ])
  refine wpAnyH_take (i := 5) (oi := { dst := some 31, op := Go.Op.pick (Go.Operand.tmp 28) (Go.Operand.tmp 30) (Go.Operand.const (Go.Value.bool false)), type := 4, pos := "law.go:24", after := #[{ on := 2, ground := Go.Ground.data }, { on := 4, ground := Go.Ground.data }], guard := none }) (v := ?_) rfl (by kernel_rfl) (by kernel_rfl) (by kernel_rfl) (fun _ _ _ h => h) (Or.inl ⟨by rfl, ?_⟩) (by assumption) ?_
  rotate_left 1
  · intro w' hSw; (go_simp <;> (with_reducible rfl))
  (try simp only [Act.put, List.setIfInBounds_toArray, List.set_cons_zero, List.set_cons_succ])
  refine wpAnyH_take (i := 6) (oi := { dst := some 32, op := Go.Op.move (Go.Operand.tmp 31), type := 4, pos := "law.go:24", after := #[{ on := 5, ground := Go.Ground.data }, { on := 2, ground := Go.Ground.chain }], guard := none }) (v := ?_) rfl (by kernel_rfl) (by kernel_rfl) (by kernel_rfl) (fun _ _ _ h => h) (Or.inl ⟨by rfl, ?_⟩) (by assumption) ?_
  rotate_left 1
  · intro w' hSw; (go_simp <;> (with_reducible rfl))
  (try simp only [Act.put, List.setIfInBounds_toArray, List.set_cons_zero, List.set_cons_succ])
  refine wpAnyH_take (i := 7) (oi := { dst := some 33, op := Go.Op.load 35 (Go.Operand.tmp 3), type := 35, pos := "law.go:24", after := #[{ on := 6, ground := Go.Ground.guard }], guard := some (6, true) }) (v := .agg #[.int .u8 q.h.to, .int .u16 q.h.id, .bool q.h.df, .int .u8 q.h.tt, .int .u8 q.h.pr, .int .u32 q.h.sr, .int .u32 q.h.ds, .slice b3.AH b3.nH b3.cH, .int .u16 q.s.sp, .int .u16 q.s.dp, .int .u32 q.s.sq, .int .u32 q.s.ak, .int .u8 q.s.fl, .int .u16 q.s.wn, .int .u16 q.s.ug, .slice b3.AO b3.nO b3.cO, .slice b3.AD b3.nD b3.cD, .int .u16 q.u.sp, .int .u16 q.u.dp, .slice b3.AU b3.nU b3.cU, .int .u8 q.m.ty, .int .u8 q.m.cd, .int .u32 q.m.rs, .slice b3.AM b3.nM b3.cM]) rfl (by kernel_rfl) (by kernel_rfl) (by kernel_rfl) (fun _ _ _ h => h) (Or.inl ⟨by rfl, fun w' hSw => exec_row 35 (.tmp 3) rfl w3.heap.size _ _ _ _ hSw.1 rfl Try.underlying35 rfl (by kernel_rfl)⟩) (by assumption) ?_
  (try simp only [Act.put, List.setIfInBounds_toArray, List.set_cons_zero, List.set_cons_succ])
  refine wpAnyH_ready (rs := [8]) (by kernel_rfl) (by simp) ?_
  refine AllReadyH.cons (o := { dst := some 34, op := Go.Op.call { callee := Go.Callee.value (Go.Operand.func 16), args := #[], argTypes := #[] }, type := 35, pos := "law.go:24", after := #[{ on := 6, ground := Go.Ground.chain }, { on := 6, ground := Go.Ground.guard }], guard := some (6, true) }) rfl (fun K hK => ?_) AllReadyH.nil
  go_simp
  (refine (syn_any _).mono ?_; rw [Eq.out]; rintro e w11 ⟨b11, rfl, hp11, -, -, hb11⟩; have Hp11 := Lib.hid hp11; have HB11 := Lib.hid (below_trans HBd.out hb11); clear hp11 hb11)
  refine hK.out _ _ ?_ (fun hHeld => ?_)
  · exact ⟨(HKd.out _ HB11.out).1, Cell9.out _ (HKd.out _ HB11.out).1⟩
  clear hK K
  (try simp only [Act.put, List.setIfInBounds_toArray, List.set_cons_zero, List.set_cons_succ])
  refine wpAnyH_ready (rs := [9]) (by kernel_rfl) (by simp) ?_
  refine AllReadyH.cons (o := { dst := some 35, op := Go.Op.call { callee := Go.Callee.value (Go.Operand.func 17), args := #[Go.Operand.tmp 33, Go.Operand.tmp 34], argTypes := #[35, 35] }, type := 4, pos := "law.go:24", after := #[{ on := 7, ground := Go.Ground.data }, { on := 8, ground := Go.Ground.data }, { on := 8, ground := Go.Ground.chain }, { on := 6, ground := Go.Ground.guard }], guard := some (6, true) }) rfl (fun K hK => ?_) AllReadyH.nil
  go_simp
  (refine (same9_any q q b3 b11 _ true (HKd.out _ HB11.out).2 Hp11.out (by have := Hn3.out; omega) (pkSame_self q)).mono ?_; rintro e w12 ⟨rfl, hb12⟩; have HB12 := Lib.hid (below_trans HB11.out hb12); clear hb12)
  refine hK.out _ _ ?_ (fun hHeld => ?_)
  · exact ⟨(HKd.out _ HB12.out).1, Cell9.out _ (HKd.out _ HB12.out).1⟩
  clear hK K
  (try simp only [Act.put, List.setIfInBounds_toArray, List.set_cons_zero, List.set_cons_succ])
  refine wpAnyH_take (i := 10) (oi := { dst := some 36, op := Go.Op.pick (Go.Operand.tmp 32) (Go.Operand.tmp 35) (Go.Operand.const (Go.Value.bool false)), type := 4, pos := "law.go:24", after := #[{ on := 6, ground := Go.Ground.data }, { on := 9, ground := Go.Ground.data }], guard := none }) (v := ?_) rfl (by kernel_rfl) (by kernel_rfl) (by kernel_rfl) (fun _ _ _ h => h) (Or.inl ⟨by rfl, ?_⟩) (by assumption) ?_
  rotate_left 1
  · intro w' hSw; (go_simp <;> (with_reducible rfl))
  (try simp only [Act.put, List.setIfInBounds_toArray, List.set_cons_zero, List.set_cons_succ])
  refine wpAnyH_take (i := 11) (oi := { dst := some 37, op := Go.Op.move (Go.Operand.tmp 36), type := 4, pos := "law.go:24", after := #[{ on := 10, ground := Go.Ground.data }, { on := 9, ground := Go.Ground.chain }], guard := none }) (v := ?_) rfl (by kernel_rfl) (by kernel_rfl) (by kernel_rfl) (fun _ _ _ h => h) (Or.inl ⟨by rfl, ?_⟩) (by assumption) ?_
  rotate_left 1
  · intro w' hSw; (go_simp <;> (with_reducible rfl))
  (try simp only [Act.put, List.setIfInBounds_toArray, List.set_cons_zero, List.set_cons_succ])
  refine wpAnyH_take (i := 12) (oi := { dst := some 38, op := Go.Op.move (Go.Operand.tmp 1), type := 24, pos := "law.go:24", after := #[{ on := 11, ground := Go.Ground.guard }], guard := some (11, true) }) (v := ?_) rfl (by kernel_rfl) (by kernel_rfl) (by kernel_rfl) (fun _ _ _ h => h) (Or.inl ⟨by rfl, ?_⟩) (by assumption) ?_
  rotate_left 1
  · intro w' hSw; (go_simp <;> (with_reducible rfl))
  (try simp only [Act.put, List.setIfInBounds_toArray, List.set_cons_zero, List.set_cons_succ])
  refine wpAnyH_take (i := 13) (oi := { dst := some 39, op := Go.Op.call { callee := Go.Callee.builtin Go.Builtin.len, args := #[Go.Operand.tmp 38], argTypes := #[24] }, type := 3, pos := "law.go:24", after := #[{ on := 12, ground := Go.Ground.data }, { on := 11, ground := Go.Ground.guard }], guard := some (11, true) }) (v := ?_) rfl (by kernel_rfl) (by kernel_rfl) (by kernel_rfl) (fun _ _ _ h => h) (Or.inl ⟨by rfl, ?_⟩) (by assumption) ?_
  rotate_left 1
  · intro w' hSw; (go_simp <;> (with_reducible rfl))
  (try simp only [Act.put, List.setIfInBounds_toArray, List.set_cons_zero, List.set_cons_succ])
  refine wpAnyH_take (i := 14) (oi := { dst := some 40, op := Go.Op.binOp Go.BinOp.eql 3 (Go.Operand.tmp 39) (Go.Operand.const (Go.Value.int Go.IntKind.i64 40)) 3, type := 4, pos := "law.go:24", after := #[{ on := 13, ground := Go.Ground.data }, { on := 11, ground := Go.Ground.guard }], guard := some (11, true) }) (v := ?_) rfl (by kernel_rfl) (by kernel_rfl) (by kernel_rfl) (fun _ _ _ h => h) (Or.inl ⟨by rfl, ?_⟩) (by assumption) ?_
  rotate_left 1
  · intro w' hSw; (go_simp <;> (with_reducible rfl))
  (try simp only [Act.put, List.setIfInBounds_toArray, List.set_cons_zero, List.set_cons_succ])
  refine wpAnyH_take (i := 15) (oi := { dst := some 41, op := Go.Op.pick (Go.Operand.tmp 37) (Go.Operand.tmp 40) (Go.Operand.const (Go.Value.bool false)), type := 4, pos := "law.go:24", after := #[{ on := 11, ground := Go.Ground.data }, { on := 14, ground := Go.Ground.data }], guard := none }) (v := ?_) rfl (by kernel_rfl) (by kernel_rfl) (by kernel_rfl) (fun _ _ _ h => h) (Or.inl ⟨by rfl, ?_⟩) (by assumption) ?_
  rotate_left 1
  · intro w' hSw; (go_simp <;> (with_reducible rfl))
  (try simp only [Act.put, List.setIfInBounds_toArray, List.set_cons_zero, List.set_cons_succ])
  refine wpAnyH_take (i := 16) (oi := { dst := some 42, op := Go.Op.move (Go.Operand.tmp 41), type := 4, pos := "law.go:24", after := #[{ on := 15, ground := Go.Ground.data }, { on := 11, ground := Go.Ground.chain }], guard := none }) (v := ?_) rfl (by kernel_rfl) (by kernel_rfl) (by kernel_rfl) (fun _ _ _ h => h) (Or.inl ⟨by rfl, ?_⟩) (by assumption) ?_
  rotate_left 1
  · intro w' hSw; (go_simp <;> (with_reducible rfl))
  (try simp only [Act.put, List.setIfInBounds_toArray, List.set_cons_zero, List.set_cons_succ])
  refine wpAnyH_take (i := 17) (oi := { dst := some 43, op := Go.Op.fieldAddr 35 (Go.Operand.tmp 3) 1, type := 0, pos := "law.go:24", after := #[{ on := 16, ground := Go.Ground.guard }], guard := some (16, true) }) (v := ?_) rfl (by kernel_rfl) (by kernel_rfl) (by kernel_rfl) (fun _ _ _ h => h) (Or.inl ⟨by rfl, ?_⟩) (by assumption) ?_
  rotate_left 1
  · intro w' hSw; (go_simp <;> (with_reducible rfl))
  (try simp only [Act.put, List.setIfInBounds_toArray, List.set_cons_zero, List.set_cons_succ])
  refine wpAnyH_take (i := 18) (oi := { dst := some 44, op := Go.Op.fieldAddr 29 (Go.Operand.tmp 43) 1, type := 0, pos := "law.go:24", after := #[{ on := 17, ground := Go.Ground.data }, { on := 16, ground := Go.Ground.guard }], guard := some (16, true) }) (v := ?_) rfl (by kernel_rfl) (by kernel_rfl) (by kernel_rfl) (fun _ _ _ h => h) (Or.inl ⟨by rfl, ?_⟩) (by assumption) ?_
  rotate_left 1
  · intro w' hSw; (go_simp <;> (with_reducible rfl))
  (try simp only [Act.put, List.setIfInBounds_toArray, List.set_cons_zero, List.set_cons_succ])
  refine wpAnyH_take (i := 19) (oi := { dst := some 45, op := Go.Op.load 22 (Go.Operand.tmp 44), type := 22, pos := "law.go:24", after := #[{ on := 18, ground := Go.Ground.data }, { on := 16, ground := Go.Ground.guard }], guard := some (16, true) }) (v := ?_) rfl (by kernel_rfl) (by kernel_rfl) (by kernel_rfl) (fun _ _ _ h => h) (Or.inl ⟨by rfl, ?_⟩) (by assumption) ?_
  rotate_left 1
  · intro w' hSw; (go_simp <;> (with_reducible rfl))
  (try simp only [Act.put, List.setIfInBounds_toArray, List.set_cons_zero, List.set_cons_succ])
  refine wpAnyH_take (i := 20) (oi := { dst := some 46, op := Go.Op.binOp Go.BinOp.eql 22 (Go.Operand.tmp 45) (Go.Operand.const (Go.Value.int Go.IntKind.u16 4)) 22, type := 4, pos := "law.go:24", after := #[{ on := 19, ground := Go.Ground.data }, { on := 16, ground := Go.Ground.guard }], guard := some (16, true) }) (v := ?_) rfl (by kernel_rfl) (by kernel_rfl) (by kernel_rfl) (fun _ _ _ h => h) (Or.inl ⟨by rfl, ?_⟩) (by assumption) ?_
  rotate_left 1
  · intro w' hSw; (go_simp <;> (with_reducible rfl))
  (try simp only [Act.put, List.setIfInBounds_toArray, List.set_cons_zero, List.set_cons_succ])
  refine wpAnyH_take (i := 21) (oi := { dst := some 47, op := Go.Op.pick (Go.Operand.tmp 42) (Go.Operand.tmp 46) (Go.Operand.const (Go.Value.bool false)), type := 4, pos := "law.go:24", after := #[{ on := 16, ground := Go.Ground.data }, { on := 20, ground := Go.Ground.data }], guard := none }) (v := ?_) rfl (by kernel_rfl) (by kernel_rfl) (by kernel_rfl) (fun _ _ _ h => h) (Or.inl ⟨by rfl, ?_⟩) (by assumption) ?_
  rotate_left 1
  · intro w' hSw; (go_simp <;> (with_reducible rfl))
  (try simp only [Act.put, List.setIfInBounds_toArray, List.set_cons_zero, List.set_cons_succ])
  refine wpAnyH_take (i := 22) (oi := { dst := some 48, op := Go.Op.move (Go.Operand.tmp 47), type := 4, pos := "law.go:24", after := #[{ on := 21, ground := Go.Ground.data }, { on := 16, ground := Go.Ground.chain }], guard := none }) (v := ?_) rfl (by kernel_rfl) (by kernel_rfl) (by kernel_rfl) (fun _ _ _ h => h) (Or.inl ⟨by rfl, ?_⟩) (by assumption) ?_
  rotate_left 1
  · intro w' hSw; (go_simp <;> (with_reducible rfl))
  (try simp only [Act.put, List.setIfInBounds_toArray, List.set_cons_zero, List.set_cons_succ])
  refine wpAnyH_take (i := 23) (oi := { dst := some 49, op := Go.Op.move (Go.Operand.tmp 7), type := 37, pos := "law.go:24", after := #[{ on := 22, ground := Go.Ground.guard }], guard := some (22, true) }) (v := ?_) rfl (by kernel_rfl) (by kernel_rfl) (by kernel_rfl) (fun _ _ _ h => h) (Or.inl ⟨by rfl, ?_⟩) (by assumption) ?_
  rotate_left 1
  · intro w' hSw; (go_simp <;> (with_reducible rfl))
  (try simp only [Act.put, List.setIfInBounds_toArray, List.set_cons_zero, List.set_cons_succ])
  refine wpAnyH_take (i := 24) (oi := { dst := some 50, op := Go.Op.binOp Go.BinOp.eql 37 (Go.Operand.tmp 49) (Go.Operand.const (Go.Value.int Go.IntKind.i64 1)) 37, type := 4, pos := "law.go:24", after := #[{ on := 23, ground := Go.Ground.data }, { on := 22, ground := Go.Ground.guard }], guard := some (22, true) }) (v := ?_) rfl (by kernel_rfl) (by kernel_rfl) (by kernel_rfl) (fun _ _ _ h => h) (Or.inl ⟨by rfl, ?_⟩) (by assumption) ?_
  rotate_left 1
  · intro w' hSw; (go_simp <;> (with_reducible rfl))
  (try simp only [Act.put, List.setIfInBounds_toArray, List.set_cons_zero, List.set_cons_succ])
  refine wpAnyH_take (i := 25) (oi := { dst := some 51, op := Go.Op.pick (Go.Operand.tmp 48) (Go.Operand.tmp 50) (Go.Operand.const (Go.Value.bool false)), type := 4, pos := "law.go:24", after := #[{ on := 22, ground := Go.Ground.data }, { on := 24, ground := Go.Ground.data }], guard := none }) (v := ?_) rfl (by kernel_rfl) (by kernel_rfl) (by kernel_rfl) (fun _ _ _ h => h) (Or.inl ⟨by rfl, ?_⟩) (by assumption) ?_
  rotate_left 1
  · intro w' hSw; (go_simp <;> (with_reducible rfl))
  (try simp only [Act.put, List.setIfInBounds_toArray, List.set_cons_zero, List.set_cons_succ])
  refine wpAnyH_take (i := 26) (oi := { dst := some 0, op := Go.Op.assign (Go.Operand.tmp 51), type := 4, pos := "law.go:24", after := #[{ on := 25, ground := Go.Ground.data }, { on := 22, ground := Go.Ground.chain }, { on := 0, ground := Go.Ground.phase }, { on := 1, ground := Go.Ground.phase }, { on := 2, ground := Go.Ground.phase }, { on := 3, ground := Go.Ground.phase }, { on := 4, ground := Go.Ground.phase }, { on := 5, ground := Go.Ground.phase }, { on := 6, ground := Go.Ground.phase }, { on := 7, ground := Go.Ground.phase }, { on := 8, ground := Go.Ground.phase }, { on := 9, ground := Go.Ground.phase }, { on := 10, ground := Go.Ground.phase }, { on := 11, ground := Go.Ground.phase }, { on := 12, ground := Go.Ground.phase }, { on := 13, ground := Go.Ground.phase }, { on := 14, ground := Go.Ground.phase }, { on := 15, ground := Go.Ground.phase }, { on := 16, ground := Go.Ground.phase }, { on := 17, ground := Go.Ground.phase }, { on := 18, ground := Go.Ground.phase }, { on := 19, ground := Go.Ground.phase }, { on := 20, ground := Go.Ground.phase }, { on := 21, ground := Go.Ground.phase }, { on := 22, ground := Go.Ground.phase }, { on := 23, ground := Go.Ground.phase }, { on := 24, ground := Go.Ground.phase }, { on := 25, ground := Go.Ground.phase }], guard := none }) (v := ?_) rfl (by kernel_rfl) (by kernel_rfl) (by kernel_rfl) (fun _ _ _ h => h) (Or.inl ⟨by rfl, ?_⟩) (by assumption) ?_
  rotate_left 1
  · intro w' hSw; (go_simp <;> (with_reducible rfl))
  (try simp only [Act.put, List.setIfInBounds_toArray, List.set_cons_zero, List.set_cons_succ])
  refine wpAnyH_done (by kernel_rfl) ?_ _
  clear hHeld
  have HB12 := Lib.hid (below_trans HB10.out HB12.out)
  go_wp2_with fail
  go_ret
  exact ⟨rfl, HB12.out⟩
end Go.Proofs.Ytkooehejdfaekaa
