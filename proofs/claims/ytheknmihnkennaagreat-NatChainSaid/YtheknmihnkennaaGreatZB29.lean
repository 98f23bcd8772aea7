/-
  Package packet's Parse: what is no packet is told by the first fault; else the packet, in rows of the call's own.
-/
import Derived.Test.YtheknmihnkennaaGreatZB01
import Derived.Test.YtheknmihnkennaaGreatZB26
import Derived.Test.YtheknmihnkennaaGreatZB28
import Derived.Test.YtheknmihnkennaaGreatZB17
namespace Go.Proofs.YtheknmihnkennaaGreat
set_option maxRecDepth 10000
open Go.RowKit
set_option linter.unusedSimpArgs false
set_option linter.unusedVariables false

def hdOf (b : List Int) : Hd := ⟨b.getD 1 0, b.getD 4 0 * 256 + b.getD 5 0, decide (flagsL b = 16384), b.getD 8 0, b.getD 9 0, ((b.getD 12 0 * 256 + b.getD 13 0) * 256 + b.getD 14 0) * 256 + b.getD 15 0, ((b.getD 16 0 * 256 + b.getD 17 0) * 256 + b.getD 18 0) * 256 + b.getD 19 0, (b.drop 20).take ((hdrL b).toNat - 20)⟩
def restOf (b : List Int) : List Int := b.drop (hdrL b).toNat
theorem hdOf_num {b : List Int} (h : ∀ x ∈ b, 0 ≤ x ∧ x < 256) : HdNum (hdOf b) := by
  have g := fun i => getD_mem b h i
  have := g 1; have := g 4; have := g 5; have := g 8; have := g 9; have := g 12; have := g 13; have := g 14; have := g 15; have := g 16; have := g 17; have := g 18; have := g 19
  exact ⟨by simp only [hdOf]; omega, by simp only [hdOf]; omega, by simp only [hdOf]; omega, by simp only [hdOf]; omega, by simp only [hdOf]; omega, by simp only [hdOf]; omega⟩
/-- What ipv4.Parse tells of a right head. -/
def HeadGot (H : Hd) (P : List Int) (nH nP : Nat) (w : World) (e : Ending) (w' : World) : Prop :=
  ∃ AH cH AP cP, e = .returned (.tuple #[.agg #[.int .u8 H.to, .int .u16 H.id, .bool H.df, .int .u8 H.tt, .int .u8 H.pr, .int .u32 H.sr, .int .u32 H.ds, .slice AH nH cH], .slice AP nP cP, .int .i64 0]) ∧
    OwnB w' w.heap.size AH nH cH H.o ∧ OwnB w' w.heap.size AP nP cP P ∧ Below w.heap.size w w'
theorem ipparse_got (A : Option Addr) (n c nH nP : Nat) (b P : List Int) (H : Hd) (w : World) (hc : n ≤ c ∧ c ≤ maxLen) (hn : n ≤ 140737488355328) (hA : Rd w A n b) (hx : errIp b = 0) (hH : hdOf b = H) (hP : restOf b = P) (h1 : H.o.length = nH) (h2 : P.length = nP) :
    Calls Tryz.prog 15 #[.slice A n c] w (HeadGot H P nH nP w) := by
  refine (parse_good A n c b w hc hn hA hx).mono ?_
  rintro e w' ⟨Ao, no, co, Ap, np, cp, rfl, ho, hp, hb⟩
  have e1 : no = nH := by
    rw [← h1, ← hH]
    have := congrArg List.length (rfl : (hdOf b).o = (b.drop 20).take ((hdrL b).toNat - 20))
    have h := ho.len
    rw [← h]
    rfl
  have e2 : np = nP := by rw [← h2, ← hP]; exact hp.len.symm
  subst e1; subst e2; subst hH; subst hP
  exact ⟨Ao, co, Ap, cp, rfl, ho, hp, hb⟩

def PkBad (x : Int) (w : World) (e : Ending) (w' : World) : Prop := e = .returned (.tuple #[.agg #[.int .u8 0, .int .u16 0, .bool false, .int .u8 0, .int .u8 0, .int .u32 0, .int .u32 0, .slice none 0 0, .int .u16 0, .int .u16 0, .int .u32 0, .int .u32 0, .int .u8 0, .int .u16 0, .int .u16 0, .slice none 0 0, .slice none 0 0, .int .u16 0, .int .u16 0, .slice none 0 0, .int .u8 0, .int .u8 0, .int .u32 0, .slice none 0 0], .int .i64 x]) ∧ Below w.heap.size w w'
set_option maxHeartbeats 2000000 in
theorem parse9_head (A : Option Addr) (n c : Nat) (b : List Int) (x : Int) (w : World) (hc : n ≤ c ∧ c ≤ maxLen) (hn : n ≤ 140737488355328) (hA : Rd w A n b) (hx : errIp b = x) (h0 : x ≠ 0) :
    Calls Tryz.prog 6 #[.slice A n c] w (PkBad x w) := by
  have h0b : (x != 0) = true := by simpa using h0
  have Hx := Lib.hid hx
  have H0 := Lib.hid h0
  clear hx h0
  obtain ⟨z, hz⟩ : ∃ z, w.heap.size = z := ⟨_, rfl⟩
  obtain ⟨w0, ew⟩ : ∃ w0, w.alloc (.cells #[.int .u8 0, .int .u16 0, .bool false, .int .u8 0, .int .u8 0, .int .u32 0, .int .u32 0, .slice none 0 0, .int .u16 0, .int .u16 0, .int .u32 0, .int .u32 0, .int .u8 0, .int .u16 0, .int .u16 0, .slice none 0 0, .slice none 0 0, .int .u16 0, .int .u16 0, .slice none 0 0, .int .u8 0, .int .u8 0, .int .u32 0, .slice none 0 0] 35) = w0 := ⟨_, rfl⟩
  have hb0 : Below w.heap.size w w0 := by rw [← ew]; exact (Below.refl _ _).alloc (Nat.le_refl _) _
  have hk0 : w0.heap[z]? = some (.cells #[.int .u8 0, .int .u16 0, .bool false, .int .u8 0, .int .u8 0, .int .u32 0, .int .u32 0, .slice none 0 0, .int .u16 0, .int .u16 0, .int .u32 0, .int .u32 0, .int .u8 0, .int .u16 0, .int .u16 0, .slice none 0 0, .slice none 0 0, .int .u16 0, .int .u16 0, .slice none 0 0, .int .u8 0, .int .u8 0, .int .u32 0, .slice none 0 0] 35 (0, 0)) := by rw [← ew, ← hz]; exact heap_alloc_new w _
  have HA := Lib.hid (hA.below hb0)
  have HK0 := Lib.hid hk0
  have Hb0 := Lib.hid hb0
  have Ew := Lib.hid ew
  have Hz := Lib.hid hz
  have Hc := Lib.hid hc
  have Hn := Lib.hid hn
  clear hz ew hb0 hk0 hA hc hn
  go_enter Tryz.func6, Tryz.ntmps6
  go_upto_region 1 with (fail)
  rw [Ew.out]
  try rw [Hz.out]
  go_wp2_with fail
  refine (parse_bad A n c b x _ Hc.out Hn.out HA.out Hx.out H0.out).mono ?_
  rintro e w1 ⟨rfl, hb1⟩
  have hb2 := below_trans hb1 ((Below.refl w1.heap.size w1).alloc (Nat.le_refl _) (.cells #[.int .u8 0, .int .u16 0, .bool false, .int .u8 0, .int .u8 0, .int .u32 0, .int .u32 0, .slice none 0 0] 26))
  have HKE := Lib.hid (blk_on HK0.out hb2)
  have HBE := Lib.hid (below_trans Hb0.out hb2)
  clear hb1 hb2
  go_upto_region 3 with (fail)
  repeat (first | (refine wp_store_row 35 (.tmp 2) (.tmp 19) rfl z _ rfl rfl 35 _ HKE.out (by kernel_rfl) rfl (by simp [Value.oneCell']) ?_; simp only [Act.put, List.setIfInBounds_toArray, List.set_cons_zero, List.set_cons_succ]) | go_values | go_skip | go_guarded | go_step | go_upon | go_back)
  exact bodyPost_ret (results_row_tmp rfl _ _ z _ _ _ _ _ rfl rfl (setRow_heap _ _ _ _ _ _ HKE.out) Tryz.underlying35 rfl (by kernel_rfl)) rfl ⟨rfl, below_setRow HBE.out (by rw [Hz.out]; exact Nat.le_refl _) _⟩
set_option maxHeartbeats 2000000 in
theorem parse9_no (A : Option Addr) (n c nH nP : Nat) (b P : List Int) (H : Hd) (w : World) (hc : n ≤ c ∧ c ≤ maxLen) (hn : n ≤ 140737488355328) (hA : Rd w A n b) (hx : errIp b = 0) (hH : hdOf b = H) (hP : restOf b = P) (hnH : H.o.length = nH) (hnP : P.length = nP) (h6 : H.pr ≠ 6) (h17 : H.pr ≠ 17) (h1 : H.pr ≠ 1) :
    Calls Tryz.prog 6 #[.slice A n c] w (PkBad 22 w) := by
  have Hx := Lib.hid hx
  have HH := Lib.hid hH
  have HP := Lib.hid hP
  have HnH := Lib.hid hnH
  have HnP := Lib.hid hnP
  have Hk := Lib.hid (show knownP H.pr = false by simp [knownP, h6, h17, h1])
  clear hx hH hP hnH hnP h6 h17 h1
  obtain ⟨z, hz⟩ : ∃ z, w.heap.size = z := ⟨_, rfl⟩
  obtain ⟨w0, ew⟩ : ∃ w0, w.alloc (.cells #[.int .u8 0, .int .u16 0, .bool false, .int .u8 0, .int .u8 0, .int .u32 0, .int .u32 0, .slice none 0 0, .int .u16 0, .int .u16 0, .int .u32 0, .int .u32 0, .int .u8 0, .int .u16 0, .int .u16 0, .slice none 0 0, .slice none 0 0, .int .u16 0, .int .u16 0, .slice none 0 0, .int .u8 0, .int .u8 0, .int .u32 0, .slice none 0 0] 35) = w0 := ⟨_, rfl⟩
  have hb0 : Below w.heap.size w w0 := by rw [← ew]; exact (Below.refl _ _).alloc (Nat.le_refl _) _
  have hk0 : w0.heap[z]? = some (.cells #[.int .u8 0, .int .u16 0, .bool false, .int .u8 0, .int .u8 0, .int .u32 0, .int .u32 0, .slice none 0 0, .int .u16 0, .int .u16 0, .int .u32 0, .int .u32 0, .int .u8 0, .int .u16 0, .int .u16 0, .slice none 0 0, .slice none 0 0, .int .u16 0, .int .u16 0, .slice none 0 0, .int .u8 0, .int .u8 0, .int .u32 0, .slice none 0 0] 35 (0, 0)) := by rw [← ew, ← hz]; exact heap_alloc_new w _
  have HA := Lib.hid (hA.below hb0)
  have HK0 := Lib.hid hk0
  have Hb0 := Lib.hid hb0
  have Ew := Lib.hid ew
  have Hz := Lib.hid hz
  have Hc := Lib.hid hc
  have Hn := Lib.hid hn
  clear hz ew hb0 hk0 hA hc hn
  go_enter Tryz.func6, Tryz.ntmps6
  go_upto_region 1 with (fail)
  rw [Ew.out]
  try rw [Hz.out]
  go_wp2_with fail
  have Hgot := Lib.hid (ipparse_got A n c nH nP b P H w0 Hc.out Hn.out HA.out Hx.out HH.out HP.out HnH.out HnP.out)
  refine Hgot.out.mono ?_
  rintro e w1 ⟨AH, cH, AP, cP, rfl, hoh, hop, hb1⟩
  obtain ⟨w2, ew2⟩ : ∃ v, w1.alloc (.cells #[.int .u8 H.to, .int .u16 H.id, .bool H.df, .int .u8 H.tt, .int .u8 H.pr, .int .u32 H.sr, .int .u32 H.ds, .slice AH nH cH] 26) = v := ⟨_, rfl⟩
  have hb2 : Below w1.heap.size w1 w2 := by rw [← ew2]; exact (Below.refl _ _).alloc (Nat.le_refl _) _
  have hk2 : w2.heap[w1.heap.size]? = some (.cells #[.int .u8 H.to, .int .u16 H.id, .bool H.df, .int .u8 H.tt, .int .u8 H.pr, .int .u32 H.sr, .int .u32 H.ds, .slice AH nH cH] 26 (0, 0)) := by rw [← ew2]; exact heap_alloc_new w1 _
  obtain ⟨w3, ew3⟩ : ∃ v, w2.alloc (.cells #[.int .u8 H.to, .int .u16 H.id, .bool H.df, .int .u8 H.tt, .int .u8 H.pr, .int .u32 H.sr, .int .u32 H.ds, .slice AH nH cH, .int .u16 0, .int .u16 0, .int .u32 0, .int .u32 0, .int .u8 0, .int .u16 0, .int .u16 0, .slice none 0 0, .slice none 0 0, .int .u16 0, .int .u16 0, .slice none 0 0, .int .u8 0, .int .u8 0, .int .u32 0, .slice none 0 0] 35) = v := ⟨_, rfl⟩
  have hb3 : Below w2.heap.size w2 w3 := by rw [← ew3]; exact (Below.refl _ _).alloc (Nat.le_refl _) _
  have hk3 : w3.heap[w2.heap.size]? = some (.cells #[.int .u8 H.to, .int .u16 H.id, .bool H.df, .int .u8 H.tt, .int .u8 H.pr, .int .u32 H.sr, .int .u32 H.ds, .slice AH nH cH, .int .u16 0, .int .u16 0, .int .u32 0, .int .u32 0, .int .u8 0, .int .u16 0, .int .u16 0, .slice none 0 0, .slice none 0 0, .int .u16 0, .int .u16 0, .slice none 0 0, .int .u8 0, .int .u8 0, .int .u32 0, .slice none 0 0] 35 (0, 0)) := by rw [← ew3]; exact heap_alloc_new w2 _
  have hs2 : w2.heap.size = w1.heap.size + 1 := by rw [← ew2]; simp
  have hs3 : w3.heap.size = w2.heap.size + 1 := by rw [← ew3]; simp
  have Hs := Lib.hid (And.intro hs2 hs3)
  have HK2 := Lib.hid (blk_on hk2 hb3)
  have HK3 := Lib.hid hk3
  have HZ3 := Lib.hid (blk_on HK0.out (below_trans (below_trans hb1 hb2) hb3))
  have HB3 := Lib.hid (below_trans Hb0.out (below_trans (below_trans hb1 hb2) hb3))
  have Hz1 := Lib.hid (show z + 1 ≤ w1.heap.size by have := hb1.size; have h2 := Hb0.out; rw [← Ew.out] at this; simp at this; have := Hz.out; omega)
  have HOh := Lib.hid (((hoh.mono (Nat.zero_le _)).on hb2).on hb3)
  have HOp := Lib.hid (((hop.mono (Nat.zero_le _)).on hb2).on hb3)
  have HOl := Lib.hid (((hoh.on hb2).on hb3).mono (B' := w0.heap.size) (Nat.le_refl _))
  have hat0 := fun k (e : AH = some ⟨k, 0, none⟩) => (show k < w1.heap.size by subst e; exact (World.ownsRow.lt hoh k rfl).2)
  have Hat := Lib.hid hat0
  have Hk2 := Lib.hid (cells8 hk2)
  have Ew2 := Lib.hid ew2
  have Ew3 := Lib.hid ew3
  clear hoh hop hb1 hb2 hb3 hk2 hk3 ew2 ew3 hs2 hs3 hat0
  go_upto_region 4 with (fail)
  rw [Ew2.out]
  obtain ⟨y0, y1, y2, y3, y4, y5, y6, y7⟩ := Hk2.out
  go_upto_region 5 with (refine wp_store_new 35 (.tmp 7) (.tmp 22) rfl rfl w2 _ _ rfl rfl (by kernel_rfl) rfl (by simp [Value.oneCell']) ?_)
  clear y0 y1 y2 y3 y4 y5 y6 y7 Hk2
  rw [Ew3.out]
  have HS := Lib.hid (show ∀ w', Below w3.heap.size w3 w' → w'.cell? ⟨w1.heap.size, 4, none⟩ = some (.int .u8 H.pr) from fun w' hb => (cells8 (blk_on HK2.out hb)).2.2.2.2.1)
  have HBd := Lib.hid (Below.drew (Below.refl w3.heap.size w3))
  refine wp_region_held_drew (S := fun w' => w'.cell? ⟨w1.heap.size, 4, none⟩ = some (.int .u8 H.pr)) (by kernel_rfl) (HS.out _ HBd.out) (fun hHeld => ?_)
  obtain ⟨wd, ewd⟩ : ∃ wd, w3.drew = wd := ⟨_, rfl⟩
  rw [ewd] at HBd hHeld ⊢
  clear ewd
  refine tk 0 ?_ rfl ?_ ?_
  rotate_left
  · intro w' hSw; (go_simp <;> (with_reducible rfl))
  try simp only [Act.put, putL]
  refine tk 2 ?_ rfl ?_ ?_
  rotate_left
  · intro w' hSw; (go_simp <;> (with_reducible rfl))
  try simp only [Act.put, putL]
  refine tk 3 ?_ rfl ?_ ?_
  rotate_left
  · intro w' hSw; (go_simp <;> (with_reducible rfl))
  try simp only [Act.put, putL]
  refine tkC 1 rfl (fun K hK => ?_)
  go_simp
  (refine (readings_any w2.heap.size H.sr H.ds AP nP cP _ (by have := HBd.out.size; have := Hs.out; omega) (cells24 (blk_on HK3.out HBd.out)).2.2.2.2.2.1 (cells24 (blk_on HK3.out HBd.out)).2.2.2.2.2.2.1).mono ?_; rintro e w4 ⟨g, q, r, y, x, rfl, hg, hP, hb4⟩; have HG := Lib.hid hg; have HPA := Lib.hid hP; have HB4 := Lib.hid (below_trans HBd.out hb4); clear hg hP hb4)
  refine hK.out _ _ ?_ (fun hHeld => ?_)
  · exact HS.out _ HB4.out
  clear hK K
  try simp only [Act.put, putL]
  obtain ⟨f, ef⟩ : ∃ f, atP (readF6 q r y x) (readF17 q r y x) (readF1 y x) H.pr = f := ⟨_, rfl⟩
  refine anyH_mono (S' := fun w' => w'.cell? ⟨w1.heap.size, 4, none⟩ = some (.int .u8 H.pr) ∧ w'.heap[g]? = some (threeO (readF6 q r y x) (readF17 q r y x) (readF1 y x))) (fun _ h => h.1) _ _ _ _ ?_
  have hHeld := And.intro hHeld HG.out
  have hlook := fun (W : World) (h : W.heap[g]? = some (threeO (readF6 q r y x) (readF17 q r y x) (readF1 y x))) => look3_reading W g _ _ _ H.pr f _ h ef Hk.out
  have Ef := Lib.hid ef
  clear ef
  refine tk 4 ?_ rfl ?_ ?_
  rotate_left
  · intro w' hSw; (go_simp <;> (with_reducible rfl))
  try simp only [Act.put, putL]
  refine tk 5 ?_ rfl ?_ ?_
  rotate_left
  · intro w' hSw; (go_simp <;> (with_reducible rfl))
  try simp only [Act.put, putL]
  refine tk 6 ?_ rfl ?_ ?_
  rotate_left
  · intro w' hSw; (go_simp <;> (with_reducible rfl))
  try simp only [Act.put, putL]
  refine tk 7 ?_ rfl ?_ ?_
  rotate_left
  · intro w' hSw; (go_simp <;> (with_reducible rfl))
  try simp only [Act.put, putL]
  refine tk 8 ?_ rfl ?_ ?_
  rotate_left
  · intro w' hSw; (go_simp <;> (with_reducible rfl))
  try simp only [Act.put, putL]
  refine tk 9 ?_ rfl ?_ ?_
  rotate_left
  · intro w' hSw; (go_simp <;> (with_reducible rfl))
  try simp only [Act.put, putL]
  refine wpAnyH_done (by kernel_rfl) ?_ _
  clear hHeld hlook
  have HKE := Lib.hid (blk_on HZ3.out HB4.out)
  have HBE := Lib.hid (HB3.out.trans (HB4.out.mono HB3.out.size))
  go_upto_region 7 with (fail)
  repeat (first | (refine wp_store_row 35 (.tmp 2) (.tmp 33) rfl z _ rfl rfl 35 _ HKE.out (by kernel_rfl) rfl (by simp [Value.oneCell']) ?_; simp only [Act.put, List.setIfInBounds_toArray, List.set_cons_zero, List.set_cons_succ]) | go_values | go_skip | go_guarded | go_step | go_upon | go_back)
  exact bodyPost_ret (results_row_tmp rfl _ _ z _ _ _ _ _ rfl rfl (setRow_heap _ _ _ _ _ _ HKE.out) Tryz.underlying35 rfl (by kernel_rfl)) rfl ⟨rfl, below_setRow HBE.out (by rw [Hz.out]; exact Nat.le_refl _) _⟩

def PkGood (q : Pk) (w : World) (e : Ending) (w' : World) : Prop := ∃ b : PkA, e = .returned (.tuple #[.agg #[.int .u8 q.h.to, .int .u16 q.h.id, .bool q.h.df, .int .u8 q.h.tt, .int .u8 q.h.pr, .int .u32 q.h.sr, .int .u32 q.h.ds, .slice b.AH b.nH b.cH, .int .u16 q.s.sp, .int .u16 q.s.dp, .int .u32 q.s.sq, .int .u32 q.s.ak, .int .u8 q.s.fl, .int .u16 q.s.wn, .int .u16 q.s.ug, .slice b.AO b.nO b.cO, .slice b.AD b.nD b.cD, .int .u16 q.u.sp, .int .u16 q.u.dp, .slice b.AU b.nU b.cU, .int .u8 q.m.ty, .int .u8 q.m.cd, .int .u32 q.m.rs, .slice b.AM b.nM b.cM], .int .i64 0]) ∧ PkRd w' q b ∧ b.nO ≤ 20 ∧ b.Off (fun g => g < w.heap.size) ∧ Below w.heap.size w w'
set_option maxHeartbeats 2000000 in
theorem parse9_bad_6 (A : Option Addr) (n c nH nP : Nat) (b P : List Int) (H : Hd) (k : Int) (w : World) (hc : n ≤ c ∧ c ≤ maxLen) (hn : n ≤ 140737488355328) (hA : Rd w A n b) (hx : errIp b = 0) (hH : hdOf b = H) (hP : restOf b = P) (hnH : H.o.length = nH) (hnP : P.length = nP) (h6 : H.pr = 6) (he : errSeg H.sr H.ds P = k) (h0 : k ≠ 0) :
    Calls Tryz.prog 6 #[.slice A n c] w (PkBad k w) := by
  have h0b : (k != 0) = true := by simpa using h0
  have Hx := Lib.hid hx
  have HH := Lib.hid hH
  have HP := Lib.hid hP
  have HnH := Lib.hid hnH
  have HnP := Lib.hid hnP
  have H6 := Lib.hid h6
  have He := Lib.hid he
  have H0 := Lib.hid h0
  have Hk := Lib.hid (show knownP H.pr = true by rw [h6]; rfl)
  clear hx hH hP hnH hnP h6 he h0
  obtain ⟨z, hz⟩ : ∃ z, w.heap.size = z := ⟨_, rfl⟩
  obtain ⟨w0, ew⟩ : ∃ w0, w.alloc (.cells #[.int .u8 0, .int .u16 0, .bool false, .int .u8 0, .int .u8 0, .int .u32 0, .int .u32 0, .slice none 0 0, .int .u16 0, .int .u16 0, .int .u32 0, .int .u32 0, .int .u8 0, .int .u16 0, .int .u16 0, .slice none 0 0, .slice none 0 0, .int .u16 0, .int .u16 0, .slice none 0 0, .int .u8 0, .int .u8 0, .int .u32 0, .slice none 0 0] 35) = w0 := ⟨_, rfl⟩
  have hb0 : Below w.heap.size w w0 := by rw [← ew]; exact (Below.refl _ _).alloc (Nat.le_refl _) _
  have hk0 : w0.heap[z]? = some (.cells #[.int .u8 0, .int .u16 0, .bool false, .int .u8 0, .int .u8 0, .int .u32 0, .int .u32 0, .slice none 0 0, .int .u16 0, .int .u16 0, .int .u32 0, .int .u32 0, .int .u8 0, .int .u16 0, .int .u16 0, .slice none 0 0, .slice none 0 0, .int .u16 0, .int .u16 0, .slice none 0 0, .int .u8 0, .int .u8 0, .int .u32 0, .slice none 0 0] 35 (0, 0)) := by rw [← ew, ← hz]; exact heap_alloc_new w _
  have HA := Lib.hid (hA.below hb0)
  have HK0 := Lib.hid hk0
  have Hb0 := Lib.hid hb0
  have Ew := Lib.hid ew
  have Hz := Lib.hid hz
  have Hc := Lib.hid hc
  have Hn := Lib.hid hn
  clear hz ew hb0 hk0 hA hc hn
  go_enter Tryz.func6, Tryz.ntmps6
  go_upto_region 1 with (fail)
  rw [Ew.out]
  try rw [Hz.out]
  go_wp2_with fail
  have Hgot := Lib.hid (ipparse_got A n c nH nP b P H w0 Hc.out Hn.out HA.out Hx.out HH.out HP.out HnH.out HnP.out)
  refine Hgot.out.mono ?_
  rintro e w1 ⟨AH, cH, AP, cP, rfl, hoh, hop, hb1⟩
  obtain ⟨w2, ew2⟩ : ∃ v, w1.alloc (.cells #[.int .u8 H.to, .int .u16 H.id, .bool H.df, .int .u8 H.tt, .int .u8 H.pr, .int .u32 H.sr, .int .u32 H.ds, .slice AH nH cH] 26) = v := ⟨_, rfl⟩
  have hb2 : Below w1.heap.size w1 w2 := by rw [← ew2]; exact (Below.refl _ _).alloc (Nat.le_refl _) _
  have hk2 : w2.heap[w1.heap.size]? = some (.cells #[.int .u8 H.to, .int .u16 H.id, .bool H.df, .int .u8 H.tt, .int .u8 H.pr, .int .u32 H.sr, .int .u32 H.ds, .slice AH nH cH] 26 (0, 0)) := by rw [← ew2]; exact heap_alloc_new w1 _
  obtain ⟨w3, ew3⟩ : ∃ v, w2.alloc (.cells #[.int .u8 H.to, .int .u16 H.id, .bool H.df, .int .u8 H.tt, .int .u8 H.pr, .int .u32 H.sr, .int .u32 H.ds, .slice AH nH cH, .int .u16 0, .int .u16 0, .int .u32 0, .int .u32 0, .int .u8 0, .int .u16 0, .int .u16 0, .slice none 0 0, .slice none 0 0, .int .u16 0, .int .u16 0, .slice none 0 0, .int .u8 0, .int .u8 0, .int .u32 0, .slice none 0 0] 35) = v := ⟨_, rfl⟩
  have hb3 : Below w2.heap.size w2 w3 := by rw [← ew3]; exact (Below.refl _ _).alloc (Nat.le_refl _) _
  have hk3 : w3.heap[w2.heap.size]? = some (.cells #[.int .u8 H.to, .int .u16 H.id, .bool H.df, .int .u8 H.tt, .int .u8 H.pr, .int .u32 H.sr, .int .u32 H.ds, .slice AH nH cH, .int .u16 0, .int .u16 0, .int .u32 0, .int .u32 0, .int .u8 0, .int .u16 0, .int .u16 0, .slice none 0 0, .slice none 0 0, .int .u16 0, .int .u16 0, .slice none 0 0, .int .u8 0, .int .u8 0, .int .u32 0, .slice none 0 0] 35 (0, 0)) := by rw [← ew3]; exact heap_alloc_new w2 _
  have hs2 : w2.heap.size = w1.heap.size + 1 := by rw [← ew2]; simp
  have hs3 : w3.heap.size = w2.heap.size + 1 := by rw [← ew3]; simp
  have Hs := Lib.hid (And.intro hs2 hs3)
  have HK2 := Lib.hid (blk_on hk2 hb3)
  have HK3 := Lib.hid hk3
  have HZ3 := Lib.hid (blk_on HK0.out (below_trans (below_trans hb1 hb2) hb3))
  have HB3 := Lib.hid (below_trans Hb0.out (below_trans (below_trans hb1 hb2) hb3))
  have Hz1 := Lib.hid (show z + 1 ≤ w1.heap.size by have := hb1.size; have h2 := Hb0.out; rw [← Ew.out] at this; simp at this; have := Hz.out; omega)
  have HOh := Lib.hid (((hoh.mono (Nat.zero_le _)).on hb2).on hb3)
  have HOp := Lib.hid (((hop.mono (Nat.zero_le _)).on hb2).on hb3)
  have HOl := Lib.hid (((hoh.on hb2).on hb3).mono (B' := w0.heap.size) (Nat.le_refl _))
  have hat0 := fun k (e : AH = some ⟨k, 0, none⟩) => (show k < w1.heap.size by subst e; exact (World.ownsRow.lt hoh k rfl).2)
  have Hat := Lib.hid hat0
  have Hk2 := Lib.hid (cells8 hk2)
  have Ew2 := Lib.hid ew2
  have Ew3 := Lib.hid ew3
  clear hoh hop hb1 hb2 hb3 hk2 hk3 ew2 ew3 hs2 hs3 hat0
  go_upto_region 4 with (fail)
  rw [Ew2.out]
  obtain ⟨y0, y1, y2, y3, y4, y5, y6, y7⟩ := Hk2.out
  go_upto_region 5 with (refine wp_store_new 35 (.tmp 7) (.tmp 22) rfl rfl w2 _ _ rfl rfl (by kernel_rfl) rfl (by simp [Value.oneCell']) ?_)
  clear y0 y1 y2 y3 y4 y5 y6 y7 Hk2
  rw [Ew3.out]
  have HS := Lib.hid (show ∀ w', Below w3.heap.size w3 w' → w'.cell? ⟨w1.heap.size, 4, none⟩ = some (.int .u8 H.pr) from fun w' hb => (cells8 (blk_on HK2.out hb)).2.2.2.2.1)
  have HBd := Lib.hid (Below.drew (Below.refl w3.heap.size w3))
  refine wp_region_held_drew (S := fun w' => w'.cell? ⟨w1.heap.size, 4, none⟩ = some (.int .u8 H.pr)) (by kernel_rfl) (HS.out _ HBd.out) (fun hHeld => ?_)
  obtain ⟨wd, ewd⟩ : ∃ wd, w3.drew = wd := ⟨_, rfl⟩
  rw [ewd] at HBd hHeld ⊢
  clear ewd
  refine tk 0 ?_ rfl ?_ ?_
  rotate_left
  · intro w' hSw; (go_simp <;> (with_reducible rfl))
  try simp only [Act.put, putL]
  refine tk 2 ?_ rfl ?_ ?_
  rotate_left
  · intro w' hSw; (go_simp <;> (with_reducible rfl))
  try simp only [Act.put, putL]
  refine tk 3 ?_ rfl ?_ ?_
  rotate_left
  · intro w' hSw; (go_simp <;> (with_reducible rfl))
  try simp only [Act.put, putL]
  refine tkC 1 rfl (fun K hK => ?_)
  go_simp
  (refine (readings_any w2.heap.size H.sr H.ds AP nP cP _ (by have := HBd.out.size; have := Hs.out; omega) (cells24 (blk_on HK3.out HBd.out)).2.2.2.2.2.1 (cells24 (blk_on HK3.out HBd.out)).2.2.2.2.2.2.1).mono ?_; rintro e w4 ⟨g, q, r, y, x, rfl, hg, hP, hb4⟩; have HG := Lib.hid hg; have HPA := Lib.hid hP; have HB4 := Lib.hid (below_trans HBd.out hb4); clear hg hP hb4)
  refine hK.out _ _ ?_ (fun hHeld => ?_)
  · exact HS.out _ HB4.out
  clear hK K
  try simp only [Act.put, putL]
  obtain ⟨f, ef⟩ : ∃ f, atP (readF6 q r y x) (readF17 q r y x) (readF1 y x) H.pr = f := ⟨_, rfl⟩
  refine anyH_mono (S' := fun w' => w'.cell? ⟨w1.heap.size, 4, none⟩ = some (.int .u8 H.pr) ∧ w'.heap[g]? = some (threeO (readF6 q r y x) (readF17 q r y x) (readF1 y x))) (fun _ h => h.1) _ _ _ _ ?_
  have hHeld := And.intro hHeld HG.out
  have hlook := fun (W : World) (h : W.heap[g]? = some (threeO (readF6 q r y x) (readF17 q r y x) (readF1 y x))) => look3_reading W g _ _ _ H.pr f _ h ef Hk.out
  have Ef := Lib.hid ef
  clear ef
  refine tk 4 ?_ rfl ?_ ?_
  rotate_left
  · intro w' hSw; (go_simp <;> (with_reducible rfl))
  try simp only [Act.put, putL]
  refine tk 5 ?_ rfl ?_ ?_
  rotate_left
  · intro w' hSw; (go_simp <;> (with_reducible rfl))
  try simp only [Act.put, putL]
  refine tk 6 ?_ rfl ?_ ?_
  rotate_left
  · intro w' hSw; (go_simp <;> (with_reducible rfl))
  try simp only [Act.put, putL]
  refine tk 7 ?_ rfl ?_ ?_
  rotate_left
  · intro w' hSw; (go_simp <;> (with_reducible rfl))
  try simp only [Act.put, putL]
  refine tk 8 ?_ rfl ?_ ?_
  rotate_left
  · intro w' hSw; (go_simp <;> (with_reducible rfl))
  try simp only [Act.put, putL]
  refine tk 9 ?_ rfl ?_ ?_
  rotate_left
  · intro w' hSw; (go_simp <;> (with_reducible rfl))
  try simp only [Act.put, putL]
  refine wpAnyH_done (by kernel_rfl) ?_ _
  clear hHeld hlook
  obtain rfl : f = .func (.func 40) #[] #[.pointer (some ⟨q, 0, none⟩), .pointer (some ⟨r, 0, none⟩), .pointer (some ⟨y, 0, none⟩), .pointer (some ⟨x, 0, none⟩)] := by rw [← Ef.out, H6.out]; rfl
  clear Ef
  have Hby := Lib.hid (show ∀ x ∈ P, 0 ≤ x ∧ x < 256 by rw [← HP.out]; exact fun x hx => HA.out.byte x (List.mem_of_mem_drop hx))
  have Hop4 := Lib.hid (HOp.out.on HB4.out)
  have hne : z ≠ w2.heap.size := by have := Hz1.out; have := Hs.out.1; omega
  have hwz : w.heap.size ≤ w2.heap.size := by have := Hz1.out; have := Hs.out.1; have := Hz.out; omega
  have hap : w2.heap.size < wd.heap.size := by have := HBd.out.size; have := Hs.out; omega
  have Hne := Lib.hid (And.intro hne (And.intro hwz hap))
  clear hne hwz hap
  go_wp2_with fail
  refine (read_bad_6 w2.heap.size H.sr H.ds AP nP cP q r y x wd.heap.size _ P k (.int .u8 H.to) (.int .u16 H.id) (.bool H.df) (.int .u8 H.tt) (.int .u8 H.pr) (.int .u32 H.sr) (.int .u32 H.ds) (.slice AH nH cH) (.int .u16 0) (.int .u16 0) (.int .u32 0) (.int .u32 0) (.int .u8 0) (.int .u16 0) (.int .u16 0) (.slice none 0 0) (.slice none 0 0) (.int .u16 0) (.int .u16 0) (.slice none 0 0) (.int .u8 0) (.int .u8 0) (.int .u32 0) (.slice none 0 0) (blk_on HK3.out HB4.out) HPA.out Hne.out.2.2 ⟨Hop4.out.cap, Hop4.out.capMax⟩ (Hop4.out.rd Hby.out) He.out H0.out).mono ?_
  rintro e w5 ⟨rfl, hb5⟩
  have HKE := Lib.hid (hb5.blk (blk_on HZ3.out HB4.out) Hne.out.1)
  have HBE := Lib.hid ((HB3.out.trans (HB4.out.mono HB3.out.size)).trans (hb5.below (B := w.heap.size) (fun k hk => by have := Hne.out.2.1; omega) ((HB3.out.trans (HB4.out.mono HB3.out.size)).size)))
  clear hb5
  go_upto_region 10 with (fail)
  repeat (first | (refine wp_store_row 35 (.tmp 2) (.tmp 38) rfl z _ rfl rfl 35 _ HKE.out (by kernel_rfl) rfl (by simp [Value.oneCell']) ?_; simp only [Act.put, List.setIfInBounds_toArray, List.set_cons_zero, List.set_cons_succ]) | go_values | go_skip | go_guarded | go_step | go_upon | go_back)
  exact bodyPost_ret (results_row_tmp rfl _ _ z _ _ _ _ _ rfl rfl (setRow_heap _ _ _ _ _ _ HKE.out) Tryz.underlying35 rfl (by kernel_rfl)) rfl ⟨rfl, below_setRow HBE.out (by rw [Hz.out]; exact Nat.le_refl _) _⟩
set_option maxHeartbeats 2000000 in
theorem parse9_bad_17 (A : Option Addr) (n c nH nP : Nat) (b P : List Int) (H : Hd) (k : Int) (w : World) (hc : n ≤ c ∧ c ≤ maxLen) (hn : n ≤ 140737488355328) (hA : Rd w A n b) (hx : errIp b = 0) (hH : hdOf b = H) (hP : restOf b = P) (hnH : H.o.length = nH) (hnP : P.length = nP) (h6 : H.pr = 17) (he : errU H.sr H.ds P = k) (h0 : k ≠ 0) :
    Calls Tryz.prog 6 #[.slice A n c] w (PkBad k w) := by
  have h0b : (k != 0) = true := by simpa using h0
  have Hx := Lib.hid hx
  have HH := Lib.hid hH
  have HP := Lib.hid hP
  have HnH := Lib.hid hnH
  have HnP := Lib.hid hnP
  have H6 := Lib.hid h6
  have He := Lib.hid he
  have H0 := Lib.hid h0
  have Hk := Lib.hid (show knownP H.pr = true by rw [h6]; rfl)
  clear hx hH hP hnH hnP h6 he h0
  obtain ⟨z, hz⟩ : ∃ z, w.heap.size = z := ⟨_, rfl⟩
  obtain ⟨w0, ew⟩ : ∃ w0, w.alloc (.cells #[.int .u8 0, .int .u16 0, .bool false, .int .u8 0, .int .u8 0, .int .u32 0, .int .u32 0, .slice none 0 0, .int .u16 0, .int .u16 0, .int .u32 0, .int .u32 0, .int .u8 0, .int .u16 0, .int .u16 0, .slice none 0 0, .slice none 0 0, .int .u16 0, .int .u16 0, .slice none 0 0, .int .u8 0, .int .u8 0, .int .u32 0, .slice none 0 0] 35) = w0 := ⟨_, rfl⟩
  have hb0 : Below w.heap.size w w0 := by rw [← ew]; exact (Below.refl _ _).alloc (Nat.le_refl _) _
  have hk0 : w0.heap[z]? = some (.cells #[.int .u8 0, .int .u16 0, .bool false, .int .u8 0, .int .u8 0, .int .u32 0, .int .u32 0, .slice none 0 0, .int .u16 0, .int .u16 0, .int .u32 0, .int .u32 0, .int .u8 0, .int .u16 0, .int .u16 0, .slice none 0 0, .slice none 0 0, .int .u16 0, .int .u16 0, .slice none 0 0, .int .u8 0, .int .u8 0, .int .u32 0, .slice none 0 0] 35 (0, 0)) := by rw [← ew, ← hz]; exact heap_alloc_new w _
  have HA := Lib.hid (hA.below hb0)
  have HK0 := Lib.hid hk0
  have Hb0 := Lib.hid hb0
  have Ew := Lib.hid ew
  have Hz := Lib.hid hz
  have Hc := Lib.hid hc
  have Hn := Lib.hid hn
  clear hz ew hb0 hk0 hA hc hn
  go_enter Tryz.func6, Tryz.ntmps6
  go_upto_region 1 with (fail)
  rw [Ew.out]
  try rw [Hz.out]
  go_wp2_with fail
  have Hgot := Lib.hid (ipparse_got A n c nH nP b P H w0 Hc.out Hn.out HA.out Hx.out HH.out HP.out HnH.out HnP.out)
  refine Hgot.out.mono ?_
  rintro e w1 ⟨AH, cH, AP, cP, rfl, hoh, hop, hb1⟩
  obtain ⟨w2, ew2⟩ : ∃ v, w1.alloc (.cells #[.int .u8 H.to, .int .u16 H.id, .bool H.df, .int .u8 H.tt, .int .u8 H.pr, .int .u32 H.sr, .int .u32 H.ds, .slice AH nH cH] 26) = v := ⟨_, rfl⟩
  have hb2 : Below w1.heap.size w1 w2 := by rw [← ew2]; exact (Below.refl _ _).alloc (Nat.le_refl _) _
  have hk2 : w2.heap[w1.heap.size]? = some (.cells #[.int .u8 H.to, .int .u16 H.id, .bool H.df, .int .u8 H.tt, .int .u8 H.pr, .int .u32 H.sr, .int .u32 H.ds, .slice AH nH cH] 26 (0, 0)) := by rw [← ew2]; exact heap_alloc_new w1 _
  obtain ⟨w3, ew3⟩ : ∃ v, w2.alloc (.cells #[.int .u8 H.to, .int .u16 H.id, .bool H.df, .int .u8 H.tt, .int .u8 H.pr, .int .u32 H.sr, .int .u32 H.ds, .slice AH nH cH, .int .u16 0, .int .u16 0, .int .u32 0, .int .u32 0, .int .u8 0, .int .u16 0, .int .u16 0, .slice none 0 0, .slice none 0 0, .int .u16 0, .int .u16 0, .slice none 0 0, .int .u8 0, .int .u8 0, .int .u32 0, .slice none 0 0] 35) = v := ⟨_, rfl⟩
  have hb3 : Below w2.heap.size w2 w3 := by rw [← ew3]; exact (Below.refl _ _).alloc (Nat.le_refl _) _
  have hk3 : w3.heap[w2.heap.size]? = some (.cells #[.int .u8 H.to, .int .u16 H.id, .bool H.df, .int .u8 H.tt, .int .u8 H.pr, .int .u32 H.sr, .int .u32 H.ds, .slice AH nH cH, .int .u16 0, .int .u16 0, .int .u32 0, .int .u32 0, .int .u8 0, .int .u16 0, .int .u16 0, .slice none 0 0, .slice none 0 0, .int .u16 0, .int .u16 0, .slice none 0 0, .int .u8 0, .int .u8 0, .int .u32 0, .slice none 0 0] 35 (0, 0)) := by rw [← ew3]; exact heap_alloc_new w2 _
  have hs2 : w2.heap.size = w1.heap.size + 1 := by rw [← ew2]; simp
  have hs3 : w3.heap.size = w2.heap.size + 1 := by rw [← ew3]; simp
  have Hs := Lib.hid (And.intro hs2 hs3)
  have HK2 := Lib.hid (blk_on hk2 hb3)
  have HK3 := Lib.hid hk3
  have HZ3 := Lib.hid (blk_on HK0.out (below_trans (below_trans hb1 hb2) hb3))
  have HB3 := Lib.hid (below_trans Hb0.out (below_trans (below_trans hb1 hb2) hb3))
  have Hz1 := Lib.hid (show z + 1 ≤ w1.heap.size by have := hb1.size; have h2 := Hb0.out; rw [← Ew.out] at this; simp at this; have := Hz.out; omega)
  have HOh := Lib.hid (((hoh.mono (Nat.zero_le _)).on hb2).on hb3)
  have HOp := Lib.hid (((hop.mono (Nat.zero_le _)).on hb2).on hb3)
  have HOl := Lib.hid (((hoh.on hb2).on hb3).mono (B' := w0.heap.size) (Nat.le_refl _))
  have hat0 := fun k (e : AH = some ⟨k, 0, none⟩) => (show k < w1.heap.size by subst e; exact (World.ownsRow.lt hoh k rfl).2)
  have Hat := Lib.hid hat0
  have Hk2 := Lib.hid (cells8 hk2)
  have Ew2 := Lib.hid ew2
  have Ew3 := Lib.hid ew3
  clear hoh hop hb1 hb2 hb3 hk2 hk3 ew2 ew3 hs2 hs3 hat0
  go_upto_region 4 with (fail)
  rw [Ew2.out]
  obtain ⟨y0, y1, y2, y3, y4, y5, y6, y7⟩ := Hk2.out
  go_upto_region 5 with (refine wp_store_new 35 (.tmp 7) (.tmp 22) rfl rfl w2 _ _ rfl rfl (by kernel_rfl) rfl (by simp [Value.oneCell']) ?_)
  clear y0 y1 y2 y3 y4 y5 y6 y7 Hk2
  rw [Ew3.out]
  have HS := Lib.hid (show ∀ w', Below w3.heap.size w3 w' → w'.cell? ⟨w1.heap.size, 4, none⟩ = some (.int .u8 H.pr) from fun w' hb => (cells8 (blk_on HK2.out hb)).2.2.2.2.1)
  have HBd := Lib.hid (Below.drew (Below.refl w3.heap.size w3))
  refine wp_region_held_drew (S := fun w' => w'.cell? ⟨w1.heap.size, 4, none⟩ = some (.int .u8 H.pr)) (by kernel_rfl) (HS.out _ HBd.out) (fun hHeld => ?_)
  obtain ⟨wd, ewd⟩ : ∃ wd, w3.drew = wd := ⟨_, rfl⟩
  rw [ewd] at HBd hHeld ⊢
  clear ewd
  refine tk 0 ?_ rfl ?_ ?_
  rotate_left
  · intro w' hSw; (go_simp <;> (with_reducible rfl))
  try simp only [Act.put, putL]
  refine tk 2 ?_ rfl ?_ ?_
  rotate_left
  · intro w' hSw; (go_simp <;> (with_reducible rfl))
  try simp only [Act.put, putL]
  refine tk 3 ?_ rfl ?_ ?_
  rotate_left
  · intro w' hSw; (go_simp <;> (with_reducible rfl))
  try simp only [Act.put, putL]
  refine tkC 1 rfl (fun K hK => ?_)
  go_simp
  (refine (readings_any w2.heap.size H.sr H.ds AP nP cP _ (by have := HBd.out.size; have := Hs.out; omega) (cells24 (blk_on HK3.out HBd.out)).2.2.2.2.2.1 (cells24 (blk_on HK3.out HBd.out)).2.2.2.2.2.2.1).mono ?_; rintro e w4 ⟨g, q, r, y, x, rfl, hg, hP, hb4⟩; have HG := Lib.hid hg; have HPA := Lib.hid hP; have HB4 := Lib.hid (below_trans HBd.out hb4); clear hg hP hb4)
  refine hK.out _ _ ?_ (fun hHeld => ?_)
  · exact HS.out _ HB4.out
  clear hK K
  try simp only [Act.put, putL]
  obtain ⟨f, ef⟩ : ∃ f, atP (readF6 q r y x) (readF17 q r y x) (readF1 y x) H.pr = f := ⟨_, rfl⟩
  refine anyH_mono (S' := fun w' => w'.cell? ⟨w1.heap.size, 4, none⟩ = some (.int .u8 H.pr) ∧ w'.heap[g]? = some (threeO (readF6 q r y x) (readF17 q r y x) (readF1 y x))) (fun _ h => h.1) _ _ _ _ ?_
  have hHeld := And.intro hHeld HG.out
  have hlook := fun (W : World) (h : W.heap[g]? = some (threeO (readF6 q r y x) (readF17 q r y x) (readF1 y x))) => look3_reading W g _ _ _ H.pr f _ h ef Hk.out
  have Ef := Lib.hid ef
  clear ef
  refine tk 4 ?_ rfl ?_ ?_
  rotate_left
  · intro w' hSw; (go_simp <;> (with_reducible rfl))
  try simp only [Act.put, putL]
  refine tk 5 ?_ rfl ?_ ?_
  rotate_left
  · intro w' hSw; (go_simp <;> (with_reducible rfl))
  try simp only [Act.put, putL]
  refine tk 6 ?_ rfl ?_ ?_
  rotate_left
  · intro w' hSw; (go_simp <;> (with_reducible rfl))
  try simp only [Act.put, putL]
  refine tk 7 ?_ rfl ?_ ?_
  rotate_left
  · intro w' hSw; (go_simp <;> (with_reducible rfl))
  try simp only [Act.put, putL]
  refine tk 8 ?_ rfl ?_ ?_
  rotate_left
  · intro w' hSw; (go_simp <;> (with_reducible rfl))
  try simp only [Act.put, putL]
  refine tk 9 ?_ rfl ?_ ?_
  rotate_left
  · intro w' hSw; (go_simp <;> (with_reducible rfl))
  try simp only [Act.put, putL]
  refine wpAnyH_done (by kernel_rfl) ?_ _
  clear hHeld hlook
  obtain rfl : f = .func (.func 42) #[] #[.pointer (some ⟨q, 0, none⟩), .pointer (some ⟨r, 0, none⟩), .pointer (some ⟨y, 0, none⟩), .pointer (some ⟨x, 0, none⟩)] := by rw [← Ef.out, H6.out]; rfl
  clear Ef
  have Hby := Lib.hid (show ∀ x ∈ P, 0 ≤ x ∧ x < 256 by rw [← HP.out]; exact fun x hx => HA.out.byte x (List.mem_of_mem_drop hx))
  have Hop4 := Lib.hid (HOp.out.on HB4.out)
  have hne : z ≠ w2.heap.size := by have := Hz1.out; have := Hs.out.1; omega
  have hwz : w.heap.size ≤ w2.heap.size := by have := Hz1.out; have := Hs.out.1; have := Hz.out; omega
  have hap : w2.heap.size < wd.heap.size := by have := HBd.out.size; have := Hs.out; omega
  have Hne := Lib.hid (And.intro hne (And.intro hwz hap))
  clear hne hwz hap
  go_wp2_with fail
  refine (read_bad_17 w2.heap.size H.sr H.ds AP nP cP q r y x wd.heap.size _ P k (.int .u8 H.to) (.int .u16 H.id) (.bool H.df) (.int .u8 H.tt) (.int .u8 H.pr) (.int .u32 H.sr) (.int .u32 H.ds) (.slice AH nH cH) (.int .u16 0) (.int .u16 0) (.int .u32 0) (.int .u32 0) (.int .u8 0) (.int .u16 0) (.int .u16 0) (.slice none 0 0) (.slice none 0 0) (.int .u16 0) (.int .u16 0) (.slice none 0 0) (.int .u8 0) (.int .u8 0) (.int .u32 0) (.slice none 0 0) (blk_on HK3.out HB4.out) HPA.out Hne.out.2.2 ⟨Hop4.out.cap, Hop4.out.capMax⟩ (Hop4.out.rd Hby.out) He.out H0.out).mono ?_
  rintro e w5 ⟨rfl, hb5⟩
  have HKE := Lib.hid (hb5.blk (blk_on HZ3.out HB4.out) Hne.out.1)
  have HBE := Lib.hid ((HB3.out.trans (HB4.out.mono HB3.out.size)).trans (hb5.below (B := w.heap.size) (fun k hk => by have := Hne.out.2.1; omega) ((HB3.out.trans (HB4.out.mono HB3.out.size)).size)))
  clear hb5
  go_upto_region 10 with (fail)
  repeat (first | (refine wp_store_row 35 (.tmp 2) (.tmp 38) rfl z _ rfl rfl 35 _ HKE.out (by kernel_rfl) rfl (by simp [Value.oneCell']) ?_; simp only [Act.put, List.setIfInBounds_toArray, List.set_cons_zero, List.set_cons_succ]) | go_values | go_skip | go_guarded | go_step | go_upon | go_back)
  exact bodyPost_ret (results_row_tmp rfl _ _ z _ _ _ _ _ rfl rfl (setRow_heap _ _ _ _ _ _ HKE.out) Tryz.underlying35 rfl (by kernel_rfl)) rfl ⟨rfl, below_setRow HBE.out (by rw [Hz.out]; exact Nat.le_refl _) _⟩
set_option maxHeartbeats 2000000 in
theorem parse9_bad_1 (A : Option Addr) (n c nH nP : Nat) (b P : List Int) (H : Hd) (k : Int) (w : World) (hc : n ≤ c ∧ c ≤ maxLen) (hn : n ≤ 140737488355328) (hA : Rd w A n b) (hx : errIp b = 0) (hH : hdOf b = H) (hP : restOf b = P) (hnH : H.o.length = nH) (hnP : P.length = nP) (h6 : H.pr = 1) (he : errM P = k) (h0 : k ≠ 0) :
    Calls Tryz.prog 6 #[.slice A n c] w (PkBad k w) := by
  have h0b : (k != 0) = true := by simpa using h0
  have Hx := Lib.hid hx
  have HH := Lib.hid hH
  have HP := Lib.hid hP
  have HnH := Lib.hid hnH
  have HnP := Lib.hid hnP
  have H6 := Lib.hid h6
  have He := Lib.hid he
  have H0 := Lib.hid h0
  have Hk := Lib.hid (show knownP H.pr = true by rw [h6]; rfl)
  clear hx hH hP hnH hnP h6 he h0
  obtain ⟨z, hz⟩ : ∃ z, w.heap.size = z := ⟨_, rfl⟩
  obtain ⟨w0, ew⟩ : ∃ w0, w.alloc (.cells #[.int .u8 0, .int .u16 0, .bool false, .int .u8 0, .int .u8 0, .int .u32 0, .int .u32 0, .slice none 0 0, .int .u16 0, .int .u16 0, .int .u32 0, .int .u32 0, .int .u8 0, .int .u16 0, .int .u16 0, .slice none 0 0, .slice none 0 0, .int .u16 0, .int .u16 0, .slice none 0 0, .int .u8 0, .int .u8 0, .int .u32 0, .slice none 0 0] 35) = w0 := ⟨_, rfl⟩
  have hb0 : Below w.heap.size w w0 := by rw [← ew]; exact (Below.refl _ _).alloc (Nat.le_refl _) _
  have hk0 : w0.heap[z]? = some (.cells #[.int .u8 0, .int .u16 0, .bool false, .int .u8 0, .int .u8 0, .int .u32 0, .int .u32 0, .slice none 0 0, .int .u16 0, .int .u16 0, .int .u32 0, .int .u32 0, .int .u8 0, .int .u16 0, .int .u16 0, .slice none 0 0, .slice none 0 0, .int .u16 0, .int .u16 0, .slice none 0 0, .int .u8 0, .int .u8 0, .int .u32 0, .slice none 0 0] 35 (0, 0)) := by rw [← ew, ← hz]; exact heap_alloc_new w _
  have HA := Lib.hid (hA.below hb0)
  have HK0 := Lib.hid hk0
  have Hb0 := Lib.hid hb0
  have Ew := Lib.hid ew
  have Hz := Lib.hid hz
  have Hc := Lib.hid hc
  have Hn := Lib.hid hn
  clear hz ew hb0 hk0 hA hc hn
  go_enter Tryz.func6, Tryz.ntmps6
  go_upto_region 1 with (fail)
  rw [Ew.out]
  try rw [Hz.out]
  go_wp2_with fail
  have Hgot := Lib.hid (ipparse_got A n c nH nP b P H w0 Hc.out Hn.out HA.out Hx.out HH.out HP.out HnH.out HnP.out)
  refine Hgot.out.mono ?_
  rintro e w1 ⟨AH, cH, AP, cP, rfl, hoh, hop, hb1⟩
  obtain ⟨w2, ew2⟩ : ∃ v, w1.alloc (.cells #[.int .u8 H.to, .int .u16 H.id, .bool H.df, .int .u8 H.tt, .int .u8 H.pr, .int .u32 H.sr, .int .u32 H.ds, .slice AH nH cH] 26) = v := ⟨_, rfl⟩
  have hb2 : Below w1.heap.size w1 w2 := by rw [← ew2]; exact (Below.refl _ _).alloc (Nat.le_refl _) _
  have hk2 : w2.heap[w1.heap.size]? = some (.cells #[.int .u8 H.to, .int .u16 H.id, .bool H.df, .int .u8 H.tt, .int .u8 H.pr, .int .u32 H.sr, .int .u32 H.ds, .slice AH nH cH] 26 (0, 0)) := by rw [← ew2]; exact heap_alloc_new w1 _
  obtain ⟨w3, ew3⟩ : ∃ v, w2.alloc (.cells #[.int .u8 H.to, .int .u16 H.id, .bool H.df, .int .u8 H.tt, .int .u8 H.pr, .int .u32 H.sr, .int .u32 H.ds, .slice AH nH cH, .int .u16 0, .int .u16 0, .int .u32 0, .int .u32 0, .int .u8 0, .int .u16 0, .int .u16 0, .slice none 0 0, .slice none 0 0, .int .u16 0, .int .u16 0, .slice none 0 0, .int .u8 0, .int .u8 0, .int .u32 0, .slice none 0 0] 35) = v := ⟨_, rfl⟩
  have hb3 : Below w2.heap.size w2 w3 := by rw [← ew3]; exact (Below.refl _ _).alloc (Nat.le_refl _) _
  have hk3 : w3.heap[w2.heap.size]? = some (.cells #[.int .u8 H.to, .int .u16 H.id, .bool H.df, .int .u8 H.tt, .int .u8 H.pr, .int .u32 H.sr, .int .u32 H.ds, .slice AH nH cH, .int .u16 0, .int .u16 0, .int .u32 0, .int .u32 0, .int .u8 0, .int .u16 0, .int .u16 0, .slice none 0 0, .slice none 0 0, .int .u16 0, .int .u16 0, .slice none 0 0, .int .u8 0, .int .u8 0, .int .u32 0, .slice none 0 0] 35 (0, 0)) := by rw [← ew3]; exact heap_alloc_new w2 _
  have hs2 : w2.heap.size = w1.heap.size + 1 := by rw [← ew2]; simp
  have hs3 : w3.heap.size = w2.heap.size + 1 := by rw [← ew3]; simp
  have Hs := Lib.hid (And.intro hs2 hs3)
  have HK2 := Lib.hid (blk_on hk2 hb3)
  have HK3 := Lib.hid hk3
  have HZ3 := Lib.hid (blk_on HK0.out (below_trans (below_trans hb1 hb2) hb3))
  have HB3 := Lib.hid (below_trans Hb0.out (below_trans (below_trans hb1 hb2) hb3))
  have Hz1 := Lib.hid (show z + 1 ≤ w1.heap.size by have := hb1.size; have h2 := Hb0.out; rw [← Ew.out] at this; simp at this; have := Hz.out; omega)
  have HOh := Lib.hid (((hoh.mono (Nat.zero_le _)).on hb2).on hb3)
  have HOp := Lib.hid (((hop.mono (Nat.zero_le _)).on hb2).on hb3)
  have HOl := Lib.hid (((hoh.on hb2).on hb3).mono (B' := w0.heap.size) (Nat.le_refl _))
  have hat0 := fun k (e : AH = some ⟨k, 0, none⟩) => (show k < w1.heap.size by subst e; exact (World.ownsRow.lt hoh k rfl).2)
  have Hat := Lib.hid hat0
  have Hk2 := Lib.hid (cells8 hk2)
  have Ew2 := Lib.hid ew2
  have Ew3 := Lib.hid ew3
  clear hoh hop hb1 hb2 hb3 hk2 hk3 ew2 ew3 hs2 hs3 hat0
  go_upto_region 4 with (fail)
  rw [Ew2.out]
  obtain ⟨y0, y1, y2, y3, y4, y5, y6, y7⟩ := Hk2.out
  go_upto_region 5 with (refine wp_store_new 35 (.tmp 7) (.tmp 22) rfl rfl w2 _ _ rfl rfl (by kernel_rfl) rfl (by simp [Value.oneCell']) ?_)
  clear y0 y1 y2 y3 y4 y5 y6 y7 Hk2
  rw [Ew3.out]
  have HS := Lib.hid (show ∀ w', Below w3.heap.size w3 w' → w'.cell? ⟨w1.heap.size, 4, none⟩ = some (.int .u8 H.pr) from fun w' hb => (cells8 (blk_on HK2.out hb)).2.2.2.2.1)
  have HBd := Lib.hid (Below.drew (Below.refl w3.heap.size w3))
  refine wp_region_held_drew (S := fun w' => w'.cell? ⟨w1.heap.size, 4, none⟩ = some (.int .u8 H.pr)) (by kernel_rfl) (HS.out _ HBd.out) (fun hHeld => ?_)
  obtain ⟨wd, ewd⟩ : ∃ wd, w3.drew = wd := ⟨_, rfl⟩
  rw [ewd] at HBd hHeld ⊢
  clear ewd
  refine tk 0 ?_ rfl ?_ ?_
  rotate_left
  · intro w' hSw; (go_simp <;> (with_reducible rfl))
  try simp only [Act.put, putL]
  refine tk 2 ?_ rfl ?_ ?_
  rotate_left
  · intro w' hSw; (go_simp <;> (with_reducible rfl))
  try simp only [Act.put, putL]
  refine tk 3 ?_ rfl ?_ ?_
  rotate_left
  · intro w' hSw; (go_simp <;> (with_reducible rfl))
  try simp only [Act.put, putL]
  refine tkC 1 rfl (fun K hK => ?_)
  go_simp
  (refine (readings_any w2.heap.size H.sr H.ds AP nP cP _ (by have := HBd.out.size; have := Hs.out; omega) (cells24 (blk_on HK3.out HBd.out)).2.2.2.2.2.1 (cells24 (blk_on HK3.out HBd.out)).2.2.2.2.2.2.1).mono ?_; rintro e w4 ⟨g, q, r, y, x, rfl, hg, hP, hb4⟩; have HG := Lib.hid hg; have HPA := Lib.hid hP; have HB4 := Lib.hid (below_trans HBd.out hb4); clear hg hP hb4)
  refine hK.out _ _ ?_ (fun hHeld => ?_)
  · exact HS.out _ HB4.out
  clear hK K
  try simp only [Act.put, putL]
  obtain ⟨f, ef⟩ : ∃ f, atP (readF6 q r y x) (readF17 q r y x) (readF1 y x) H.pr = f := ⟨_, rfl⟩
  refine anyH_mono (S' := fun w' => w'.cell? ⟨w1.heap.size, 4, none⟩ = some (.int .u8 H.pr) ∧ w'.heap[g]? = some (threeO (readF6 q r y x) (readF17 q r y x) (readF1 y x))) (fun _ h => h.1) _ _ _ _ ?_
  have hHeld := And.intro hHeld HG.out
  have hlook := fun (W : World) (h : W.heap[g]? = some (threeO (readF6 q r y x) (readF17 q r y x) (readF1 y x))) => look3_reading W g _ _ _ H.pr f _ h ef Hk.out
  have Ef := Lib.hid ef
  clear ef
  refine tk 4 ?_ rfl ?_ ?_
  rotate_left
  · intro w' hSw; (go_simp <;> (with_reducible rfl))
  try simp only [Act.put, putL]
  refine tk 5 ?_ rfl ?_ ?_
  rotate_left
  · intro w' hSw; (go_simp <;> (with_reducible rfl))
  try simp only [Act.put, putL]
  refine tk 6 ?_ rfl ?_ ?_
  rotate_left
  · intro w' hSw; (go_simp <;> (with_reducible rfl))
  try simp only [Act.put, putL]
  refine tk 7 ?_ rfl ?_ ?_
  rotate_left
  · intro w' hSw; (go_simp <;> (with_reducible rfl))
  try simp only [Act.put, putL]
  refine tk 8 ?_ rfl ?_ ?_
  rotate_left
  · intro w' hSw; (go_simp <;> (with_reducible rfl))
  try simp only [Act.put, putL]
  refine tk 9 ?_ rfl ?_ ?_
  rotate_left
  · intro w' hSw; (go_simp <;> (with_reducible rfl))
  try simp only [Act.put, putL]
  refine wpAnyH_done (by kernel_rfl) ?_ _
  clear hHeld hlook
  obtain rfl : f = .func (.func 44) #[] #[.pointer (some ⟨y, 0, none⟩), .pointer (some ⟨x, 0, none⟩)] := by rw [← Ef.out, H6.out]; rfl
  clear Ef
  have Hby := Lib.hid (show ∀ x ∈ P, 0 ≤ x ∧ x < 256 by rw [← HP.out]; exact fun x hx => HA.out.byte x (List.mem_of_mem_drop hx))
  have Hop4 := Lib.hid (HOp.out.on HB4.out)
  have hne : z ≠ w2.heap.size := by have := Hz1.out; have := Hs.out.1; omega
  have hwz : w.heap.size ≤ w2.heap.size := by have := Hz1.out; have := Hs.out.1; have := Hz.out; omega
  have hap : w2.heap.size < wd.heap.size := by have := HBd.out.size; have := Hs.out; omega
  have Hne := Lib.hid (And.intro hne (And.intro hwz hap))
  clear hne hwz hap
  go_wp2_with fail
  refine (read_bad_1 w2.heap.size H.sr H.ds AP nP cP q r y x wd.heap.size _ P k (.int .u8 H.to) (.int .u16 H.id) (.bool H.df) (.int .u8 H.tt) (.int .u8 H.pr) (.int .u32 H.sr) (.int .u32 H.ds) (.slice AH nH cH) (.int .u16 0) (.int .u16 0) (.int .u32 0) (.int .u32 0) (.int .u8 0) (.int .u16 0) (.int .u16 0) (.slice none 0 0) (.slice none 0 0) (.int .u16 0) (.int .u16 0) (.slice none 0 0) (.int .u8 0) (.int .u8 0) (.int .u32 0) (.slice none 0 0) (blk_on HK3.out HB4.out) HPA.out Hne.out.2.2 ⟨Hop4.out.cap, Hop4.out.capMax⟩ (Hop4.out.rd Hby.out) He.out H0.out).mono ?_
  rintro e w5 ⟨rfl, hb5⟩
  have HKE := Lib.hid (hb5.blk (blk_on HZ3.out HB4.out) Hne.out.1)
  have HBE := Lib.hid ((HB3.out.trans (HB4.out.mono HB3.out.size)).trans (hb5.below (B := w.heap.size) (fun k hk => by have := Hne.out.2.1; omega) ((HB3.out.trans (HB4.out.mono HB3.out.size)).size)))
  clear hb5
  go_upto_region 10 with (fail)
  repeat (first | (refine wp_store_row 35 (.tmp 2) (.tmp 38) rfl z _ rfl rfl 35 _ HKE.out (by kernel_rfl) rfl (by simp [Value.oneCell']) ?_; simp only [Act.put, List.setIfInBounds_toArray, List.set_cons_zero, List.set_cons_succ]) | go_values | go_skip | go_guarded | go_step | go_upon | go_back)
  exact bodyPost_ret (results_row_tmp rfl _ _ z _ _ _ _ _ rfl rfl (setRow_heap _ _ _ _ _ _ HKE.out) Tryz.underlying35 rfl (by kernel_rfl)) rfl ⟨rfl, below_setRow HBE.out (by rw [Hz.out]; exact Nat.le_refl _) _⟩

set_option maxHeartbeats 2000000 in
theorem parse9_good_6 (A : Option Addr) (n c nH nP nD : Nat) (b P : List Int) (H : Hd) (S : Seg) (w : World) (hc : n ≤ c ∧ c ≤ maxLen) (hn : n ≤ 140737488355328) (hA : Rd w A n b) (hx : errIp b = 0) (hH : hdOf b = H) (hP : restOf b = P) (hnH : H.o.length = nH) (hnP : P.length = nP) (h6 : H.pr = 6) (he : errSeg H.sr H.ds P = 0) (hS : segOf P (offB P) = S) (hnD : S.d.length = nD) :
    Calls Tryz.prog 6 #[.slice A n c] w (PkGood ⟨H, S, zeroDg, zeroM⟩ w) := by
  have Hx := Lib.hid hx
  have HH := Lib.hid hH
  have HP := Lib.hid hP
  have HnH := Lib.hid hnH
  have HnP := Lib.hid hnP
  have H6 := Lib.hid h6
  have He := Lib.hid he
  have HS_ := Lib.hid hS
  have HnD := Lib.hid hnD
  have HH_ := Lib.hid (show HdNum H by rw [← hH]; exact hdOf_num hA.byte)
  have HHo := Lib.hid (show ∀ x ∈ H.o, 0 ≤ x ∧ x < 256 by rw [← hH]; exact fun x hx => hA.byte x (List.mem_of_mem_drop (List.mem_of_mem_take hx)))
  have Hk := Lib.hid (show knownP H.pr = true by rw [h6]; rfl)
  clear hx hH hP hnH hnP h6 he hS hnD
  obtain ⟨z, hz⟩ : ∃ z, w.heap.size = z := ⟨_, rfl⟩
  obtain ⟨w0, ew⟩ : ∃ w0, w.alloc (.cells #[.int .u8 0, .int .u16 0, .bool false, .int .u8 0, .int .u8 0, .int .u32 0, .int .u32 0, .slice none 0 0, .int .u16 0, .int .u16 0, .int .u32 0, .int .u32 0, .int .u8 0, .int .u16 0, .int .u16 0, .slice none 0 0, .slice none 0 0, .int .u16 0, .int .u16 0, .slice none 0 0, .int .u8 0, .int .u8 0, .int .u32 0, .slice none 0 0] 35) = w0 := ⟨_, rfl⟩
  have hb0 : Below w.heap.size w w0 := by rw [← ew]; exact (Below.refl _ _).alloc (Nat.le_refl _) _
  have hk0 : w0.heap[z]? = some (.cells #[.int .u8 0, .int .u16 0, .bool false, .int .u8 0, .int .u8 0, .int .u32 0, .int .u32 0, .slice none 0 0, .int .u16 0, .int .u16 0, .int .u32 0, .int .u32 0, .int .u8 0, .int .u16 0, .int .u16 0, .slice none 0 0, .slice none 0 0, .int .u16 0, .int .u16 0, .slice none 0 0, .int .u8 0, .int .u8 0, .int .u32 0, .slice none 0 0] 35 (0, 0)) := by rw [← ew, ← hz]; exact heap_alloc_new w _
  have HA := Lib.hid (hA.below hb0)
  have HK0 := Lib.hid hk0
  have Hb0 := Lib.hid hb0
  have Ew := Lib.hid ew
  have Hz := Lib.hid hz
  have Hc := Lib.hid hc
  have Hn := Lib.hid hn
  clear hz ew hb0 hk0 hA hc hn
  go_enter Tryz.func6, Tryz.ntmps6
  go_upto_region 1 with (fail)
  rw [Ew.out]
  try rw [Hz.out]
  go_wp2_with fail
  have Hgot := Lib.hid (ipparse_got A n c nH nP b P H w0 Hc.out Hn.out HA.out Hx.out HH.out HP.out HnH.out HnP.out)
  refine Hgot.out.mono ?_
  rintro e w1 ⟨AH, cH, AP, cP, rfl, hoh, hop, hb1⟩
  obtain ⟨w2, ew2⟩ : ∃ v, w1.alloc (.cells #[.int .u8 H.to, .int .u16 H.id, .bool H.df, .int .u8 H.tt, .int .u8 H.pr, .int .u32 H.sr, .int .u32 H.ds, .slice AH nH cH] 26) = v := ⟨_, rfl⟩
  have hb2 : Below w1.heap.size w1 w2 := by rw [← ew2]; exact (Below.refl _ _).alloc (Nat.le_refl _) _
  have hk2 : w2.heap[w1.heap.size]? = some (.cells #[.int .u8 H.to, .int .u16 H.id, .bool H.df, .int .u8 H.tt, .int .u8 H.pr, .int .u32 H.sr, .int .u32 H.ds, .slice AH nH cH] 26 (0, 0)) := by rw [← ew2]; exact heap_alloc_new w1 _
  obtain ⟨w3, ew3⟩ : ∃ v, w2.alloc (.cells #[.int .u8 H.to, .int .u16 H.id, .bool H.df, .int .u8 H.tt, .int .u8 H.pr, .int .u32 H.sr, .int .u32 H.ds, .slice AH nH cH, .int .u16 0, .int .u16 0, .int .u32 0, .int .u32 0, .int .u8 0, .int .u16 0, .int .u16 0, .slice none 0 0, .slice none 0 0, .int .u16 0, .int .u16 0, .slice none 0 0, .int .u8 0, .int .u8 0, .int .u32 0, .slice none 0 0] 35) = v := ⟨_, rfl⟩
  have hb3 : Below w2.heap.size w2 w3 := by rw [← ew3]; exact (Below.refl _ _).alloc (Nat.le_refl _) _
  have hk3 : w3.heap[w2.heap.size]? = some (.cells #[.int .u8 H.to, .int .u16 H.id, .bool H.df, .int .u8 H.tt, .int .u8 H.pr, .int .u32 H.sr, .int .u32 H.ds, .slice AH nH cH, .int .u16 0, .int .u16 0, .int .u32 0, .int .u32 0, .int .u8 0, .int .u16 0, .int .u16 0, .slice none 0 0, .slice none 0 0, .int .u16 0, .int .u16 0, .slice none 0 0, .int .u8 0, .int .u8 0, .int .u32 0, .slice none 0 0] 35 (0, 0)) := by rw [← ew3]; exact heap_alloc_new w2 _
  have hs2 : w2.heap.size = w1.heap.size + 1 := by rw [← ew2]; simp
  have hs3 : w3.heap.size = w2.heap.size + 1 := by rw [← ew3]; simp
  have Hs := Lib.hid (And.intro hs2 hs3)
  have HK2 := Lib.hid (blk_on hk2 hb3)
  have HK3 := Lib.hid hk3
  have HZ3 := Lib.hid (blk_on HK0.out (below_trans (below_trans hb1 hb2) hb3))
  have HB3 := Lib.hid (below_trans Hb0.out (below_trans (below_trans hb1 hb2) hb3))
  have Hz1 := Lib.hid (show z + 1 ≤ w1.heap.size by have := hb1.size; have h2 := Hb0.out; rw [← Ew.out] at this; simp at this; have := Hz.out; omega)
  have HOh := Lib.hid (((hoh.mono (Nat.zero_le _)).on hb2).on hb3)
  have HOp := Lib.hid (((hop.mono (Nat.zero_le _)).on hb2).on hb3)
  have HOl := Lib.hid (((hoh.on hb2).on hb3).mono (B' := w0.heap.size) (Nat.le_refl _))
  have hat0 := fun k (e : AH = some ⟨k, 0, none⟩) => (show k < w1.heap.size by subst e; exact (World.ownsRow.lt hoh k rfl).2)
  have Hat := Lib.hid hat0
  have Hk2 := Lib.hid (cells8 hk2)
  have Ew2 := Lib.hid ew2
  have Ew3 := Lib.hid ew3
  clear hoh hop hb1 hb2 hb3 hk2 hk3 ew2 ew3 hs2 hs3 hat0
  go_upto_region 4 with (fail)
  rw [Ew2.out]
  obtain ⟨y0, y1, y2, y3, y4, y5, y6, y7⟩ := Hk2.out
  go_upto_region 5 with (refine wp_store_new 35 (.tmp 7) (.tmp 22) rfl rfl w2 _ _ rfl rfl (by kernel_rfl) rfl (by simp [Value.oneCell']) ?_)
  clear y0 y1 y2 y3 y4 y5 y6 y7 Hk2
  rw [Ew3.out]
  have HS := Lib.hid (show ∀ w', Below w3.heap.size w3 w' → w'.cell? ⟨w1.heap.size, 4, none⟩ = some (.int .u8 H.pr) from fun w' hb => (cells8 (blk_on HK2.out hb)).2.2.2.2.1)
  have HBd := Lib.hid (Below.drew (Below.refl w3.heap.size w3))
  refine wp_region_held_drew (S := fun w' => w'.cell? ⟨w1.heap.size, 4, none⟩ = some (.int .u8 H.pr)) (by kernel_rfl) (HS.out _ HBd.out) (fun hHeld => ?_)
  obtain ⟨wd, ewd⟩ : ∃ wd, w3.drew = wd := ⟨_, rfl⟩
  rw [ewd] at HBd hHeld ⊢
  clear ewd
  refine tk 0 ?_ rfl ?_ ?_
  rotate_left
  · intro w' hSw; (go_simp <;> (with_reducible rfl))
  try simp only [Act.put, putL]
  refine tk 2 ?_ rfl ?_ ?_
  rotate_left
  · intro w' hSw; (go_simp <;> (with_reducible rfl))
  try simp only [Act.put, putL]
  refine tk 3 ?_ rfl ?_ ?_
  rotate_left
  · intro w' hSw; (go_simp <;> (with_reducible rfl))
  try simp only [Act.put, putL]
  refine tkC 1 rfl (fun K hK => ?_)
  go_simp
  (refine (readings_any w2.heap.size H.sr H.ds AP nP cP _ (by have := HBd.out.size; have := Hs.out; omega) (cells24 (blk_on HK3.out HBd.out)).2.2.2.2.2.1 (cells24 (blk_on HK3.out HBd.out)).2.2.2.2.2.2.1).mono ?_; rintro e w4 ⟨g, q, r, y, x, rfl, hg, hP, hb4⟩; have HG := Lib.hid hg; have HPA := Lib.hid hP; have HB4 := Lib.hid (below_trans HBd.out hb4); clear hg hP hb4)
  refine hK.out _ _ ?_ (fun hHeld => ?_)
  · exact HS.out _ HB4.out
  clear hK K
  try simp only [Act.put, putL]
  obtain ⟨f, ef⟩ : ∃ f, atP (readF6 q r y x) (readF17 q r y x) (readF1 y x) H.pr = f := ⟨_, rfl⟩
  refine anyH_mono (S' := fun w' => w'.cell? ⟨w1.heap.size, 4, none⟩ = some (.int .u8 H.pr) ∧ w'.heap[g]? = some (threeO (readF6 q r y x) (readF17 q r y x) (readF1 y x))) (fun _ h => h.1) _ _ _ _ ?_
  have hHeld := And.intro hHeld HG.out
  have hlook := fun (W : World) (h : W.heap[g]? = some (threeO (readF6 q r y x) (readF17 q r y x) (readF1 y x))) => look3_reading W g _ _ _ H.pr f _ h ef Hk.out
  have Ef := Lib.hid ef
  clear ef
  refine tk 4 ?_ rfl ?_ ?_
  rotate_left
  · intro w' hSw; (go_simp <;> (with_reducible rfl))
  try simp only [Act.put, putL]
  refine tk 5 ?_ rfl ?_ ?_
  rotate_left
  · intro w' hSw; (go_simp <;> (with_reducible rfl))
  try simp only [Act.put, putL]
  refine tk 6 ?_ rfl ?_ ?_
  rotate_left
  · intro w' hSw; (go_simp <;> (with_reducible rfl))
  try simp only [Act.put, putL]
  refine tk 7 ?_ rfl ?_ ?_
  rotate_left
  · intro w' hSw; (go_simp <;> (with_reducible rfl))
  try simp only [Act.put, putL]
  refine tk 8 ?_ rfl ?_ ?_
  rotate_left
  · intro w' hSw; (go_simp <;> (with_reducible rfl))
  try simp only [Act.put, putL]
  refine tk 9 ?_ rfl ?_ ?_
  rotate_left
  · intro w' hSw; (go_simp <;> (with_reducible rfl))
  try simp only [Act.put, putL]
  refine wpAnyH_done (by kernel_rfl) ?_ _
  clear hHeld hlook
  obtain rfl : f = .func (.func 40) #[] #[.pointer (some ⟨q, 0, none⟩), .pointer (some ⟨r, 0, none⟩), .pointer (some ⟨y, 0, none⟩), .pointer (some ⟨x, 0, none⟩)] := by rw [← Ef.out, H6.out]; rfl
  clear Ef
  have Hby := Lib.hid (show ∀ x ∈ P, 0 ≤ x ∧ x < 256 by rw [← HP.out]; exact fun x hx => HA.out.byte x (List.mem_of_mem_drop hx))
  have Hop4 := Lib.hid (HOp.out.on HB4.out)
  have hne : z ≠ w2.heap.size := by have := Hz1.out; have := Hs.out.1; omega
  have hwz : w.heap.size ≤ w2.heap.size := by have := Hz1.out; have := Hs.out.1; have := Hz.out; omega
  have hap : w2.heap.size < wd.heap.size := by have := HBd.out.size; have := Hs.out; omega
  have Hne := Lib.hid (And.intro hne (And.intro hwz hap))
  clear hne hwz hap
  go_wp2_with fail
  refine (read_good_6 w2.heap.size H.sr H.ds AP nP cP q r y x wd.heap.size nD _ P S (.int .u8 H.to) (.int .u16 H.id) (.bool H.df) (.int .u8 H.tt) (.int .u8 H.pr) (.int .u32 H.sr) (.int .u32 H.ds) (.slice AH nH cH) (.int .u16 0) (.int .u16 0) (.int .u32 0) (.int .u32 0) (.int .u8 0) (.int .u16 0) (.int .u16 0) (.slice none 0 0) (.slice none 0 0) (.int .u16 0) (.int .u16 0) (.slice none 0 0) (.int .u8 0) (.int .u8 0) (.int .u32 0) (.slice none 0 0) (blk_on HK3.out HB4.out) HPA.out Hne.out.2.2 ⟨Hop4.out.cap, Hop4.out.capMax⟩ (Hop4.out.rd Hby.out) He.out HS_.out HnD.out).mono ?_
  rintro e w5 ⟨AO, nO, cO, os, AD, cD, rfl, hk5, hsr, hnO, ho, hl, hd, hb5⟩
  have HK5 := Lib.hid hk5
  have HZ5 := Lib.hid (hb5.blk (blk_on HZ3.out HB4.out) Hne.out.1)
  have HB5 := Lib.hid ((HB3.out.trans (HB4.out.mono HB3.out.size)).trans (hb5.below (B := w.heap.size) (fun k hk => by have := Hne.out.2.1; omega) ((HB3.out.trans (HB4.out.mono HB3.out.size)).size)))
  have HOl5 := Lib.hid (ownB_butA (HOl.out.on HB4.out) hb5 (fun k hk e => by have := Hat.out k hk; have := Hs.out; omega))
  have Hz4 := Lib.hid (show z < w4.heap.size by have h1 := Hz1.out; have h2 := Hs.out; have h3 := HBd.out.size; have h4 := HB4.out.size; omega)
  have Hsr := Lib.hid hsr; have HnO := Lib.hid hnO; have Ho := Lib.hid ho; have Hl := Lib.hid hl; have Hd := Lib.hid hd; clear hsr hnO ho hl hd
  have Hw4 := Lib.hid (show w.heap.size ≤ w4.heap.size by have := Hz4.out; have := Hz.out; omega)
  have Hw0 := Lib.hid Hb0.out.size
  clear hk5 hb5
  go_upto_region 11 with (fail)
  repeat (first | (refine wp_load_row 35 (.tmp 7) rfl w2.heap.size _ _ _ _ HK5.out rfl Tryz.underlying35 rfl (by kernel_rfl) ?_; simp only [Act.put, List.setIfInBounds_toArray, List.set_cons_zero, List.set_cons_succ]) | (refine wp_store_row 35 (.tmp 2) (.tmp 40) rfl z _ rfl rfl 35 _ HZ5.out (by kernel_rfl) rfl (by simp [Value.oneCell']) ?_; simp only [Act.put, List.setIfInBounds_toArray, List.set_cons_zero, List.set_cons_succ]) | go_values | go_skip | go_guarded | go_step | go_upon | go_back)
  refine bodyPost_ret (results_row_tmp rfl _ _ z _ _ _ _ _ rfl rfl (setRow_heap _ _ _ _ _ _ HZ5.out) Tryz.underlying35 rfl (by kernel_rfl)) rfl ⟨⟨AH, nH, cH, AO, nO, cO, os, AD, nD, cD, none, 0, 0, none, 0, 0⟩, rfl, ?_, HnO.out, ⟨HOl5.out.off.sub (fun g hg => by have := Hw0.out; omega), Ho.out.off.sub (fun g hg => by have := Hw4.out; omega), fun v hv => (Hl.out.off v hv).sub (fun g hg => by have := Hw4.out; omega), Hd.out.off.sub (fun g hg => by have := Hw4.out; omega), offR.zero _ _, offR.zero _ _⟩, below_setRow HB5.out (by rw [Hz.out]; exact Nat.le_refl _) _⟩
  refine (show ∀ cs, PkRd (w5.setRow z cs) _ _ from fun cs => ?_) _
  have hset : ∀ cs, But (fun g => g = z) w5 (w5.setRow z cs) := fun cs => ⟨rfl, rfl, rfl, by simp, fun k _ hn => setRow_other _ _ _ _ hn⟩
  have hw0 : w0.heap.size = z + 1 := by rw [← Ew.out, ← Hz.out]; simp
  have hz4 := Hz4.out
  have hH5 := HOl5.out.but (hset cs) (fun k hk e => by omega)
  exact ⟨HH_.out, ⟨hH5.cap, hH5.capMax⟩, hH5.rd HHo.out, own_seg Hsr.out.num (Ho.out.but (hset cs) (fun k hk e => by have := (World.ownsRow.lt Ho.out k (by rw [hk]; rfl)).1; omega)) (Hl.out.but (hset cs) (fun n c l k h2 e => by have := h2.at_ rfl; omega)) (Hd.out.but (hset cs) (fun k hk e => by omega)) Hsr.out.d.byte, zeroDg_num, ⟨Nat.le_refl _, by simp [maxLen]⟩, Rd.nil _ _, zeroM_num, ⟨Nat.le_refl _, by simp [maxLen]⟩, Rd.nil _ _⟩
theorem dgOf_num {b : List Int} (hb : ∀ x ∈ b, 0 ≤ x ∧ x < 256) : DgNum (dgOf b) ∧ (∀ x ∈ (dgOf b).d, 0 ≤ x ∧ x < 256) := by
  have g := fun i => getD_mem b hb i
  have := g 0; have := g 1; have := g 2; have := g 3
  exact ⟨⟨by simp only [dgOf, n16, Nat.zero_add, Nat.reduceAdd]; omega, by simp only [dgOf, n16, Nat.zero_add, Nat.reduceAdd]; omega⟩, fun x hx => hb x (List.mem_of_mem_drop hx)⟩
theorem errM_eight {b : List Int} (h : errM b = 0) : 8 ≤ b.length := by
  unfold errM at h
  by_cases h1 : 1480 < b.length
  · omega
  · rw [if_neg h1] at h
    by_cases h2 : b.length < 8
    · rw [if_pos h2] at h; exact absurd h (by decide)
    · omega
set_option maxHeartbeats 2000000 in
theorem parse9_good_17 (A : Option Addr) (n c nH nP nD : Nat) (b P : List Int) (H : Hd) (S : Dg) (w : World) (hc : n ≤ c ∧ c ≤ maxLen) (hn : n ≤ 140737488355328) (hA : Rd w A n b) (hx : errIp b = 0) (hH : hdOf b = H) (hP : restOf b = P) (hnH : H.o.length = nH) (hnP : P.length = nP) (h6 : H.pr = 17) (he : errU H.sr H.ds P = 0) (hS : dgOf P = S) (hnD : S.d.length = nD) :
    Calls Tryz.prog 6 #[.slice A n c] w (PkGood ⟨H, zeroSeg, S, zeroM⟩ w) := by
  have Hx := Lib.hid hx
  have HH := Lib.hid hH
  have HP := Lib.hid hP
  have HnH := Lib.hid hnH
  have HnP := Lib.hid hnP
  have H6 := Lib.hid h6
  have He := Lib.hid he
  have HS_ := Lib.hid hS
  have HnD := Lib.hid hnD
  have HH_ := Lib.hid (show HdNum H by rw [← hH]; exact hdOf_num hA.byte)
  have HHo := Lib.hid (show ∀ x ∈ H.o, 0 ≤ x ∧ x < 256 by rw [← hH]; exact fun x hx => hA.byte x (List.mem_of_mem_drop (List.mem_of_mem_take hx)))
  have Hk := Lib.hid (show knownP H.pr = true by rw [h6]; rfl)
  clear hx hH hP hnH hnP h6 he hS hnD
  obtain ⟨z, hz⟩ : ∃ z, w.heap.size = z := ⟨_, rfl⟩
  obtain ⟨w0, ew⟩ : ∃ w0, w.alloc (.cells #[.int .u8 0, .int .u16 0, .bool false, .int .u8 0, .int .u8 0, .int .u32 0, .int .u32 0, .slice none 0 0, .int .u16 0, .int .u16 0, .int .u32 0, .int .u32 0, .int .u8 0, .int .u16 0, .int .u16 0, .slice none 0 0, .slice none 0 0, .int .u16 0, .int .u16 0, .slice none 0 0, .int .u8 0, .int .u8 0, .int .u32 0, .slice none 0 0] 35) = w0 := ⟨_, rfl⟩
  have hb0 : Below w.heap.size w w0 := by rw [← ew]; exact (Below.refl _ _).alloc (Nat.le_refl _) _
  have hk0 : w0.heap[z]? = some (.cells #[.int .u8 0, .int .u16 0, .bool false, .int .u8 0, .int .u8 0, .int .u32 0, .int .u32 0, .slice none 0 0, .int .u16 0, .int .u16 0, .int .u32 0, .int .u32 0, .int .u8 0, .int .u16 0, .int .u16 0, .slice none 0 0, .slice none 0 0, .int .u16 0, .int .u16 0, .slice none 0 0, .int .u8 0, .int .u8 0, .int .u32 0, .slice none 0 0] 35 (0, 0)) := by rw [← ew, ← hz]; exact heap_alloc_new w _
  have HA := Lib.hid (hA.below hb0)
  have HK0 := Lib.hid hk0
  have Hb0 := Lib.hid hb0
  have Ew := Lib.hid ew
  have Hz := Lib.hid hz
  have Hc := Lib.hid hc
  have Hn := Lib.hid hn
  clear hz ew hb0 hk0 hA hc hn
  go_enter Tryz.func6, Tryz.ntmps6
  go_upto_region 1 with (fail)
  rw [Ew.out]
  try rw [Hz.out]
  go_wp2_with fail
  have Hgot := Lib.hid (ipparse_got A n c nH nP b P H w0 Hc.out Hn.out HA.out Hx.out HH.out HP.out HnH.out HnP.out)
  refine Hgot.out.mono ?_
  rintro e w1 ⟨AH, cH, AP, cP, rfl, hoh, hop, hb1⟩
  obtain ⟨w2, ew2⟩ : ∃ v, w1.alloc (.cells #[.int .u8 H.to, .int .u16 H.id, .bool H.df, .int .u8 H.tt, .int .u8 H.pr, .int .u32 H.sr, .int .u32 H.ds, .slice AH nH cH] 26) = v := ⟨_, rfl⟩
  have hb2 : Below w1.heap.size w1 w2 := by rw [← ew2]; exact (Below.refl _ _).alloc (Nat.le_refl _) _
  have hk2 : w2.heap[w1.heap.size]? = some (.cells #[.int .u8 H.to, .int .u16 H.id, .bool H.df, .int .u8 H.tt, .int .u8 H.pr, .int .u32 H.sr, .int .u32 H.ds, .slice AH nH cH] 26 (0, 0)) := by rw [← ew2]; exact heap_alloc_new w1 _
  obtain ⟨w3, ew3⟩ : ∃ v, w2.alloc (.cells #[.int .u8 H.to, .int .u16 H.id, .bool H.df, .int .u8 H.tt, .int .u8 H.pr, .int .u32 H.sr, .int .u32 H.ds, .slice AH nH cH, .int .u16 0, .int .u16 0, .int .u32 0, .int .u32 0, .int .u8 0, .int .u16 0, .int .u16 0, .slice none 0 0, .slice none 0 0, .int .u16 0, .int .u16 0, .slice none 0 0, .int .u8 0, .int .u8 0, .int .u32 0, .slice none 0 0] 35) = v := ⟨_, rfl⟩
  have hb3 : Below w2.heap.size w2 w3 := by rw [← ew3]; exact (Below.refl _ _).alloc (Nat.le_refl _) _
  have hk3 : w3.heap[w2.heap.size]? = some (.cells #[.int .u8 H.to, .int .u16 H.id, .bool H.df, .int .u8 H.tt, .int .u8 H.pr, .int .u32 H.sr, .int .u32 H.ds, .slice AH nH cH, .int .u16 0, .int .u16 0, .int .u32 0, .int .u32 0, .int .u8 0, .int .u16 0, .int .u16 0, .slice none 0 0, .slice none 0 0, .int .u16 0, .int .u16 0, .slice none 0 0, .int .u8 0, .int .u8 0, .int .u32 0, .slice none 0 0] 35 (0, 0)) := by rw [← ew3]; exact heap_alloc_new w2 _
  have hs2 : w2.heap.size = w1.heap.size + 1 := by rw [← ew2]; simp
  have hs3 : w3.heap.size = w2.heap.size + 1 := by rw [← ew3]; simp
  have Hs := Lib.hid (And.intro hs2 hs3)
  have HK2 := Lib.hid (blk_on hk2 hb3)
  have HK3 := Lib.hid hk3
  have HZ3 := Lib.hid (blk_on HK0.out (below_trans (below_trans hb1 hb2) hb3))
  have HB3 := Lib.hid (below_trans Hb0.out (below_trans (below_trans hb1 hb2) hb3))
  have Hz1 := Lib.hid (show z + 1 ≤ w1.heap.size by have := hb1.size; have h2 := Hb0.out; rw [← Ew.out] at this; simp at this; have := Hz.out; omega)
  have HOh := Lib.hid (((hoh.mono (Nat.zero_le _)).on hb2).on hb3)
  have HOp := Lib.hid (((hop.mono (Nat.zero_le _)).on hb2).on hb3)
  have HOl := Lib.hid (((hoh.on hb2).on hb3).mono (B' := w0.heap.size) (Nat.le_refl _))
  have hat0 := fun k (e : AH = some ⟨k, 0, none⟩) => (show k < w1.heap.size by subst e; exact (World.ownsRow.lt hoh k rfl).2)
  have Hat := Lib.hid hat0
  have Hk2 := Lib.hid (cells8 hk2)
  have Ew2 := Lib.hid ew2
  have Ew3 := Lib.hid ew3
  clear hoh hop hb1 hb2 hb3 hk2 hk3 ew2 ew3 hs2 hs3 hat0
  go_upto_region 4 with (fail)
  rw [Ew2.out]
  obtain ⟨y0, y1, y2, y3, y4, y5, y6, y7⟩ := Hk2.out
  go_upto_region 5 with (refine wp_store_new 35 (.tmp 7) (.tmp 22) rfl rfl w2 _ _ rfl rfl (by kernel_rfl) rfl (by simp [Value.oneCell']) ?_)
  clear y0 y1 y2 y3 y4 y5 y6 y7 Hk2
  rw [Ew3.out]
  have HS := Lib.hid (show ∀ w', Below w3.heap.size w3 w' → w'.cell? ⟨w1.heap.size, 4, none⟩ = some (.int .u8 H.pr) from fun w' hb => (cells8 (blk_on HK2.out hb)).2.2.2.2.1)
  have HBd := Lib.hid (Below.drew (Below.refl w3.heap.size w3))
  refine wp_region_held_drew (S := fun w' => w'.cell? ⟨w1.heap.size, 4, none⟩ = some (.int .u8 H.pr)) (by kernel_rfl) (HS.out _ HBd.out) (fun hHeld => ?_)
  obtain ⟨wd, ewd⟩ : ∃ wd, w3.drew = wd := ⟨_, rfl⟩
  rw [ewd] at HBd hHeld ⊢
  clear ewd
  refine tk 0 ?_ rfl ?_ ?_
  rotate_left
  · intro w' hSw; (go_simp <;> (with_reducible rfl))
  try simp only [Act.put, putL]
  refine tk 2 ?_ rfl ?_ ?_
  rotate_left
  · intro w' hSw; (go_simp <;> (with_reducible rfl))
  try simp only [Act.put, putL]
  refine tk 3 ?_ rfl ?_ ?_
  rotate_left
  · intro w' hSw; (go_simp <;> (with_reducible rfl))
  try simp only [Act.put, putL]
  refine tkC 1 rfl (fun K hK => ?_)
  go_simp
  (refine (readings_any w2.heap.size H.sr H.ds AP nP cP _ (by have := HBd.out.size; have := Hs.out; omega) (cells24 (blk_on HK3.out HBd.out)).2.2.2.2.2.1 (cells24 (blk_on HK3.out HBd.out)).2.2.2.2.2.2.1).mono ?_; rintro e w4 ⟨g, q, r, y, x, rfl, hg, hP, hb4⟩; have HG := Lib.hid hg; have HPA := Lib.hid hP; have HB4 := Lib.hid (below_trans HBd.out hb4); clear hg hP hb4)
  refine hK.out _ _ ?_ (fun hHeld => ?_)
  · exact HS.out _ HB4.out
  clear hK K
  try simp only [Act.put, putL]
  obtain ⟨f, ef⟩ : ∃ f, atP (readF6 q r y x) (readF17 q r y x) (readF1 y x) H.pr = f := ⟨_, rfl⟩
  refine anyH_mono (S' := fun w' => w'.cell? ⟨w1.heap.size, 4, none⟩ = some (.int .u8 H.pr) ∧ w'.heap[g]? = some (threeO (readF6 q r y x) (readF17 q r y x) (readF1 y x))) (fun _ h => h.1) _ _ _ _ ?_
  have hHeld := And.intro hHeld HG.out
  have hlook := fun (W : World) (h : W.heap[g]? = some (threeO (readF6 q r y x) (readF17 q r y x) (readF1 y x))) => look3_reading W g _ _ _ H.pr f _ h ef Hk.out
  have Ef := Lib.hid ef
  clear ef
  refine tk 4 ?_ rfl ?_ ?_
  rotate_left
  · intro w' hSw; (go_simp <;> (with_reducible rfl))
  try simp only [Act.put, putL]
  refine tk 5 ?_ rfl ?_ ?_
  rotate_left
  · intro w' hSw; (go_simp <;> (with_reducible rfl))
  try simp only [Act.put, putL]
  refine tk 6 ?_ rfl ?_ ?_
  rotate_left
  · intro w' hSw; (go_simp <;> (with_reducible rfl))
  try simp only [Act.put, putL]
  refine tk 7 ?_ rfl ?_ ?_
  rotate_left
  · intro w' hSw; (go_simp <;> (with_reducible rfl))
  try simp only [Act.put, putL]
  refine tk 8 ?_ rfl ?_ ?_
  rotate_left
  · intro w' hSw; (go_simp <;> (with_reducible rfl))
  try simp only [Act.put, putL]
  refine tk 9 ?_ rfl ?_ ?_
  rotate_left
  · intro w' hSw; (go_simp <;> (with_reducible rfl))
  try simp only [Act.put, putL]
  refine wpAnyH_done (by kernel_rfl) ?_ _
  clear hHeld hlook
  obtain rfl : f = .func (.func 42) #[] #[.pointer (some ⟨q, 0, none⟩), .pointer (some ⟨r, 0, none⟩), .pointer (some ⟨y, 0, none⟩), .pointer (some ⟨x, 0, none⟩)] := by rw [← Ef.out, H6.out]; rfl
  clear Ef
  have Hby := Lib.hid (show ∀ x ∈ P, 0 ≤ x ∧ x < 256 by rw [← HP.out]; exact fun x hx => HA.out.byte x (List.mem_of_mem_drop hx))
  have Hop4 := Lib.hid (HOp.out.on HB4.out)
  have hne : z ≠ w2.heap.size := by have := Hz1.out; have := Hs.out.1; omega
  have hwz : w.heap.size ≤ w2.heap.size := by have := Hz1.out; have := Hs.out.1; have := Hz.out; omega
  have hap : w2.heap.size < wd.heap.size := by have := HBd.out.size; have := Hs.out; omega
  have Hne := Lib.hid (And.intro hne (And.intro hwz hap))
  clear hne hwz hap
  go_wp2_with fail
  refine (read_good_17 w2.heap.size H.sr H.ds AP nP cP q r y x wd.heap.size nD _ P S (.int .u8 H.to) (.int .u16 H.id) (.bool H.df) (.int .u8 H.tt) (.int .u8 H.pr) (.int .u32 H.sr) (.int .u32 H.ds) (.slice AH nH cH) (.int .u16 0) (.int .u16 0) (.int .u32 0) (.int .u32 0) (.int .u8 0) (.int .u16 0) (.int .u16 0) (.slice none 0 0) (.slice none 0 0) (.int .u16 0) (.int .u16 0) (.slice none 0 0) (.int .u8 0) (.int .u8 0) (.int .u32 0) (.slice none 0 0) (blk_on HK3.out HB4.out) HPA.out Hne.out.2.2 ⟨Hop4.out.cap, Hop4.out.capMax⟩ (Hop4.out.rd Hby.out) He.out HS_.out HnD.out).mono ?_
  rintro e w5 ⟨AD, cD, rfl, hk5, hd, hb5⟩
  have HK5 := Lib.hid hk5
  have HZ5 := Lib.hid (hb5.blk (blk_on HZ3.out HB4.out) Hne.out.1)
  have HB5 := Lib.hid ((HB3.out.trans (HB4.out.mono HB3.out.size)).trans (hb5.below (B := w.heap.size) (fun k hk => by have := Hne.out.2.1; omega) ((HB3.out.trans (HB4.out.mono HB3.out.size)).size)))
  have HOl5 := Lib.hid (ownB_butA (HOl.out.on HB4.out) hb5 (fun k hk e => by have := Hat.out k hk; have := Hs.out; omega))
  have Hz4 := Lib.hid (show z < w4.heap.size by have h1 := Hz1.out; have h2 := Hs.out; have h3 := HBd.out.size; have h4 := HB4.out.size; omega)
  have Hd := Lib.hid hd; have Hdn := Lib.hid (show DgNum S ∧ (∀ x ∈ S.d, 0 ≤ x ∧ x < 256) by rw [← HS_.out]; exact dgOf_num Hby.out); clear hd
  have Hw4 := Lib.hid (show w.heap.size ≤ w4.heap.size by have := Hz4.out; have := Hz.out; omega)
  have Hw0 := Lib.hid Hb0.out.size
  clear hk5 hb5
  go_upto_region 11 with (fail)
  repeat (first | (refine wp_load_row 35 (.tmp 7) rfl w2.heap.size _ _ _ _ HK5.out rfl Tryz.underlying35 rfl (by kernel_rfl) ?_; simp only [Act.put, List.setIfInBounds_toArray, List.set_cons_zero, List.set_cons_succ]) | (refine wp_store_row 35 (.tmp 2) (.tmp 40) rfl z _ rfl rfl 35 _ HZ5.out (by kernel_rfl) rfl (by simp [Value.oneCell']) ?_; simp only [Act.put, List.setIfInBounds_toArray, List.set_cons_zero, List.set_cons_succ]) | go_values | go_skip | go_guarded | go_step | go_upon | go_back)
  refine bodyPost_ret (results_row_tmp rfl _ _ z _ _ _ _ _ rfl rfl (setRow_heap _ _ _ _ _ _ HZ5.out) Tryz.underlying35 rfl (by kernel_rfl)) rfl ⟨⟨AH, nH, cH, none, 0, 0, [], none, 0, 0, AD, nD, cD, none, 0, 0⟩, rfl, ?_, Nat.zero_le _, ⟨HOl5.out.off.sub (fun g hg => by have := Hw0.out; omega), offR.zero _ _, fun v hv => (by cases hv), offR.zero _ _, Hd.out.off.sub (fun g hg => by have := Hw4.out; omega), offR.zero _ _⟩, below_setRow HB5.out (by rw [Hz.out]; exact Nat.le_refl _) _⟩
  refine (show ∀ cs, PkRd (w5.setRow z cs) _ _ from fun cs => ?_) _
  have hset : ∀ cs, But (fun g => g = z) w5 (w5.setRow z cs) := fun cs => ⟨rfl, rfl, rfl, by simp, fun k _ hn => setRow_other _ _ _ _ hn⟩
  have hw0 : w0.heap.size = z + 1 := by rw [← Ew.out, ← Hz.out]; simp
  have hz4 := Hz4.out
  have hH5 := HOl5.out.but (hset cs) (fun k hk e => by omega)
  (have hD5 := Hd.out.but (hset cs) (fun k hk e => by omega); exact ⟨HH_.out, ⟨hH5.cap, hH5.capMax⟩, hH5.rd HHo.out, zero_rd _, Hdn.out.1, ⟨hD5.cap, hD5.capMax⟩, hD5.rd Hdn.out.2, zeroM_num, ⟨Nat.le_refl _, by simp [maxLen]⟩, Rd.nil _ _⟩)
set_option maxHeartbeats 2000000 in
theorem parse9_good_1 (A : Option Addr) (n c nH nP nD : Nat) (b P : List Int) (H : Hd) (S : Msg) (w : World) (hc : n ≤ c ∧ c ≤ maxLen) (hn : n ≤ 140737488355328) (hA : Rd w A n b) (hx : errIp b = 0) (hH : hdOf b = H) (hP : restOf b = P) (hnH : H.o.length = nH) (hnP : P.length = nP) (h6 : H.pr = 1) (he : errM P = 0) (hS : msgOf P = S) (hnD : S.d.length = nD) :
    Calls Tryz.prog 6 #[.slice A n c] w (PkGood ⟨H, zeroSeg, zeroDg, S⟩ w) := by
  have Hx := Lib.hid hx
  have HH := Lib.hid hH
  have HP := Lib.hid hP
  have HnH := Lib.hid hnH
  have HnP := Lib.hid hnP
  have H6 := Lib.hid h6
  have He := Lib.hid he
  have HS_ := Lib.hid hS
  have HnD := Lib.hid hnD
  have HH_ := Lib.hid (show HdNum H by rw [← hH]; exact hdOf_num hA.byte)
  have HHo := Lib.hid (show ∀ x ∈ H.o, 0 ≤ x ∧ x < 256 by rw [← hH]; exact fun x hx => hA.byte x (List.mem_of_mem_drop (List.mem_of_mem_take hx)))
  have Hk := Lib.hid (show knownP H.pr = true by rw [h6]; rfl)
  clear hx hH hP hnH hnP h6 he hS hnD
  obtain ⟨z, hz⟩ : ∃ z, w.heap.size = z := ⟨_, rfl⟩
  obtain ⟨w0, ew⟩ : ∃ w0, w.alloc (.cells #[.int .u8 0, .int .u16 0, .bool false, .int .u8 0, .int .u8 0, .int .u32 0, .int .u32 0, .slice none 0 0, .int .u16 0, .int .u16 0, .int .u32 0, .int .u32 0, .int .u8 0, .int .u16 0, .int .u16 0, .slice none 0 0, .slice none 0 0, .int .u16 0, .int .u16 0, .slice none 0 0, .int .u8 0, .int .u8 0, .int .u32 0, .slice none 0 0] 35) = w0 := ⟨_, rfl⟩
  have hb0 : Below w.heap.size w w0 := by rw [← ew]; exact (Below.refl _ _).alloc (Nat.le_refl _) _
  have hk0 : w0.heap[z]? = some (.cells #[.int .u8 0, .int .u16 0, .bool false, .int .u8 0, .int .u8 0, .int .u32 0, .int .u32 0, .slice none 0 0, .int .u16 0, .int .u16 0, .int .u32 0, .int .u32 0, .int .u8 0, .int .u16 0, .int .u16 0, .slice none 0 0, .slice none 0 0, .int .u16 0, .int .u16 0, .slice none 0 0, .int .u8 0, .int .u8 0, .int .u32 0, .slice none 0 0] 35 (0, 0)) := by rw [← ew, ← hz]; exact heap_alloc_new w _
  have HA := Lib.hid (hA.below hb0)
  have HK0 := Lib.hid hk0
  have Hb0 := Lib.hid hb0
  have Ew := Lib.hid ew
  have Hz := Lib.hid hz
  have Hc := Lib.hid hc
  have Hn := Lib.hid hn
  clear hz ew hb0 hk0 hA hc hn
  go_enter Tryz.func6, Tryz.ntmps6
  go_upto_region 1 with (fail)
  rw [Ew.out]
  try rw [Hz.out]
  go_wp2_with fail
  have Hgot := Lib.hid (ipparse_got A n c nH nP b P H w0 Hc.out Hn.out HA.out Hx.out HH.out HP.out HnH.out HnP.out)
  refine Hgot.out.mono ?_
  rintro e w1 ⟨AH, cH, AP, cP, rfl, hoh, hop, hb1⟩
  obtain ⟨w2, ew2⟩ : ∃ v, w1.alloc (.cells #[.int .u8 H.to, .int .u16 H.id, .bool H.df, .int .u8 H.tt, .int .u8 H.pr, .int .u32 H.sr, .int .u32 H.ds, .slice AH nH cH] 26) = v := ⟨_, rfl⟩
  have hb2 : Below w1.heap.size w1 w2 := by rw [← ew2]; exact (Below.refl _ _).alloc (Nat.le_refl _) _
  have hk2 : w2.heap[w1.heap.size]? = some (.cells #[.int .u8 H.to, .int .u16 H.id, .bool H.df, .int .u8 H.tt, .int .u8 H.pr, .int .u32 H.sr, .int .u32 H.ds, .slice AH nH cH] 26 (0, 0)) := by rw [← ew2]; exact heap_alloc_new w1 _
  obtain ⟨w3, ew3⟩ : ∃ v, w2.alloc (.cells #[.int .u8 H.to, .int .u16 H.id, .bool H.df, .int .u8 H.tt, .int .u8 H.pr, .int .u32 H.sr, .int .u32 H.ds, .slice AH nH cH, .int .u16 0, .int .u16 0, .int .u32 0, .int .u32 0, .int .u8 0, .int .u16 0, .int .u16 0, .slice none 0 0, .slice none 0 0, .int .u16 0, .int .u16 0, .slice none 0 0, .int .u8 0, .int .u8 0, .int .u32 0, .slice none 0 0] 35) = v := ⟨_, rfl⟩
  have hb3 : Below w2.heap.size w2 w3 := by rw [← ew3]; exact (Below.refl _ _).alloc (Nat.le_refl _) _
  have hk3 : w3.heap[w2.heap.size]? = some (.cells #[.int .u8 H.to, .int .u16 H.id, .bool H.df, .int .u8 H.tt, .int .u8 H.pr, .int .u32 H.sr, .int .u32 H.ds, .slice AH nH cH, .int .u16 0, .int .u16 0, .int .u32 0, .int .u32 0, .int .u8 0, .int .u16 0, .int .u16 0, .slice none 0 0, .slice none 0 0, .int .u16 0, .int .u16 0, .slice none 0 0, .int .u8 0, .int .u8 0, .int .u32 0, .slice none 0 0] 35 (0, 0)) := by rw [← ew3]; exact heap_alloc_new w2 _
  have hs2 : w2.heap.size = w1.heap.size + 1 := by rw [← ew2]; simp
  have hs3 : w3.heap.size = w2.heap.size + 1 := by rw [← ew3]; simp
  have Hs := Lib.hid (And.intro hs2 hs3)
  have HK2 := Lib.hid (blk_on hk2 hb3)
  have HK3 := Lib.hid hk3
  have HZ3 := Lib.hid (blk_on HK0.out (below_trans (below_trans hb1 hb2) hb3))
  have HB3 := Lib.hid (below_trans Hb0.out (below_trans (below_trans hb1 hb2) hb3))
  have Hz1 := Lib.hid (show z + 1 ≤ w1.heap.size by have := hb1.size; have h2 := Hb0.out; rw [← Ew.out] at this; simp at this; have := Hz.out; omega)
  have HOh := Lib.hid (((hoh.mono (Nat.zero_le _)).on hb2).on hb3)
  have HOp := Lib.hid (((hop.mono (Nat.zero_le _)).on hb2).on hb3)
  have HOl := Lib.hid (((hoh.on hb2).on hb3).mono (B' := w0.heap.size) (Nat.le_refl _))
  have hat0 := fun k (e : AH = some ⟨k, 0, none⟩) => (show k < w1.heap.size by subst e; exact (World.ownsRow.lt hoh k rfl).2)
  have Hat := Lib.hid hat0
  have Hk2 := Lib.hid (cells8 hk2)
  have Ew2 := Lib.hid ew2
  have Ew3 := Lib.hid ew3
  clear hoh hop hb1 hb2 hb3 hk2 hk3 ew2 ew3 hs2 hs3 hat0
  go_upto_region 4 with (fail)
  rw [Ew2.out]
  obtain ⟨y0, y1, y2, y3, y4, y5, y6, y7⟩ := Hk2.out
  go_upto_region 5 with (refine wp_store_new 35 (.tmp 7) (.tmp 22) rfl rfl w2 _ _ rfl rfl (by kernel_rfl) rfl (by simp [Value.oneCell']) ?_)
  clear y0 y1 y2 y3 y4 y5 y6 y7 Hk2
  rw [Ew3.out]
  have HS := Lib.hid (show ∀ w', Below w3.heap.size w3 w' → w'.cell? ⟨w1.heap.size, 4, none⟩ = some (.int .u8 H.pr) from fun w' hb => (cells8 (blk_on HK2.out hb)).2.2.2.2.1)
  have HBd := Lib.hid (Below.drew (Below.refl w3.heap.size w3))
  refine wp_region_held_drew (S := fun w' => w'.cell? ⟨w1.heap.size, 4, none⟩ = some (.int .u8 H.pr)) (by kernel_rfl) (HS.out _ HBd.out) (fun hHeld => ?_)
  obtain ⟨wd, ewd⟩ : ∃ wd, w3.drew = wd := ⟨_, rfl⟩
  rw [ewd] at HBd hHeld ⊢
  clear ewd
  refine tk 0 ?_ rfl ?_ ?_
  rotate_left
  · intro w' hSw; (go_simp <;> (with_reducible rfl))
  try simp only [Act.put, putL]
  refine tk 2 ?_ rfl ?_ ?_
  rotate_left
  · intro w' hSw; (go_simp <;> (with_reducible rfl))
  try simp only [Act.put, putL]
  refine tk 3 ?_ rfl ?_ ?_
  rotate_left
  · intro w' hSw; (go_simp <;> (with_reducible rfl))
  try simp only [Act.put, putL]
  refine tkC 1 rfl (fun K hK => ?_)
  go_simp
  (refine (readings_any w2.heap.size H.sr H.ds AP nP cP _ (by have := HBd.out.size; have := Hs.out; omega) (cells24 (blk_on HK3.out HBd.out)).2.2.2.2.2.1 (cells24 (blk_on HK3.out HBd.out)).2.2.2.2.2.2.1).mono ?_; rintro e w4 ⟨g, q, r, y, x, rfl, hg, hP, hb4⟩; have HG := Lib.hid hg; have HPA := Lib.hid hP; have HB4 := Lib.hid (below_trans HBd.out hb4); clear hg hP hb4)
  refine hK.out _ _ ?_ (fun hHeld => ?_)
  · exact HS.out _ HB4.out
  clear hK K
  try simp only [Act.put, putL]
  obtain ⟨f, ef⟩ : ∃ f, atP (readF6 q r y x) (readF17 q r y x) (readF1 y x) H.pr = f := ⟨_, rfl⟩
  refine anyH_mono (S' := fun w' => w'.cell? ⟨w1.heap.size, 4, none⟩ = some (.int .u8 H.pr) ∧ w'.heap[g]? = some (threeO (readF6 q r y x) (readF17 q r y x) (readF1 y x))) (fun _ h => h.1) _ _ _ _ ?_
  have hHeld := And.intro hHeld HG.out
  have hlook := fun (W : World) (h : W.heap[g]? = some (threeO (readF6 q r y x) (readF17 q r y x) (readF1 y x))) => look3_reading W g _ _ _ H.pr f _ h ef Hk.out
  have Ef := Lib.hid ef
  clear ef
  refine tk 4 ?_ rfl ?_ ?_
  rotate_left
  · intro w' hSw; (go_simp <;> (with_reducible rfl))
  try simp only [Act.put, putL]
  refine tk 5 ?_ rfl ?_ ?_
  rotate_left
  · intro w' hSw; (go_simp <;> (with_reducible rfl))
  try simp only [Act.put, putL]
  refine tk 6 ?_ rfl ?_ ?_
  rotate_left
  · intro w' hSw; (go_simp <;> (with_reducible rfl))
  try simp only [Act.put, putL]
  refine tk 7 ?_ rfl ?_ ?_
  rotate_left
  · intro w' hSw; (go_simp <;> (with_reducible rfl))
  try simp only [Act.put, putL]
  refine tk 8 ?_ rfl ?_ ?_
  rotate_left
  · intro w' hSw; (go_simp <;> (with_reducible rfl))
  try simp only [Act.put, putL]
  refine tk 9 ?_ rfl ?_ ?_
  rotate_left
  · intro w' hSw; (go_simp <;> (with_reducible rfl))
  try simp only [Act.put, putL]
  refine wpAnyH_done (by kernel_rfl) ?_ _
  clear hHeld hlook
  obtain rfl : f = .func (.func 44) #[] #[.pointer (some ⟨y, 0, none⟩), .pointer (some ⟨x, 0, none⟩)] := by rw [← Ef.out, H6.out]; rfl
  clear Ef
  have Hby := Lib.hid (show ∀ x ∈ P, 0 ≤ x ∧ x < 256 by rw [← HP.out]; exact fun x hx => HA.out.byte x (List.mem_of_mem_drop hx))
  have Hop4 := Lib.hid (HOp.out.on HB4.out)
  have hne : z ≠ w2.heap.size := by have := Hz1.out; have := Hs.out.1; omega
  have hwz : w.heap.size ≤ w2.heap.size := by have := Hz1.out; have := Hs.out.1; have := Hz.out; omega
  have hap : w2.heap.size < wd.heap.size := by have := HBd.out.size; have := Hs.out; omega
  have Hne := Lib.hid (And.intro hne (And.intro hwz hap))
  clear hne hwz hap
  go_wp2_with fail
  refine (read_good_1 w2.heap.size H.sr H.ds AP nP cP q r y x wd.heap.size nD _ P S (.int .u8 H.to) (.int .u16 H.id) (.bool H.df) (.int .u8 H.tt) (.int .u8 H.pr) (.int .u32 H.sr) (.int .u32 H.ds) (.slice AH nH cH) (.int .u16 0) (.int .u16 0) (.int .u32 0) (.int .u32 0) (.int .u8 0) (.int .u16 0) (.int .u16 0) (.slice none 0 0) (.slice none 0 0) (.int .u16 0) (.int .u16 0) (.slice none 0 0) (.int .u8 0) (.int .u8 0) (.int .u32 0) (.slice none 0 0) (blk_on HK3.out HB4.out) HPA.out Hne.out.2.2 ⟨Hop4.out.cap, Hop4.out.capMax⟩ (Hop4.out.rd Hby.out) He.out HS_.out HnD.out).mono ?_
  rintro e w5 ⟨AD, cD, rfl, hk5, hd, hb5⟩
  have HK5 := Lib.hid hk5
  have HZ5 := Lib.hid (hb5.blk (blk_on HZ3.out HB4.out) Hne.out.1)
  have HB5 := Lib.hid ((HB3.out.trans (HB4.out.mono HB3.out.size)).trans (hb5.below (B := w.heap.size) (fun k hk => by have := Hne.out.2.1; omega) ((HB3.out.trans (HB4.out.mono HB3.out.size)).size)))
  have HOl5 := Lib.hid (ownB_butA (HOl.out.on HB4.out) hb5 (fun k hk e => by have := Hat.out k hk; have := Hs.out; omega))
  have Hz4 := Lib.hid (show z < w4.heap.size by have h1 := Hz1.out; have h2 := Hs.out; have h3 := HBd.out.size; have h4 := HB4.out.size; omega)
  have Hd := Lib.hid hd; have Hdn := Lib.hid (show MsgNum S ∧ (∀ x ∈ S.d, 0 ≤ x ∧ x < 256) by rw [← HS_.out]; exact msgOf_num Hby.out (errM_eight He.out)); clear hd
  have Hw4 := Lib.hid (show w.heap.size ≤ w4.heap.size by have := Hz4.out; have := Hz.out; omega)
  have Hw0 := Lib.hid Hb0.out.size
  clear hk5 hb5
  go_upto_region 11 with (fail)
  repeat (first | (refine wp_load_row 35 (.tmp 7) rfl w2.heap.size _ _ _ _ HK5.out rfl Tryz.underlying35 rfl (by kernel_rfl) ?_; simp only [Act.put, List.setIfInBounds_toArray, List.set_cons_zero, List.set_cons_succ]) | (refine wp_store_row 35 (.tmp 2) (.tmp 40) rfl z _ rfl rfl 35 _ HZ5.out (by kernel_rfl) rfl (by simp [Value.oneCell']) ?_; simp only [Act.put, List.setIfInBounds_toArray, List.set_cons_zero, List.set_cons_succ]) | go_values | go_skip | go_guarded | go_step | go_upon | go_back)
  refine bodyPost_ret (results_row_tmp rfl _ _ z _ _ _ _ _ rfl rfl (setRow_heap _ _ _ _ _ _ HZ5.out) Tryz.underlying35 rfl (by kernel_rfl)) rfl ⟨⟨AH, nH, cH, none, 0, 0, [], none, 0, 0, none, 0, 0, AD, nD, cD⟩, rfl, ?_, Nat.zero_le _, ⟨HOl5.out.off.sub (fun g hg => by have := Hw0.out; omega), offR.zero _ _, fun v hv => (by cases hv), offR.zero _ _, offR.zero _ _, Hd.out.off.sub (fun g hg => by have := Hw4.out; omega)⟩, below_setRow HB5.out (by rw [Hz.out]; exact Nat.le_refl _) _⟩
  refine (show ∀ cs, PkRd (w5.setRow z cs) _ _ from fun cs => ?_) _
  have hset : ∀ cs, But (fun g => g = z) w5 (w5.setRow z cs) := fun cs => ⟨rfl, rfl, rfl, by simp, fun k _ hn => setRow_other _ _ _ _ hn⟩
  have hw0 : w0.heap.size = z + 1 := by rw [← Ew.out, ← Hz.out]; simp
  have hz4 := Hz4.out
  have hH5 := HOl5.out.but (hset cs) (fun k hk e => by omega)
  (have hD5 := Hd.out.but (hset cs) (fun k hk e => by omega); exact ⟨HH_.out, ⟨hH5.cap, hH5.capMax⟩, hH5.rd HHo.out, zero_rd _, zeroDg_num, ⟨Nat.le_refl _, by simp [maxLen]⟩, Rd.nil _ _, Hdn.out.1, ⟨hD5.cap, hD5.capMax⟩, hD5.rd Hdn.out.2⟩)
end Go.Proofs.YtheknmihnkennaaGreat
