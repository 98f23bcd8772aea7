/-
  Texts laid together: PkParse, NatS, NatT, NatU.
-/
import Derived.Test.YtoegfgbalcholaaGreatZT01
import Derived.Test.YtoegfgbalcholaaGreatZT30
import Derived.Test.YtoegfgbalcholaaGreatZT32
import Derived.Test.YtoegfgbalcholaaGreatZT18
import Derived.Test.YtoegfgbalcholaaGreatZT28

/-
  Package packet's Parse: what is no packet is told by the first fault; else the packet, in rows of the call's own.
-/
namespace Go.Proofs.YtoegfgbalcholaaGreat
set_option maxRecDepth 10000
open Go.RowKit
set_option linter.unusedSimpArgs false
set_option linter.unusedVariables false

def hdOf (b : List Int) : Hd := ⟨b.getD 1 0, b.getD 4 0 * 256 + b.getD 5 0, decide (flagsL b = 16384), b.getD 8 0, b.getD 9 0, ((b.getD 12 0 * 256 + b.getD 13 0) * 256 + b.getD 14 0) * 256 + b.getD 15 0, ((b.getD 16 0 * 256 + b.getD 17 0) * 256 + b.getD 18 0) * 256 + b.getD 19 0, (b.drop 20).take ((hdrL b).toNat - 20)⟩
def restOf (b : List Int) : List Int := b.drop (hdrL b).toNat
theorem hdOf_num {b : List Int} (h : ∀ x ∈ b, 0 ≤ x ∧ x < 256) : HdNum (hdOf b) := by
  have g := fun i => getD_mem b h i
  have := g 1; have := g 4; have := g 5; have := g 8; have := g 9; have := g 12; have := g 13; have := g 14; have := g 15; have := g 16; have := g 17; have := g 18; have := g 19
  exact ⟨by simp only [hdOf]; omega, by simp only [hdOf]; omega, by simp only [hdOf]; omega, by simp only [hdOf]; omega, by simp only [hdOf]; omega, by simp only [hdOf]; omega⟩
/-- What ipv4.Parse tells of a right head. -/
def HeadGot (H : Hd) (P : List Int) (nH nP : Nat) (w : World) (e : Ending) (w' : World) : Prop :=
  ∃ AH cH AP cP, e = .returned (.tuple #[.agg #[.int .u8 H.to, .int .u16 H.id, .bool H.df, .int .u8 H.tt, .int .u8 H.pr, .int .u32 H.sr, .int .u32 H.ds, .slice AH nH cH], .slice AP nP cP, .int .i64 0]) ∧
    OwnB w' w.heap.size AH nH cH H.o ∧ OwnB w' w.heap.size AP nP cP P ∧ Below w.heap.size w w'
theorem ipparse_got (A : Option Addr) (n c nH nP : Nat) (b P : List Int) (H : Hd) (w : World) (hc : n ≤ c ∧ c ≤ maxLen) (hn : n ≤ 140737488355328) (hA : Rd w A n b) (hx : errIp b = 0) (hH : hdOf b = H) (hP : restOf b = P) (h1 : H.o.length = nH) (h2 : P.length = nP) :
    Calls Tryz.prog 28 #[.slice A n c] w (HeadGot H P nH nP w) := by
  refine (parse_good A n c b w hc hn hA hx).mono ?_
  rintro e w' ⟨Ao, no, co, Ap, np, cp, rfl, ho, hp, hb⟩
  have e1 : no = nH := by
    rw [← h1, ← hH]
    have := congrArg List.length (rfl : (hdOf b).o = (b.drop 20).take ((hdrL b).toNat - 20))
    have h := ho.len
    rw [← h]
    rfl
  have e2 : np = nP := by rw [← h2, ← hP]; exact hp.len.symm
  subst e1; subst e2; subst hH; subst hP
  exact ⟨Ao, co, Ap, cp, rfl, ho, hp, hb⟩

def PkGood (q : Pk) (w : World) (e : Ending) (w' : World) : Prop := ∃ b : PkA, e = .returned (.tuple #[.agg #[.int .u8 q.h.to, .int .u16 q.h.id, .bool q.h.df, .int .u8 q.h.tt, .int .u8 q.h.pr, .int .u32 q.h.sr, .int .u32 q.h.ds, .slice b.AH b.nH b.cH, .int .u16 q.s.sp, .int .u16 q.s.dp, .int .u32 q.s.sq, .int .u32 q.s.ak, .int .u8 q.s.fl, .int .u16 q.s.wn, .int .u16 q.s.ug, .slice b.AO b.nO b.cO, .slice b.AD b.nD b.cD, .int .u16 q.u.sp, .int .u16 q.u.dp, .slice b.AU b.nU b.cU, .int .u8 q.m.ty, .int .u8 q.m.cd, .int .u32 q.m.rs, .slice b.AM b.nM b.cM], .int .i64 0]) ∧ PkRd w' q b ∧ b.nO ≤ 20 ∧ b.Off (fun g => g < w.heap.size) ∧ Below w.heap.size w w'
set_option maxHeartbeats 2000000 in
theorem parse9_good_6 (A : Option Addr) (n c nH nP nD : Nat) (b P : List Int) (H : Hd) (S : Seg) (w : World) (hc : n ≤ c ∧ c ≤ maxLen) (hn : n ≤ 140737488355328) (hA : Rd w A n b) (hx : errIp b = 0) (hH : hdOf b = H) (hP : restOf b = P) (hnH : H.o.length = nH) (hnP : P.length = nP) (h6 : H.pr = 6) (he : errSeg H.sr H.ds P = 0) (hS : segOf P (offB P) = S) (hnD : S.d.length = nD) :
    Calls Tryz.prog 7 #[.slice A n c] w (PkGood ⟨H, S, zeroDg, zeroM⟩ w) := by
  have Hx := Lib.hid hx
  have HH := Lib.hid hH
  have HP := Lib.hid hP
  have HnH := Lib.hid hnH
  have HnP := Lib.hid hnP
  have H6 := Lib.hid h6
  have He := Lib.hid he
  have HS_ := Lib.hid hS
  have HnD := Lib.hid hnD
  have HH_ := Lib.hid (show HdNum H by rw [← hH]; exact hdOf_num hA.byte)
  have HHo := Lib.hid (show ∀ x ∈ H.o, 0 ≤ x ∧ x < 256 by rw [← hH]; exact fun x hx => hA.byte x (List.mem_of_mem_drop (List.mem_of_mem_take hx)))
  have Hk := Lib.hid (show knownP H.pr = true by rw [h6]; rfl)
  clear hx hH hP hnH hnP h6 he hS hnD
  obtain ⟨z, hz⟩ : ∃ z, w.heap.size = z := ⟨_, rfl⟩
  obtain ⟨w0, ew⟩ : ∃ w0, w.alloc (.cells #[.int .u8 0, .int .u16 0, .bool false, .int .u8 0, .int .u8 0, .int .u32 0, .int .u32 0, .slice none 0 0, .int .u16 0, .int .u16 0, .int .u32 0, .int .u32 0, .int .u8 0, .int .u16 0, .int .u16 0, .slice none 0 0, .slice none 0 0, .int .u16 0, .int .u16 0, .slice none 0 0, .int .u8 0, .int .u8 0, .int .u32 0, .slice none 0 0] 35) = w0 := ⟨_, rfl⟩
  have hb0 : Below w.heap.size w w0 := by rw [← ew]; exact (Below.refl _ _).alloc (Nat.le_refl _) _
  have hk0 : w0.heap[z]? = some (.cells #[.int .u8 0, .int .u16 0, .bool false, .int .u8 0, .int .u8 0, .int .u32 0, .int .u32 0, .slice none 0 0, .int .u16 0, .int .u16 0, .int .u32 0, .int .u32 0, .int .u8 0, .int .u16 0, .int .u16 0, .slice none 0 0, .slice none 0 0, .int .u16 0, .int .u16 0, .slice none 0 0, .int .u8 0, .int .u8 0, .int .u32 0, .slice none 0 0] 35 (0, 0)) := by rw [← ew, ← hz]; exact heap_alloc_new w _
  have HA := Lib.hid (hA.below hb0)
  have HK0 := Lib.hid hk0
  have Hb0 := Lib.hid hb0
  have Ew := Lib.hid ew
  have Hz := Lib.hid hz
  have Hc := Lib.hid hc
  have Hn := Lib.hid hn
  clear hz ew hb0 hk0 hA hc hn
  go_enter Tryz.func7, Tryz.ntmps7
  go_upto_region 1 with (fail)
  rw [Ew.out]
  try rw [Hz.out]
  go_wp2_with fail
  have Hgot := Lib.hid (ipparse_got A n c nH nP b P H w0 Hc.out Hn.out HA.out Hx.out HH.out HP.out HnH.out HnP.out)
  refine Hgot.out.mono ?_
  rintro e w1 ⟨AH, cH, AP, cP, rfl, hoh, hop, hb1⟩
  obtain ⟨w2, ew2⟩ : ∃ v, w1.alloc (.cells #[.int .u8 H.to, .int .u16 H.id, .bool H.df, .int .u8 H.tt, .int .u8 H.pr, .int .u32 H.sr, .int .u32 H.ds, .slice AH nH cH] 26) = v := ⟨_, rfl⟩
  have hb2 : Below w1.heap.size w1 w2 := by rw [← ew2]; exact (Below.refl _ _).alloc (Nat.le_refl _) _
  have hk2 : w2.heap[w1.heap.size]? = some (.cells #[.int .u8 H.to, .int .u16 H.id, .bool H.df, .int .u8 H.tt, .int .u8 H.pr, .int .u32 H.sr, .int .u32 H.ds, .slice AH nH cH] 26 (0, 0)) := by rw [← ew2]; exact heap_alloc_new w1 _
  obtain ⟨w3, ew3⟩ : ∃ v, w2.alloc (.cells #[.int .u8 H.to, .int .u16 H.id, .bool H.df, .int .u8 H.tt, .int .u8 H.pr, .int .u32 H.sr, .int .u32 H.ds, .slice AH nH cH, .int .u16 0, .int .u16 0, .int .u32 0, .int .u32 0, .int .u8 0, .int .u16 0, .int .u16 0, .slice none 0 0, .slice none 0 0, .int .u16 0, .int .u16 0, .slice none 0 0, .int .u8 0, .int .u8 0, .int .u32 0, .slice none 0 0] 35) = v := ⟨_, rfl⟩
  have hb3 : Below w2.heap.size w2 w3 := by rw [← ew3]; exact (Below.refl _ _).alloc (Nat.le_refl _) _
  have hk3 : w3.heap[w2.heap.size]? = some (.cells #[.int .u8 H.to, .int .u16 H.id, .bool H.df, .int .u8 H.tt, .int .u8 H.pr, .int .u32 H.sr, .int .u32 H.ds, .slice AH nH cH, .int .u16 0, .int .u16 0, .int .u32 0, .int .u32 0, .int .u8 0, .int .u16 0, .int .u16 0, .slice none 0 0, .slice none 0 0, .int .u16 0, .int .u16 0, .slice none 0 0, .int .u8 0, .int .u8 0, .int .u32 0, .slice none 0 0] 35 (0, 0)) := by rw [← ew3]; exact heap_alloc_new w2 _
  have hs2 : w2.heap.size = w1.heap.size + 1 := by rw [← ew2]; simp
  have hs3 : w3.heap.size = w2.heap.size + 1 := by rw [← ew3]; simp
  have Hs := Lib.hid (And.intro hs2 hs3)
  have HK2 := Lib.hid (blk_on hk2 hb3)
  have HK3 := Lib.hid hk3
  have HZ3 := Lib.hid (blk_on HK0.out (below_trans (below_trans hb1 hb2) hb3))
  have HB3 := Lib.hid (below_trans Hb0.out (below_trans (below_trans hb1 hb2) hb3))
  have Hz1 := Lib.hid (show z + 1 ≤ w1.heap.size by have := hb1.size; have h2 := Hb0.out; rw [← Ew.out] at this; simp at this; have := Hz.out; omega)
  have HOh := Lib.hid (((hoh.mono (Nat.zero_le _)).on hb2).on hb3)
  have HOp := Lib.hid (((hop.mono (Nat.zero_le _)).on hb2).on hb3)
  have HOl := Lib.hid (((hoh.on hb2).on hb3).mono (B' := w0.heap.size) (Nat.le_refl _))
  have hat0 := fun k (e : AH = some ⟨k, 0, none⟩) => (show k < w1.heap.size by subst e; exact (World.ownsRow.lt hoh k rfl).2)
  have Hat := Lib.hid hat0
  have Hk2 := Lib.hid (cells8 hk2)
  have Ew2 := Lib.hid ew2
  have Ew3 := Lib.hid ew3
  clear hoh hop hb1 hb2 hb3 hk2 hk3 ew2 ew3 hs2 hs3 hat0
  go_upto_region 4 with (fail)
  rw [Ew2.out]
  obtain ⟨y0, y1, y2, y3, y4, y5, y6, y7⟩ := Hk2.out
  go_upto_region 5 with (refine wp_store_new 35 (.tmp 7) (.tmp 22) rfl rfl w2 _ _ rfl rfl (by kernel_rfl) rfl (by simp [Value.oneCell']) ?_)
  clear y0 y1 y2 y3 y4 y5 y6 y7 Hk2
  rw [Ew3.out]
  have HS := Lib.hid (show ∀ w', Below w3.heap.size w3 w' → w'.cell? ⟨w1.heap.size, 4, none⟩ = some (.int .u8 H.pr) from fun w' hb => (cells8 (blk_on HK2.out hb)).2.2.2.2.1)
  have HBd := Lib.hid (Below.drew (Below.refl w3.heap.size w3))
  refine wp_region_held_drew (S := fun w' => w'.cell? ⟨w1.heap.size, 4, none⟩ = some (.int .u8 H.pr)) (by kernel_rfl) (HS.out _ HBd.out) (fun hHeld => ?_)
  obtain ⟨wd, ewd⟩ : ∃ wd, w3.drew = wd := ⟨_, rfl⟩
  rw [ewd] at HBd hHeld ⊢
  clear ewd
  refine tk 0 ?_ rfl ?_ ?_
  rotate_left
  · intro w' hSw; (go_simp <;> (with_reducible rfl))
  try simp only [Act.put, putL]
  refine tk 2 ?_ rfl ?_ ?_
  rotate_left
  · intro w' hSw; (go_simp <;> (with_reducible rfl))
  try simp only [Act.put, putL]
  refine tk 3 ?_ rfl ?_ ?_
  rotate_left
  · intro w' hSw; (go_simp <;> (with_reducible rfl))
  try simp only [Act.put, putL]
  refine tkC 1 rfl (fun K hK => ?_)
  go_simp
  (refine (readings_any w2.heap.size H.sr H.ds AP nP cP _ (by have := HBd.out.size; have := Hs.out; omega) (cells24 (blk_on HK3.out HBd.out)).2.2.2.2.2.1 (cells24 (blk_on HK3.out HBd.out)).2.2.2.2.2.2.1).mono ?_; rintro e w4 ⟨g, q, r, y, x, rfl, hg, hP, hb4⟩; have HG := Lib.hid hg; have HPA := Lib.hid hP; have HB4 := Lib.hid (below_trans HBd.out hb4); clear hg hP hb4)
  refine hK.out _ _ ?_ (fun hHeld => ?_)
  · exact HS.out _ HB4.out
  clear hK K
  try simp only [Act.put, putL]
  obtain ⟨f, ef⟩ : ∃ f, atP (readF6 q r y x) (readF17 q r y x) (readF1 y x) H.pr = f := ⟨_, rfl⟩
  refine anyH_mono (S' := fun w' => w'.cell? ⟨w1.heap.size, 4, none⟩ = some (.int .u8 H.pr) ∧ w'.heap[g]? = some (threeO (readF6 q r y x) (readF17 q r y x) (readF1 y x))) (fun _ h => h.1) _ _ _ _ ?_
  have hHeld := And.intro hHeld HG.out
  have hlook := fun (W : World) (h : W.heap[g]? = some (threeO (readF6 q r y x) (readF17 q r y x) (readF1 y x))) => look3_reading W g _ _ _ H.pr f _ h ef Hk.out
  have Ef := Lib.hid ef
  clear ef
  refine tk 4 ?_ rfl ?_ ?_
  rotate_left
  · intro w' hSw; (go_simp <;> (with_reducible rfl))
  try simp only [Act.put, putL]
  refine tk 5 ?_ rfl ?_ ?_
  rotate_left
  · intro w' hSw; (go_simp <;> (with_reducible rfl))
  try simp only [Act.put, putL]
  refine tk 6 ?_ rfl ?_ ?_
  rotate_left
  · intro w' hSw; (go_simp <;> (with_reducible rfl))
  try simp only [Act.put, putL]
  refine tk 7 ?_ rfl ?_ ?_
  rotate_left
  · intro w' hSw; (go_simp <;> (with_reducible rfl))
  try simp only [Act.put, putL]
  refine tk 8 ?_ rfl ?_ ?_
  rotate_left
  · intro w' hSw; (go_simp <;> (with_reducible rfl))
  try simp only [Act.put, putL]
  refine tk 9 ?_ rfl ?_ ?_
  rotate_left
  · intro w' hSw; (go_simp <;> (with_reducible rfl))
  try simp only [Act.put, putL]
  refine wpAnyH_done (by kernel_rfl) ?_ _
  clear hHeld hlook
  obtain rfl : f = .func (.func 71) #[] #[.pointer (some ⟨q, 0, none⟩), .pointer (some ⟨r, 0, none⟩), .pointer (some ⟨y, 0, none⟩), .pointer (some ⟨x, 0, none⟩)] := by rw [← Ef.out, H6.out]; rfl
  clear Ef
  have Hby := Lib.hid (show ∀ x ∈ P, 0 ≤ x ∧ x < 256 by rw [← HP.out]; exact fun x hx => HA.out.byte x (List.mem_of_mem_drop hx))
  have Hop4 := Lib.hid (HOp.out.on HB4.out)
  have hne : z ≠ w2.heap.size := by have := Hz1.out; have := Hs.out.1; omega
  have hwz : w.heap.size ≤ w2.heap.size := by have := Hz1.out; have := Hs.out.1; have := Hz.out; omega
  have hap : w2.heap.size < wd.heap.size := by have := HBd.out.size; have := Hs.out; omega
  have Hne := Lib.hid (And.intro hne (And.intro hwz hap))
  clear hne hwz hap
  go_wp2_with fail
  refine (read_good_6 w2.heap.size H.sr H.ds AP nP cP q r y x wd.heap.size nD _ P S (.int .u8 H.to) (.int .u16 H.id) (.bool H.df) (.int .u8 H.tt) (.int .u8 H.pr) (.int .u32 H.sr) (.int .u32 H.ds) (.slice AH nH cH) (.int .u16 0) (.int .u16 0) (.int .u32 0) (.int .u32 0) (.int .u8 0) (.int .u16 0) (.int .u16 0) (.slice none 0 0) (.slice none 0 0) (.int .u16 0) (.int .u16 0) (.slice none 0 0) (.int .u8 0) (.int .u8 0) (.int .u32 0) (.slice none 0 0) (blk_on HK3.out HB4.out) HPA.out Hne.out.2.2 ⟨Hop4.out.cap, Hop4.out.capMax⟩ (Hop4.out.rd Hby.out) He.out HS_.out HnD.out).mono ?_
  rintro e w5 ⟨AO, nO, cO, os, AD, cD, rfl, hk5, hsr, hnO, ho, hl, hd, hb5⟩
  have HK5 := Lib.hid hk5
  have HZ5 := Lib.hid (hb5.blk (blk_on HZ3.out HB4.out) Hne.out.1)
  have HB5 := Lib.hid ((HB3.out.trans (HB4.out.mono HB3.out.size)).trans (hb5.below (B := w.heap.size) (fun k hk => by have := Hne.out.2.1; omega) ((HB3.out.trans (HB4.out.mono HB3.out.size)).size)))
  have HOl5 := Lib.hid (ownB_butA (HOl.out.on HB4.out) hb5 (fun k hk e => by have := Hat.out k hk; have := Hs.out; omega))
  have Hz4 := Lib.hid (show z < w4.heap.size by have h1 := Hz1.out; have h2 := Hs.out; have h3 := HBd.out.size; have h4 := HB4.out.size; omega)
  have Hsr := Lib.hid hsr; have HnO := Lib.hid hnO; have Ho := Lib.hid ho; have Hl := Lib.hid hl; have Hd := Lib.hid hd; clear hsr hnO ho hl hd
  have Hw4 := Lib.hid (show w.heap.size ≤ w4.heap.size by have := Hz4.out; have := Hz.out; omega)
  have Hw0 := Lib.hid Hb0.out.size
  clear hk5 hb5
  go_upto_region 11 with (fail)
  repeat (first | (refine wp_load_row 35 (.tmp 7) rfl w2.heap.size _ _ _ _ HK5.out rfl Tryz.underlying35 rfl (by kernel_rfl) ?_; simp only [Act.put, List.setIfInBounds_toArray, List.set_cons_zero, List.set_cons_succ]) | (refine wp_store_row 35 (.tmp 2) (.tmp 40) rfl z _ rfl rfl 35 _ HZ5.out (by kernel_rfl) rfl (by simp [Value.oneCell']) ?_; simp only [Act.put, List.setIfInBounds_toArray, List.set_cons_zero, List.set_cons_succ]) | go_values | go_skip | go_guarded | go_step | go_upon | go_back)
  refine bodyPost_ret (results_row_tmp rfl _ _ z _ _ _ _ _ rfl rfl (setRow_heap _ _ _ _ _ _ HZ5.out) Tryz.underlying35 rfl (by kernel_rfl)) rfl ⟨⟨AH, nH, cH, AO, nO, cO, os, AD, nD, cD, none, 0, 0, none, 0, 0⟩, rfl, ?_, HnO.out, ⟨HOl5.out.off.sub (fun g hg => by have := Hw0.out; omega), Ho.out.off.sub (fun g hg => by have := Hw4.out; omega), fun v hv => (Hl.out.off v hv).sub (fun g hg => by have := Hw4.out; omega), Hd.out.off.sub (fun g hg => by have := Hw4.out; omega), offR.zero _ _, offR.zero _ _⟩, below_setRow HB5.out (by rw [Hz.out]; exact Nat.le_refl _) _⟩
  refine (show ∀ cs, PkRd (w5.setRow z cs) _ _ from fun cs => ?_) _
  have hset : ∀ cs, But (fun g => g = z) w5 (w5.setRow z cs) := fun cs => ⟨rfl, rfl, rfl, by simp, fun k _ hn => setRow_other _ _ _ _ hn⟩
  have hw0 : w0.heap.size = z + 1 := by rw [← Ew.out, ← Hz.out]; simp
  have hz4 := Hz4.out
  have hH5 := HOl5.out.but (hset cs) (fun k hk e => by omega)
  exact ⟨HH_.out, ⟨hH5.cap, hH5.capMax⟩, hH5.rd HHo.out, own_seg Hsr.out.num (Ho.out.but (hset cs) (fun k hk e => by have := (World.ownsRow.lt Ho.out k (by rw [hk]; rfl)).1; omega)) (Hl.out.but (hset cs) (fun n c l k h2 e => by have := h2.at_ rfl; omega)) (Hd.out.but (hset cs) (fun k hk e => by omega)) Hsr.out.d.byte, zeroDg_num, ⟨Nat.le_refl _, by simp [maxLen]⟩, Rd.nil _ _, zeroM_num, ⟨Nat.le_refl _, by simp [maxLen]⟩, Rd.nil _ _⟩
theorem dgOf_num {b : List Int} (hb : ∀ x ∈ b, 0 ≤ x ∧ x < 256) : DgNum (dgOf b) ∧ (∀ x ∈ (dgOf b).d, 0 ≤ x ∧ x < 256) := by
  have g := fun i => getD_mem b hb i
  have := g 0; have := g 1; have := g 2; have := g 3
  exact ⟨⟨by simp only [dgOf, n16, Nat.zero_add, Nat.reduceAdd]; omega, by simp only [dgOf, n16, Nat.zero_add, Nat.reduceAdd]; omega⟩, fun x hx => hb x (List.mem_of_mem_drop hx)⟩
theorem errM_eight {b : List Int} (h : errM b = 0) : 8 ≤ b.length := by
  unfold errM at h
  by_cases h1 : 1480 < b.length
  · omega
  · rw [if_neg h1] at h
    by_cases h2 : b.length < 8
    · rw [if_pos h2] at h; exact absurd h (by decide)
    · omega
set_option maxHeartbeats 2000000 in
theorem parse9_good_17 (A : Option Addr) (n c nH nP nD : Nat) (b P : List Int) (H : Hd) (S : Dg) (w : World) (hc : n ≤ c ∧ c ≤ maxLen) (hn : n ≤ 140737488355328) (hA : Rd w A n b) (hx : errIp b = 0) (hH : hdOf b = H) (hP : restOf b = P) (hnH : H.o.length = nH) (hnP : P.length = nP) (h6 : H.pr = 17) (he : errU H.sr H.ds P = 0) (hS : dgOf P = S) (hnD : S.d.length = nD) :
    Calls Tryz.prog 7 #[.slice A n c] w (PkGood ⟨H, zeroSeg, S, zeroM⟩ w) := by
  have Hx := Lib.hid hx
  have HH := Lib.hid hH
  have HP := Lib.hid hP
  have HnH := Lib.hid hnH
  have HnP := Lib.hid hnP
  have H6 := Lib.hid h6
  have He := Lib.hid he
  have HS_ := Lib.hid hS
  have HnD := Lib.hid hnD
  have HH_ := Lib.hid (show HdNum H by rw [← hH]; exact hdOf_num hA.byte)
  have HHo := Lib.hid (show ∀ x ∈ H.o, 0 ≤ x ∧ x < 256 by rw [← hH]; exact fun x hx => hA.byte x (List.mem_of_mem_drop (List.mem_of_mem_take hx)))
  have Hk := Lib.hid (show knownP H.pr = true by rw [h6]; rfl)
  clear hx hH hP hnH hnP h6 he hS hnD
  obtain ⟨z, hz⟩ : ∃ z, w.heap.size = z := ⟨_, rfl⟩
  obtain ⟨w0, ew⟩ : ∃ w0, w.alloc (.cells #[.int .u8 0, .int .u16 0, .bool false, .int .u8 0, .int .u8 0, .int .u32 0, .int .u32 0, .slice none 0 0, .int .u16 0, .int .u16 0, .int .u32 0, .int .u32 0, .int .u8 0, .int .u16 0, .int .u16 0, .slice none 0 0, .slice none 0 0, .int .u16 0, .int .u16 0, .slice none 0 0, .int .u8 0, .int .u8 0, .int .u32 0, .slice none 0 0] 35) = w0 := ⟨_, rfl⟩
  have hb0 : Below w.heap.size w w0 := by rw [← ew]; exact (Below.refl _ _).alloc (Nat.le_refl _) _
  have hk0 : w0.heap[z]? = some (.cells #[.int .u8 0, .int .u16 0, .bool false, .int .u8 0, .int .u8 0, .int .u32 0, .int .u32 0, .slice none 0 0, .int .u16 0, .int .u16 0, .int .u32 0, .int .u32 0, .int .u8 0, .int .u16 0, .int .u16 0, .slice none 0 0, .slice none 0 0, .int .u16 0, .int .u16 0, .slice none 0 0, .int .u8 0, .int .u8 0, .int .u32 0, .slice none 0 0] 35 (0, 0)) := by rw [← ew, ← hz]; exact heap_alloc_new w _
  have HA := Lib.hid (hA.below hb0)
  have HK0 := Lib.hid hk0
  have Hb0 := Lib.hid hb0
  have Ew := Lib.hid ew
  have Hz := Lib.hid hz
  have Hc := Lib.hid hc
  have Hn := Lib.hid hn
  clear hz ew hb0 hk0 hA hc hn
  go_enter Tryz.func7, Tryz.ntmps7
  go_upto_region 1 with (fail)
  rw [Ew.out]
  try rw [Hz.out]
  go_wp2_with fail
  have Hgot := Lib.hid (ipparse_got A n c nH nP b P H w0 Hc.out Hn.out HA.out Hx.out HH.out HP.out HnH.out HnP.out)
  refine Hgot.out.mono ?_
  rintro e w1 ⟨AH, cH, AP, cP, rfl, hoh, hop, hb1⟩
  obtain ⟨w2, ew2⟩ : ∃ v, w1.alloc (.cells #[.int .u8 H.to, .int .u16 H.id, .bool H.df, .int .u8 H.tt, .int .u8 H.pr, .int .u32 H.sr, .int .u32 H.ds, .slice AH nH cH] 26) = v := ⟨_, rfl⟩
  have hb2 : Below w1.heap.size w1 w2 := by rw [← ew2]; exact (Below.refl _ _).alloc (Nat.le_refl _) _
  have hk2 : w2.heap[w1.heap.size]? = some (.cells #[.int .u8 H.to, .int .u16 H.id, .bool H.df, .int .u8 H.tt, .int .u8 H.pr, .int .u32 H.sr, .int .u32 H.ds, .slice AH nH cH] 26 (0, 0)) := by rw [← ew2]; exact heap_alloc_new w1 _
  obtain ⟨w3, ew3⟩ : ∃ v, w2.alloc (.cells #[.int .u8 H.to, .int .u16 H.id, .bool H.df, .int .u8 H.tt, .int .u8 H.pr, .int .u32 H.sr, .int .u32 H.ds, .slice AH nH cH, .int .u16 0, .int .u16 0, .int .u32 0, .int .u32 0, .int .u8 0, .int .u16 0, .int .u16 0, .slice none 0 0, .slice none 0 0, .int .u16 0, .int .u16 0, .slice none 0 0, .int .u8 0, .int .u8 0, .int .u32 0, .slice none 0 0] 35) = v := ⟨_, rfl⟩
  have hb3 : Below w2.heap.size w2 w3 := by rw [← ew3]; exact (Below.refl _ _).alloc (Nat.le_refl _) _
  have hk3 : w3.heap[w2.heap.size]? = some (.cells #[.int .u8 H.to, .int .u16 H.id, .bool H.df, .int .u8 H.tt, .int .u8 H.pr, .int .u32 H.sr, .int .u32 H.ds, .slice AH nH cH, .int .u16 0, .int .u16 0, .int .u32 0, .int .u32 0, .int .u8 0, .int .u16 0, .int .u16 0, .slice none 0 0, .slice none 0 0, .int .u16 0, .int .u16 0, .slice none 0 0, .int .u8 0, .int .u8 0, .int .u32 0, .slice none 0 0] 35 (0, 0)) := by rw [← ew3]; exact heap_alloc_new w2 _
  have hs2 : w2.heap.size = w1.heap.size + 1 := by rw [← ew2]; simp
  have hs3 : w3.heap.size = w2.heap.size + 1 := by rw [← ew3]; simp
  have Hs := Lib.hid (And.intro hs2 hs3)
  have HK2 := Lib.hid (blk_on hk2 hb3)
  have HK3 := Lib.hid hk3
  have HZ3 := Lib.hid (blk_on HK0.out (below_trans (below_trans hb1 hb2) hb3))
  have HB3 := Lib.hid (below_trans Hb0.out (below_trans (below_trans hb1 hb2) hb3))
  have Hz1 := Lib.hid (show z + 1 ≤ w1.heap.size by have := hb1.size; have h2 := Hb0.out; rw [← Ew.out] at this; simp at this; have := Hz.out; omega)
  have HOh := Lib.hid (((hoh.mono (Nat.zero_le _)).on hb2).on hb3)
  have HOp := Lib.hid (((hop.mono (Nat.zero_le _)).on hb2).on hb3)
  have HOl := Lib.hid (((hoh.on hb2).on hb3).mono (B' := w0.heap.size) (Nat.le_refl _))
  have hat0 := fun k (e : AH = some ⟨k, 0, none⟩) => (show k < w1.heap.size by subst e; exact (World.ownsRow.lt hoh k rfl).2)
  have Hat := Lib.hid hat0
  have Hk2 := Lib.hid (cells8 hk2)
  have Ew2 := Lib.hid ew2
  have Ew3 := Lib.hid ew3
  clear hoh hop hb1 hb2 hb3 hk2 hk3 ew2 ew3 hs2 hs3 hat0
  go_upto_region 4 with (fail)
  rw [Ew2.out]
  obtain ⟨y0, y1, y2, y3, y4, y5, y6, y7⟩ := Hk2.out
  go_upto_region 5 with (refine wp_store_new 35 (.tmp 7) (.tmp 22) rfl rfl w2 _ _ rfl rfl (by kernel_rfl) rfl (by simp [Value.oneCell']) ?_)
  clear y0 y1 y2 y3 y4 y5 y6 y7 Hk2
  rw [Ew3.out]
  have HS := Lib.hid (show ∀ w', Below w3.heap.size w3 w' → w'.cell? ⟨w1.heap.size, 4, none⟩ = some (.int .u8 H.pr) from fun w' hb => (cells8 (blk_on HK2.out hb)).2.2.2.2.1)
  have HBd := Lib.hid (Below.drew (Below.refl w3.heap.size w3))
  refine wp_region_held_drew (S := fun w' => w'.cell? ⟨w1.heap.size, 4, none⟩ = some (.int .u8 H.pr)) (by kernel_rfl) (HS.out _ HBd.out) (fun hHeld => ?_)
  obtain ⟨wd, ewd⟩ : ∃ wd, w3.drew = wd := ⟨_, rfl⟩
  rw [ewd] at HBd hHeld ⊢
  clear ewd
  refine tk 0 ?_ rfl ?_ ?_
  rotate_left
  · intro w' hSw; (go_simp <;> (with_reducible rfl))
  try simp only [Act.put, putL]
  refine tk 2 ?_ rfl ?_ ?_
  rotate_left
  · intro w' hSw; (go_simp <;> (with_reducible rfl))
  try simp only [Act.put, putL]
  refine tk 3 ?_ rfl ?_ ?_
  rotate_left
  · intro w' hSw; (go_simp <;> (with_reducible rfl))
  try simp only [Act.put, putL]
  refine tkC 1 rfl (fun K hK => ?_)
  go_simp
  (refine (readings_any w2.heap.size H.sr H.ds AP nP cP _ (by have := HBd.out.size; have := Hs.out; omega) (cells24 (blk_on HK3.out HBd.out)).2.2.2.2.2.1 (cells24 (blk_on HK3.out HBd.out)).2.2.2.2.2.2.1).mono ?_; rintro e w4 ⟨g, q, r, y, x, rfl, hg, hP, hb4⟩; have HG := Lib.hid hg; have HPA := Lib.hid hP; have HB4 := Lib.hid (below_trans HBd.out hb4); clear hg hP hb4)
  refine hK.out _ _ ?_ (fun hHeld => ?_)
  · exact HS.out _ HB4.out
  clear hK K
  try simp only [Act.put, putL]
  obtain ⟨f, ef⟩ : ∃ f, atP (readF6 q r y x) (readF17 q r y x) (readF1 y x) H.pr = f := ⟨_, rfl⟩
  refine anyH_mono (S' := fun w' => w'.cell? ⟨w1.heap.size, 4, none⟩ = some (.int .u8 H.pr) ∧ w'.heap[g]? = some (threeO (readF6 q r y x) (readF17 q r y x) (readF1 y x))) (fun _ h => h.1) _ _ _ _ ?_
  have hHeld := And.intro hHeld HG.out
  have hlook := fun (W : World) (h : W.heap[g]? = some (threeO (readF6 q r y x) (readF17 q r y x) (readF1 y x))) => look3_reading W g _ _ _ H.pr f _ h ef Hk.out
  have Ef := Lib.hid ef
  clear ef
  refine tk 4 ?_ rfl ?_ ?_
  rotate_left
  · intro w' hSw; (go_simp <;> (with_reducible rfl))
  try simp only [Act.put, putL]
  refine tk 5 ?_ rfl ?_ ?_
  rotate_left
  · intro w' hSw; (go_simp <;> (with_reducible rfl))
  try simp only [Act.put, putL]
  refine tk 6 ?_ rfl ?_ ?_
  rotate_left
  · intro w' hSw; (go_simp <;> (with_reducible rfl))
  try simp only [Act.put, putL]
  refine tk 7 ?_ rfl ?_ ?_
  rotate_left
  · intro w' hSw; (go_simp <;> (with_reducible rfl))
  try simp only [Act.put, putL]
  refine tk 8 ?_ rfl ?_ ?_
  rotate_left
  · intro w' hSw; (go_simp <;> (with_reducible rfl))
  try simp only [Act.put, putL]
  refine tk 9 ?_ rfl ?_ ?_
  rotate_left
  · intro w' hSw; (go_simp <;> (with_reducible rfl))
  try simp only [Act.put, putL]
  refine wpAnyH_done (by kernel_rfl) ?_ _
  clear hHeld hlook
  obtain rfl : f = .func (.func 73) #[] #[.pointer (some ⟨q, 0, none⟩), .pointer (some ⟨r, 0, none⟩), .pointer (some ⟨y, 0, none⟩), .pointer (some ⟨x, 0, none⟩)] := by rw [← Ef.out, H6.out]; rfl
  clear Ef
  have Hby := Lib.hid (show ∀ x ∈ P, 0 ≤ x ∧ x < 256 by rw [← HP.out]; exact fun x hx => HA.out.byte x (List.mem_of_mem_drop hx))
  have Hop4 := Lib.hid (HOp.out.on HB4.out)
  have hne : z ≠ w2.heap.size := by have := Hz1.out; have := Hs.out.1; omega
  have hwz : w.heap.size ≤ w2.heap.size := by have := Hz1.out; have := Hs.out.1; have := Hz.out; omega
  have hap : w2.heap.size < wd.heap.size := by have := HBd.out.size; have := Hs.out; omega
  have Hne := Lib.hid (And.intro hne (And.intro hwz hap))
  clear hne hwz hap
  go_wp2_with fail
  refine (read_good_17 w2.heap.size H.sr H.ds AP nP cP q r y x wd.heap.size nD _ P S (.int .u8 H.to) (.int .u16 H.id) (.bool H.df) (.int .u8 H.tt) (.int .u8 H.pr) (.int .u32 H.sr) (.int .u32 H.ds) (.slice AH nH cH) (.int .u16 0) (.int .u16 0) (.int .u32 0) (.int .u32 0) (.int .u8 0) (.int .u16 0) (.int .u16 0) (.slice none 0 0) (.slice none 0 0) (.int .u16 0) (.int .u16 0) (.slice none 0 0) (.int .u8 0) (.int .u8 0) (.int .u32 0) (.slice none 0 0) (blk_on HK3.out HB4.out) HPA.out Hne.out.2.2 ⟨Hop4.out.cap, Hop4.out.capMax⟩ (Hop4.out.rd Hby.out) He.out HS_.out HnD.out).mono ?_
  rintro e w5 ⟨AD, cD, rfl, hk5, hd, hb5⟩
  have HK5 := Lib.hid hk5
  have HZ5 := Lib.hid (hb5.blk (blk_on HZ3.out HB4.out) Hne.out.1)
  have HB5 := Lib.hid ((HB3.out.trans (HB4.out.mono HB3.out.size)).trans (hb5.below (B := w.heap.size) (fun k hk => by have := Hne.out.2.1; omega) ((HB3.out.trans (HB4.out.mono HB3.out.size)).size)))
  have HOl5 := Lib.hid (ownB_butA (HOl.out.on HB4.out) hb5 (fun k hk e => by have := Hat.out k hk; have := Hs.out; omega))
  have Hz4 := Lib.hid (show z < w4.heap.size by have h1 := Hz1.out; have h2 := Hs.out; have h3 := HBd.out.size; have h4 := HB4.out.size; omega)
  have Hd := Lib.hid hd; have Hdn := Lib.hid (show DgNum S ∧ (∀ x ∈ S.d, 0 ≤ x ∧ x < 256) by rw [← HS_.out]; exact dgOf_num Hby.out); clear hd
  have Hw4 := Lib.hid (show w.heap.size ≤ w4.heap.size by have := Hz4.out; have := Hz.out; omega)
  have Hw0 := Lib.hid Hb0.out.size
  clear hk5 hb5
  go_upto_region 11 with (fail)
  repeat (first | (refine wp_load_row 35 (.tmp 7) rfl w2.heap.size _ _ _ _ HK5.out rfl Tryz.underlying35 rfl (by kernel_rfl) ?_; simp only [Act.put, List.setIfInBounds_toArray, List.set_cons_zero, List.set_cons_succ]) | (refine wp_store_row 35 (.tmp 2) (.tmp 40) rfl z _ rfl rfl 35 _ HZ5.out (by kernel_rfl) rfl (by simp [Value.oneCell']) ?_; simp only [Act.put, List.setIfInBounds_toArray, List.set_cons_zero, List.set_cons_succ]) | go_values | go_skip | go_guarded | go_step | go_upon | go_back)
  refine bodyPost_ret (results_row_tmp rfl _ _ z _ _ _ _ _ rfl rfl (setRow_heap _ _ _ _ _ _ HZ5.out) Tryz.underlying35 rfl (by kernel_rfl)) rfl ⟨⟨AH, nH, cH, none, 0, 0, [], none, 0, 0, AD, nD, cD, none, 0, 0⟩, rfl, ?_, Nat.zero_le _, ⟨HOl5.out.off.sub (fun g hg => by have := Hw0.out; omega), offR.zero _ _, fun v hv => (by cases hv), offR.zero _ _, Hd.out.off.sub (fun g hg => by have := Hw4.out; omega), offR.zero _ _⟩, below_setRow HB5.out (by rw [Hz.out]; exact Nat.le_refl _) _⟩
  refine (show ∀ cs, PkRd (w5.setRow z cs) _ _ from fun cs => ?_) _
  have hset : ∀ cs, But (fun g => g = z) w5 (w5.setRow z cs) := fun cs => ⟨rfl, rfl, rfl, by simp, fun k _ hn => setRow_other _ _ _ _ hn⟩
  have hw0 : w0.heap.size = z + 1 := by rw [← Ew.out, ← Hz.out]; simp
  have hz4 := Hz4.out
  have hH5 := HOl5.out.but (hset cs) (fun k hk e => by omega)
  (have hD5 := Hd.out.but (hset cs) (fun k hk e => by omega); exact ⟨HH_.out, ⟨hH5.cap, hH5.capMax⟩, hH5.rd HHo.out, zero_rd _, Hdn.out.1, ⟨hD5.cap, hD5.capMax⟩, hD5.rd Hdn.out.2, zeroM_num, ⟨Nat.le_refl _, by simp [maxLen]⟩, Rd.nil _ _⟩)
set_option maxHeartbeats 2000000 in
theorem parse9_good_1 (A : Option Addr) (n c nH nP nD : Nat) (b P : List Int) (H : Hd) (S : Msg) (w : World) (hc : n ≤ c ∧ c ≤ maxLen) (hn : n ≤ 140737488355328) (hA : Rd w A n b) (hx : errIp b = 0) (hH : hdOf b = H) (hP : restOf b = P) (hnH : H.o.length = nH) (hnP : P.length = nP) (h6 : H.pr = 1) (he : errM P = 0) (hS : msgOf P = S) (hnD : S.d.length = nD) :
    Calls Tryz.prog 7 #[.slice A n c] w (PkGood ⟨H, zeroSeg, zeroDg, S⟩ w) := by
  have Hx := Lib.hid hx
  have HH := Lib.hid hH
  have HP := Lib.hid hP
  have HnH := Lib.hid hnH
  have HnP := Lib.hid hnP
  have H6 := Lib.hid h6
  have He := Lib.hid he
  have HS_ := Lib.hid hS
  have HnD := Lib.hid hnD
  have HH_ := Lib.hid (show HdNum H by rw [← hH]; exact hdOf_num hA.byte)
  have HHo := Lib.hid (show ∀ x ∈ H.o, 0 ≤ x ∧ x < 256 by rw [← hH]; exact fun x hx => hA.byte x (List.mem_of_mem_drop (List.mem_of_mem_take hx)))
  have Hk := Lib.hid (show knownP H.pr = true by rw [h6]; rfl)
  clear hx hH hP hnH hnP h6 he hS hnD
  obtain ⟨z, hz⟩ : ∃ z, w.heap.size = z := ⟨_, rfl⟩
  obtain ⟨w0, ew⟩ : ∃ w0, w.alloc (.cells #[.int .u8 0, .int .u16 0, .bool false, .int .u8 0, .int .u8 0, .int .u32 0, .int .u32 0, .slice none 0 0, .int .u16 0, .int .u16 0, .int .u32 0, .int .u32 0, .int .u8 0, .int .u16 0, .int .u16 0, .slice none 0 0, .slice none 0 0, .int .u16 0, .int .u16 0, .slice none 0 0, .int .u8 0, .int .u8 0, .int .u32 0, .slice none 0 0] 35) = w0 := ⟨_, rfl⟩
  have hb0 : Below w.heap.size w w0 := by rw [← ew]; exact (Below.refl _ _).alloc (Nat.le_refl _) _
  have hk0 : w0.heap[z]? = some (.cells #[.int .u8 0, .int .u16 0, .bool false, .int .u8 0, .int .u8 0, .int .u32 0, .int .u32 0, .slice none 0 0, .int .u16 0, .int .u16 0, .int .u32 0, .int .u32 0, .int .u8 0, .int .u16 0, .int .u16 0, .slice none 0 0, .slice none 0 0, .int .u16 0, .int .u16 0, .slice none 0 0, .int .u8 0, .int .u8 0, .int .u32 0, .slice none 0 0] 35 (0, 0)) := by rw [← ew, ← hz]; exact heap_alloc_new w _
  have HA := Lib.hid (hA.below hb0)
  have HK0 := Lib.hid hk0
  have Hb0 := Lib.hid hb0
  have Ew := Lib.hid ew
  have Hz := Lib.hid hz
  have Hc := Lib.hid hc
  have Hn := Lib.hid hn
  clear hz ew hb0 hk0 hA hc hn
  go_enter Tryz.func7, Tryz.ntmps7
  go_upto_region 1 with (fail)
  rw [Ew.out]
  try rw [Hz.out]
  go_wp2_with fail
  have Hgot := Lib.hid (ipparse_got A n c nH nP b P H w0 Hc.out Hn.out HA.out Hx.out HH.out HP.out HnH.out HnP.out)
  refine Hgot.out.mono ?_
  rintro e w1 ⟨AH, cH, AP, cP, rfl, hoh, hop, hb1⟩
  obtain ⟨w2, ew2⟩ : ∃ v, w1.alloc (.cells #[.int .u8 H.to, .int .u16 H.id, .bool H.df, .int .u8 H.tt, .int .u8 H.pr, .int .u32 H.sr, .int .u32 H.ds, .slice AH nH cH] 26) = v := ⟨_, rfl⟩
  have hb2 : Below w1.heap.size w1 w2 := by rw [← ew2]; exact (Below.refl _ _).alloc (Nat.le_refl _) _
  have hk2 : w2.heap[w1.heap.size]? = some (.cells #[.int .u8 H.to, .int .u16 H.id, .bool H.df, .int .u8 H.tt, .int .u8 H.pr, .int .u32 H.sr, .int .u32 H.ds, .slice AH nH cH] 26 (0, 0)) := by rw [← ew2]; exact heap_alloc_new w1 _
  obtain ⟨w3, ew3⟩ : ∃ v, w2.alloc (.cells #[.int .u8 H.to, .int .u16 H.id, .bool H.df, .int .u8 H.tt, .int .u8 H.pr, .int .u32 H.sr, .int .u32 H.ds, .slice AH nH cH, .int .u16 0, .int .u16 0, .int .u32 0, .int .u32 0, .int .u8 0, .int .u16 0, .int .u16 0, .slice none 0 0, .slice none 0 0, .int .u16 0, .int .u16 0, .slice none 0 0, .int .u8 0, .int .u8 0, .int .u32 0, .slice none 0 0] 35) = v := ⟨_, rfl⟩
  have hb3 : Below w2.heap.size w2 w3 := by rw [← ew3]; exact (Below.refl _ _).alloc (Nat.le_refl _) _
  have hk3 : w3.heap[w2.heap.size]? = some (.cells #[.int .u8 H.to, .int .u16 H.id, .bool H.df, .int .u8 H.tt, .int .u8 H.pr, .int .u32 H.sr, .int .u32 H.ds, .slice AH nH cH, .int .u16 0, .int .u16 0, .int .u32 0, .int .u32 0, .int .u8 0, .int .u16 0, .int .u16 0, .slice none 0 0, .slice none 0 0, .int .u16 0, .int .u16 0, .slice none 0 0, .int .u8 0, .int .u8 0, .int .u32 0, .slice none 0 0] 35 (0, 0)) := by rw [← ew3]; exact heap_alloc_new w2 _
  have hs2 : w2.heap.size = w1.heap.size + 1 := by rw [← ew2]; simp
  have hs3 : w3.heap.size = w2.heap.size + 1 := by rw [← ew3]; simp
  have Hs := Lib.hid (And.intro hs2 hs3)
  have HK2 := Lib.hid (blk_on hk2 hb3)
  have HK3 := Lib.hid hk3
  have HZ3 := Lib.hid (blk_on HK0.out (below_trans (below_trans hb1 hb2) hb3))
  have HB3 := Lib.hid (below_trans Hb0.out (below_trans (below_trans hb1 hb2) hb3))
  have Hz1 := Lib.hid (show z + 1 ≤ w1.heap.size by have := hb1.size; have h2 := Hb0.out; rw [← Ew.out] at this; simp at this; have := Hz.out; omega)
  have HOh := Lib.hid (((hoh.mono (Nat.zero_le _)).on hb2).on hb3)
  have HOp := Lib.hid (((hop.mono (Nat.zero_le _)).on hb2).on hb3)
  have HOl := Lib.hid (((hoh.on hb2).on hb3).mono (B' := w0.heap.size) (Nat.le_refl _))
  have hat0 := fun k (e : AH = some ⟨k, 0, none⟩) => (show k < w1.heap.size by subst e; exact (World.ownsRow.lt hoh k rfl).2)
  have Hat := Lib.hid hat0
  have Hk2 := Lib.hid (cells8 hk2)
  have Ew2 := Lib.hid ew2
  have Ew3 := Lib.hid ew3
  clear hoh hop hb1 hb2 hb3 hk2 hk3 ew2 ew3 hs2 hs3 hat0
  go_upto_region 4 with (fail)
  rw [Ew2.out]
  obtain ⟨y0, y1, y2, y3, y4, y5, y6, y7⟩ := Hk2.out
  go_upto_region 5 with (refine wp_store_new 35 (.tmp 7) (.tmp 22) rfl rfl w2 _ _ rfl rfl (by kernel_rfl) rfl (by simp [Value.oneCell']) ?_)
  clear y0 y1 y2 y3 y4 y5 y6 y7 Hk2
  rw [Ew3.out]
  have HS := Lib.hid (show ∀ w', Below w3.heap.size w3 w' → w'.cell? ⟨w1.heap.size, 4, none⟩ = some (.int .u8 H.pr) from fun w' hb => (cells8 (blk_on HK2.out hb)).2.2.2.2.1)
  have HBd := Lib.hid (Below.drew (Below.refl w3.heap.size w3))
  refine wp_region_held_drew (S := fun w' => w'.cell? ⟨w1.heap.size, 4, none⟩ = some (.int .u8 H.pr)) (by kernel_rfl) (HS.out _ HBd.out) (fun hHeld => ?_)
  obtain ⟨wd, ewd⟩ : ∃ wd, w3.drew = wd := ⟨_, rfl⟩
  rw [ewd] at HBd hHeld ⊢
  clear ewd
  refine tk 0 ?_ rfl ?_ ?_
  rotate_left
  · intro w' hSw; (go_simp <;> (with_reducible rfl))
  try simp only [Act.put, putL]
  refine tk 2 ?_ rfl ?_ ?_
  rotate_left
  · intro w' hSw; (go_simp <;> (with_reducible rfl))
  try simp only [Act.put, putL]
  refine tk 3 ?_ rfl ?_ ?_
  rotate_left
  · intro w' hSw; (go_simp <;> (with_reducible rfl))
  try simp only [Act.put, putL]
  refine tkC 1 rfl (fun K hK => ?_)
  go_simp
  (refine (readings_any w2.heap.size H.sr H.ds AP nP cP _ (by have := HBd.out.size; have := Hs.out; omega) (cells24 (blk_on HK3.out HBd.out)).2.2.2.2.2.1 (cells24 (blk_on HK3.out HBd.out)).2.2.2.2.2.2.1).mono ?_; rintro e w4 ⟨g, q, r, y, x, rfl, hg, hP, hb4⟩; have HG := Lib.hid hg; have HPA := Lib.hid hP; have HB4 := Lib.hid (below_trans HBd.out hb4); clear hg hP hb4)
  refine hK.out _ _ ?_ (fun hHeld => ?_)
  · exact HS.out _ HB4.out
  clear hK K
  try simp only [Act.put, putL]
  obtain ⟨f, ef⟩ : ∃ f, atP (readF6 q r y x) (readF17 q r y x) (readF1 y x) H.pr = f := ⟨_, rfl⟩
  refine anyH_mono (S' := fun w' => w'.cell? ⟨w1.heap.size, 4, none⟩ = some (.int .u8 H.pr) ∧ w'.heap[g]? = some (threeO (readF6 q r y x) (readF17 q r y x) (readF1 y x))) (fun _ h => h.1) _ _ _ _ ?_
  have hHeld := And.intro hHeld HG.out
  have hlook := fun (W : World) (h : W.heap[g]? = some (threeO (readF6 q r y x) (readF17 q r y x) (readF1 y x))) => look3_reading W g _ _ _ H.pr f _ h ef Hk.out
  have Ef := Lib.hid ef
  clear ef
  refine tk 4 ?_ rfl ?_ ?_
  rotate_left
  · intro w' hSw; (go_simp <;> (with_reducible rfl))
  try simp only [Act.put, putL]
  refine tk 5 ?_ rfl ?_ ?_
  rotate_left
  · intro w' hSw; (go_simp <;> (with_reducible rfl))
  try simp only [Act.put, putL]
  refine tk 6 ?_ rfl ?_ ?_
  rotate_left
  · intro w' hSw; (go_simp <;> (with_reducible rfl))
  try simp only [Act.put, putL]
  refine tk 7 ?_ rfl ?_ ?_
  rotate_left
  · intro w' hSw; (go_simp <;> (with_reducible rfl))
  try simp only [Act.put, putL]
  refine tk 8 ?_ rfl ?_ ?_
  rotate_left
  · intro w' hSw; (go_simp <;> (with_reducible rfl))
  try simp only [Act.put, putL]
  refine tk 9 ?_ rfl ?_ ?_
  rotate_left
  · intro w' hSw; (go_simp <;> (with_reducible rfl))
  try simp only [Act.put, putL]
  refine wpAnyH_done (by kernel_rfl) ?_ _
  clear hHeld hlook
  obtain rfl : f = .func (.func 75) #[] #[.pointer (some ⟨y, 0, none⟩), .pointer (some ⟨x, 0, none⟩)] := by rw [← Ef.out, H6.out]; rfl
  clear Ef
  have Hby := Lib.hid (show ∀ x ∈ P, 0 ≤ x ∧ x < 256 by rw [← HP.out]; exact fun x hx => HA.out.byte x (List.mem_of_mem_drop hx))
  have Hop4 := Lib.hid (HOp.out.on HB4.out)
  have hne : z ≠ w2.heap.size := by have := Hz1.out; have := Hs.out.1; omega
  have hwz : w.heap.size ≤ w2.heap.size := by have := Hz1.out; have := Hs.out.1; have := Hz.out; omega
  have hap : w2.heap.size < wd.heap.size := by have := HBd.out.size; have := Hs.out; omega
  have Hne := Lib.hid (And.intro hne (And.intro hwz hap))
  clear hne hwz hap
  go_wp2_with fail
  refine (read_good_1 w2.heap.size H.sr H.ds AP nP cP q r y x wd.heap.size nD _ P S (.int .u8 H.to) (.int .u16 H.id) (.bool H.df) (.int .u8 H.tt) (.int .u8 H.pr) (.int .u32 H.sr) (.int .u32 H.ds) (.slice AH nH cH) (.int .u16 0) (.int .u16 0) (.int .u32 0) (.int .u32 0) (.int .u8 0) (.int .u16 0) (.int .u16 0) (.slice none 0 0) (.slice none 0 0) (.int .u16 0) (.int .u16 0) (.slice none 0 0) (.int .u8 0) (.int .u8 0) (.int .u32 0) (.slice none 0 0) (blk_on HK3.out HB4.out) HPA.out Hne.out.2.2 ⟨Hop4.out.cap, Hop4.out.capMax⟩ (Hop4.out.rd Hby.out) He.out HS_.out HnD.out).mono ?_
  rintro e w5 ⟨AD, cD, rfl, hk5, hd, hb5⟩
  have HK5 := Lib.hid hk5
  have HZ5 := Lib.hid (hb5.blk (blk_on HZ3.out HB4.out) Hne.out.1)
  have HB5 := Lib.hid ((HB3.out.trans (HB4.out.mono HB3.out.size)).trans (hb5.below (B := w.heap.size) (fun k hk => by have := Hne.out.2.1; omega) ((HB3.out.trans (HB4.out.mono HB3.out.size)).size)))
  have HOl5 := Lib.hid (ownB_butA (HOl.out.on HB4.out) hb5 (fun k hk e => by have := Hat.out k hk; have := Hs.out; omega))
  have Hz4 := Lib.hid (show z < w4.heap.size by have h1 := Hz1.out; have h2 := Hs.out; have h3 := HBd.out.size; have h4 := HB4.out.size; omega)
  have Hd := Lib.hid hd; have Hdn := Lib.hid (show MsgNum S ∧ (∀ x ∈ S.d, 0 ≤ x ∧ x < 256) by rw [← HS_.out]; exact msgOf_num Hby.out (errM_eight He.out)); clear hd
  have Hw4 := Lib.hid (show w.heap.size ≤ w4.heap.size by have := Hz4.out; have := Hz.out; omega)
  have Hw0 := Lib.hid Hb0.out.size
  clear hk5 hb5
  go_upto_region 11 with (fail)
  repeat (first | (refine wp_load_row 35 (.tmp 7) rfl w2.heap.size _ _ _ _ HK5.out rfl Tryz.underlying35 rfl (by kernel_rfl) ?_; simp only [Act.put, List.setIfInBounds_toArray, List.set_cons_zero, List.set_cons_succ]) | (refine wp_store_row 35 (.tmp 2) (.tmp 40) rfl z _ rfl rfl 35 _ HZ5.out (by kernel_rfl) rfl (by simp [Value.oneCell']) ?_; simp only [Act.put, List.setIfInBounds_toArray, List.set_cons_zero, List.set_cons_succ]) | go_values | go_skip | go_guarded | go_step | go_upon | go_back)
  refine bodyPost_ret (results_row_tmp rfl _ _ z _ _ _ _ _ rfl rfl (setRow_heap _ _ _ _ _ _ HZ5.out) Tryz.underlying35 rfl (by kernel_rfl)) rfl ⟨⟨AH, nH, cH, none, 0, 0, [], none, 0, 0, none, 0, 0, AD, nD, cD⟩, rfl, ?_, Nat.zero_le _, ⟨HOl5.out.off.sub (fun g hg => by have := Hw0.out; omega), offR.zero _ _, fun v hv => (by cases hv), offR.zero _ _, offR.zero _ _, Hd.out.off.sub (fun g hg => by have := Hw4.out; omega)⟩, below_setRow HB5.out (by rw [Hz.out]; exact Nat.le_refl _) _⟩
  refine (show ∀ cs, PkRd (w5.setRow z cs) _ _ from fun cs => ?_) _
  have hset : ∀ cs, But (fun g => g = z) w5 (w5.setRow z cs) := fun cs => ⟨rfl, rfl, rfl, by simp, fun k _ hn => setRow_other _ _ _ _ hn⟩
  have hw0 : w0.heap.size = z + 1 := by rw [← Ew.out, ← Hz.out]; simp
  have hz4 := Hz4.out
  have hH5 := HOl5.out.but (hset cs) (fun k hk e => by omega)
  (have hD5 := Hd.out.but (hset cs) (fun k hk e => by omega); exact ⟨HH_.out, ⟨hH5.cap, hH5.capMax⟩, hH5.rd HHo.out, zero_rd _, zeroDg_num, ⟨Nat.le_refl _, by simp [maxLen]⟩, Rd.nil _ _, Hdn.out.1, ⟨hD5.cap, hD5.capMax⟩, hD5.rd Hdn.out.2⟩)
end Go.Proofs.YtoegfgbalcholaaGreat

/-
  What is rewritten is a packet still (stage 15, written ahead): its payload is right, whatever it is. Plain lists.
-/
namespace Go.Proofs.YtoegfgbalcholaaGreat
set_option maxRecDepth 10000
open Go.RowKit
set_option linter.unusedSimpArgs false
set_option linter.unusedVariables false

theorem part_same {b b' : List Int} (hl : b'.length = b.length) (lo hi : Nat) (h : ∀ i, lo ≤ i → i < hi → b'.getD i 0 = b.getD i 0) : (b'.take hi).drop lo = (b.take hi).drop lo := by
  refine List.ext_getElem? (fun i => ?_)
  rw [List.getElem?_drop, List.getElem?_drop]
  by_cases h1 : lo + i < hi
  · rw [List.getElem?_take_of_lt h1, List.getElem?_take_of_lt h1]
    have h2 := h (lo + i) (by omega) h1
    by_cases h3 : lo + i < b.length
    · rw [List.getElem?_eq_getElem h3, List.getElem?_eq_getElem (by omega)]
      simp only [List.getD, List.getElem?_eq_getElem h3, List.getElem?_eq_getElem (show lo + i < b'.length by omega), Option.getD_some] at h2
      rw [h2]
    · rw [List.getElem?_eq_none (by omega), List.getElem?_eq_none (by omega)]
  · rw [List.getElem?_eq_none (by rw [List.length_take]; omega), List.getElem?_eq_none (by rw [List.length_take]; omega)]
theorem tail_same {b b' : List Int} (hl : b'.length = b.length) (lo : Nat) (h : ∀ i, lo ≤ i → b'.getD i 0 = b.getD i 0) : b'.drop lo = b.drop lo := by
  have := part_same hl lo b.length (fun i h1 _ => h i h1)
  rwa [List.take_of_length_le (by omega), List.take_of_length_le (Nat.le_refl _)] at this
theorem hd_sr (b : List Int) : (hdOf b).sr = srW b := by unfold hdOf srW wordL; simp only [Nat.reduceMul, Nat.reduceAdd]; omega
theorem hd_ds (b : List Int) : (hdOf b).ds = dsW b := by unfold hdOf dsW wordL; simp only [Nat.reduceMul, Nat.reduceAdd]; omega
theorem rest_at (b : List Int) (H i : Nat) (h : (hdrL b).toNat = 2 * H) : (restOf b).getD i 0 = b.getD (2 * H + i) 0 := by
  unfold restOf
  rw [h, getD_dropW]
theorem rest_len (b : List Int) (H : Nat) (h : (hdrL b).toNat = 2 * H) : (restOf b).length = b.length - 2 * H := by
  unfold restOf
  rw [h, List.length_drop]
theorem seg_kept {H : Nat} {b b' : List Int} (hb : Bytes b) (hs : SameW 6 H (H + 8) b b') (h1 : (hdrL b).toNat = 2 * H) (h1' : (hdrL b').toNat = 2 * H) (he : errSeg (srW b) (dsW b) (restOf b) = 0)
    (hi : ∀ i, 2 * H + 4 ≤ i → i / 2 ≠ H + 8 → b'.getD i 0 = b.getD i 0) : errSeg (srW b') (dsW b') (restOf b') = 0 := by
  have l1 := rest_len b H h1
  have l2 := rest_len b' H h1'
  have hln := hs.len
  unfold errSeg at he ⊢
  have eo : offB (restOf b') = offB (restOf b) := by unfold offB; rw [rest_at b' H 12 h1', rest_at b H 12 h1, hi _ (by omega) (by omega)]
  have el : (restOf b').length = (restOf b).length := by omega
  rw [el, eo]
  by_cases c1 : 1480 < (restOf b).length
  · rw [if_pos c1] at he; cases he
  rw [if_neg c1] at he ⊢
  by_cases c2 : (restOf b).length < 20
  · rw [if_pos c2] at he; cases he
  rw [if_neg c2] at he ⊢
  by_cases c3 : offB (restOf b) < 20
  · rw [if_pos c3] at he; cases he
  rw [if_neg c3] at he ⊢
  by_cases c4 : (restOf b).length < offB (restOf b)
  · rw [if_pos c4] at he; cases he
  rw [if_neg c4] at he ⊢
  by_cases c5 : sumL (pseudoL (srW b) (dsW b) 6 (restOf b).length ++ restOf b) ≠ 65535
  · rw [if_pos c5] at he; cases he
  rw [if_neg c5] at he
  have c5' : sumL (pseudoL (srW b') (dsW b') 6 (restOf b).length ++ restOf b') = 65535 := by
    have h := Classical.not_not.1 c5
    unfold restOf at h ⊢
    rw [h1] at h ⊢
    rw [h1']
    exact load_kept (by decide) (by decide) hs hb _ (fun hc => absurd hc.1 (by decide)) h
  rw [if_neg (fun hc => hc c5')]
  have eopt : ((restOf b').take (offB (restOf b))).drop 20 = ((restOf b).take (offB (restOf b))).drop 20 :=
    part_same el 20 _ (fun i h2 _ => by rw [rest_at b' H i h1', rest_at b H i h1, hi _ (by omega) (by omega)])
  rw [eopt]
  exact he
theorem dg_kept {H : Nat} {b b' : List Int} (hb : Bytes b) (hs : SameW 17 H (H + 3) b b') (h1 : (hdrL b).toNat = 2 * H) (h1' : (hdrL b').toNat = 2 * H) (he : errU (srW b) (dsW b) (restOf b) = 0)
    (hi : ∀ i, 2 * H + 4 ≤ i → i / 2 ≠ H + 3 → b'.getD i 0 = b.getD i 0) : errU (srW b') (dsW b') (restOf b') = 0 := by
  have l1 := rest_len b H h1
  have l2 := rest_len b' H h1'
  have hln := hs.len
  have e6 : ∀ c : List Int, (hdrL c).toNat = 2 * H → n16 (restOf c) 6 = wordL c (H + 3) := fun c hc => by
    unfold n16 wordL
    rw [rest_at c H 6 hc, rest_at c H 7 hc, show 2 * H + 6 = 2 * (H + 3) by omega, show 2 * H + 7 = 2 * (H + 3) + 1 by omega]
  unfold errU at he ⊢
  have e4 : n16 (restOf b') 4 = n16 (restOf b) 4 := by unfold n16; rw [rest_at b' H 4 h1', rest_at b H 4 h1, rest_at b' H 5 h1', rest_at b H 5 h1, hi _ (by omega) (by omega), hi _ (by omega) (by omega)]
  have el : (restOf b').length = (restOf b).length := by omega
  rw [el, e4, e6 b' h1']
  rw [e6 b h1] at he
  by_cases c1 : 1480 < (restOf b).length
  · rw [if_pos c1] at he; cases he
  rw [if_neg c1] at he ⊢
  by_cases c2 : (restOf b).length < 8
  · rw [if_pos c2] at he; cases he
  rw [if_neg c2] at he ⊢
  by_cases c3 : n16 (restOf b) 4 ≠ ((restOf b).length : Int)
  · rw [if_pos c3] at he; cases he
  rw [if_neg c3] at he ⊢
  by_cases c4 : wordL b (H + 3) ≠ 0 ∧ sumL (pseudoL (srW b) (dsW b) 17 (restOf b).length ++ restOf b) ≠ 65535
  · rw [if_pos c4] at he; cases he
  rw [if_neg (fun hc => ?_)]
  by_cases h0 : wordL b (H + 3) = 0
  · exact hc.1 (hs.z rfl h0)
  · have h : sumL (pseudoL (srW b) (dsW b) 17 (restOf b).length ++ restOf b) = 65535 := Classical.byContradiction (fun hq => c4 ⟨h0, hq⟩)
    refine hc.2 ?_
    unfold restOf at h ⊢
    rw [h1] at h ⊢
    rw [h1']
    exact load_kept (by decide) (by decide) hs hb _ (fun hq => h0 hq.2) h
theorem msg_kept {H : Nat} {b b' : List Int} (hs : SameW 1 H (H + 1) b b') (h1 : (hdrL b).toNat = 2 * H) (h1' : (hdrL b').toNat = 2 * H) (he : errM (restOf b) = 0) : errM (restOf b') = 0 := by
  have l1 := rest_len b H h1
  have l2 := rest_len b' H h1'
  have hln := hs.len
  unfold errM at he ⊢
  have el : (restOf b').length = (restOf b).length := by omega
  rw [el]
  by_cases c1 : 1480 < (restOf b).length
  · rw [if_pos c1] at he; cases he
  rw [if_neg c1] at he ⊢
  by_cases c2 : (restOf b).length < 8
  · rw [if_pos c2] at he; cases he
  rw [if_neg c2] at he ⊢
  by_cases c3 : sumL (restOf b) = 65535
  · have : sumL (restOf b') = 65535 := by
      unfold restOf at c3 ⊢
      rw [h1] at c3
      rw [h1']
      exact load_kept1 hs c3
    rw [if_pos this]
  · rw [if_neg c3] at he; cases he
end Go.Proofs.YtoegfgbalcholaaGreat

/-
  packet.Parse over all bytes: an error or the packet of the bytes (stage 15, written ahead).
-/
namespace Go.Proofs.YtoegfgbalcholaaGreat
set_option maxRecDepth 10000
open Go.RowKit
set_option linter.unusedSimpArgs false
set_option linter.unusedVariables false

/-- What packet.Parse tells of bytes. -/
def errAll (b : List Int) : Int :=
  if errIp b ≠ 0 then errIp b
  else if (hdOf b).pr = 6 then errSeg (hdOf b).sr (hdOf b).ds (restOf b)
  else if (hdOf b).pr = 17 then errU (hdOf b).sr (hdOf b).ds (restOf b)
  else if (hdOf b).pr = 1 then errM (restOf b)
  else 22
/-- The packet of bytes. -/
def pkOfB (b : List Int) : Pk :=
  if (hdOf b).pr = 6 then ⟨hdOf b, segOf (restOf b) (offB (restOf b)), zeroDg, zeroM⟩
  else if (hdOf b).pr = 17 then ⟨hdOf b, zeroSeg, dgOf (restOf b), zeroM⟩
  else ⟨hdOf b, zeroSeg, zeroDg, msgOf (restOf b)⟩
theorem errAll_ip {b : List Int} (h : errAll b = 0) : errIp b = 0 := by
  unfold errAll at h
  by_cases h1 : errIp b ≠ 0
  · rw [if_pos h1] at h; exact h
  · omega
theorem errAll_pr {b : List Int} (h : errAll b = 0) : (hdOf b).pr = 6 ∨ (hdOf b).pr = 17 ∨ (hdOf b).pr = 1 := by
  unfold errAll at h
  by_cases h1 : errIp b ≠ 0
  · rw [if_pos h1] at h; exact absurd h h1
  rw [if_neg h1] at h
  by_cases h6 : (hdOf b).pr = 6
  · exact .inl h6
  by_cases h17 : (hdOf b).pr = 17
  · exact .inr (.inl h17)
  by_cases h3 : (hdOf b).pr = 1
  · exact .inr (.inr h3)
  rw [if_neg h6, if_neg h17, if_neg h3] at h
  cases h
theorem pkOfB_h (b : List Int) : (pkOfB b).h = hdOf b := by
  unfold pkOfB
  split
  · rfl
  · split <;> rfl
theorem parse9_ok (A : Option Addr) (n c : Nat) (b : List Int) (w : World) (hc : n ≤ c ∧ c ≤ maxLen) (hn : n ≤ 140737488355328) (hA : Rd w A n b) (he : errAll b = 0) :
    Calls Tryz.prog 7 #[.slice A n c] w (PkGood (pkOfB b) w) := by
  unfold errAll at he
  have h1 : ¬ errIp b ≠ 0 := fun h => by rw [if_pos h] at he; exact h he
  have h2 : errIp b = 0 := by omega
  rw [if_neg h1] at he
  unfold pkOfB
  by_cases h6 : (hdOf b).pr = 6
  · rw [if_pos h6] at he ⊢
    exact parse9_good_6 A n c _ _ _ b _ _ _ w hc hn hA h2 rfl rfl rfl rfl h6 he rfl rfl
  rw [if_neg h6] at he ⊢
  by_cases h17 : (hdOf b).pr = 17
  · rw [if_pos h17] at he ⊢
    exact parse9_good_17 A n c _ _ _ b _ _ _ w hc hn hA h2 rfl rfl rfl rfl h17 he rfl rfl
  rw [if_neg h17] at he ⊢
  by_cases h3 : (hdOf b).pr = 1
  · rw [if_pos h3] at he
    exact parse9_good_1 A n c _ _ _ b _ _ _ w hc hn hA h2 rfl rfl rfl rfl h3 he rfl rfl
  rw [if_neg h3] at he
  cases he
end Go.Proofs.YtoegfgbalcholaaGreat

/-
  A packet's bytes under changes of its words: they are a packet still; one hop (stage 15, written ahead). Plain lists.
-/
namespace Go.Proofs.YtoegfgbalcholaaGreat
set_option maxRecDepth 10000
open Go.RowKit
set_option linter.unusedSimpArgs false
set_option linter.unusedVariables false

/-- How many words a header has; the word of the payload's field. -/
def hdW (b : List Int) : Nat := 2 * (b.getD 0 0 % 16).toNat
def fldW (b : List Int) : Nat := if b.getD 9 0 = 6 then hdW b + 8 else if b.getD 9 0 = 17 then hdW b + 3 else hdW b + 1
theorem hd_pr (b : List Int) : (hdOf b).pr = b.getD 9 0 := rfl
theorem pk_w {b : List Int} (hb : Bytes b) (he : errAll b = 0) : PkW (hdW b) b := PkW.of (errAll_ip he) hb
/-- Each part's own error of a packet's bytes is none. -/
theorem parts_ok {b : List Int} (he : errAll b = 0) :
    (b.getD 9 0 = 6 → errSeg (srW b) (dsW b) (restOf b) = 0) ∧ (b.getD 9 0 = 17 → errU (srW b) (dsW b) (restOf b) = 0) ∧ (b.getD 9 0 = 1 → errM (restOf b) = 0) := by
  have h1 := errAll_ip he
  unfold errAll at he
  rw [if_neg (by omega), hd_sr, hd_ds, hd_pr] at he
  refine ⟨fun h => ?_, fun h => ?_, fun h => ?_⟩
  · rw [if_pos h] at he; exact he
  · rw [if_neg (by omega), if_pos h] at he; exact he
  · rw [if_neg (by omega), if_neg (by omega), if_pos h] at he; exact he
theorem errAll_of {b : List Int} (h0 : errIp b = 0) (hp : b.getD 9 0 = 6 ∨ b.getD 9 0 = 17 ∨ b.getD 9 0 = 1)
    (h6 : b.getD 9 0 = 6 → errSeg (srW b) (dsW b) (restOf b) = 0) (h17 : b.getD 9 0 = 17 → errU (srW b) (dsW b) (restOf b) = 0) (h1 : b.getD 9 0 = 1 → errM (restOf b) = 0) : errAll b = 0 := by
  unfold errAll
  rw [if_neg (by omega), hd_sr, hd_ds, hd_pr]
  rcases hp with h | h | h
  · rw [if_pos h]; exact h6 h
  · rw [if_neg (by omega), if_pos h]; exact h17 h
  · rw [if_neg (by omega), if_neg (by omega), if_pos h]; exact h1 h
theorem seg_long {s d : Int} {b : List Int} (h : errSeg s d b = 0) : 20 ≤ b.length := by
  unfold errSeg at h
  by_cases h1 : 1480 < b.length
  · omega
  rw [if_neg h1] at h
  by_cases h2 : b.length < 20
  · rw [if_pos h2] at h; cases h
  · omega
theorem dg_long {s d : Int} {b : List Int} (h : errU s d b = 0) : 8 ≤ b.length := by
  unfold errU at h
  by_cases h1 : 1480 < b.length
  · omega
  rw [if_neg h1] at h
  by_cases h2 : b.length < 8
  · rw [if_pos h2] at h; cases h
  · omega
theorem pk_lay {b : List Int} (hb : Bytes b) (he : errAll b = 0) : LayW (hdW b) (fldW b) b := by
  have hw := pk_w hb he
  have ht := hw.ten
  have hl := rest_len b (hdW b) hw.hH
  obtain ⟨g6, g17, g1⟩ := parts_ok he
  have hp := errAll_pr he
  rw [hd_pr] at hp
  unfold fldW
  rcases hp with h | h | h
  · rw [if_pos h]
    have := seg_long (g6 h)
    exact ⟨hb, ht.1, by omega, by omega⟩
  · rw [if_neg (by omega), if_pos h]
    have := dg_long (g17 h)
    exact ⟨hb, ht.1, by omega, by omega⟩
  · rw [if_neg (by omega), if_neg (by omega)]
    have := errM_eight (g1 h)
    exact ⟨hb, ht.1, by omega, by omega⟩
/-- The bytes, some words of which became others. -/
def rwB (b : List Int) (ks : List (Nat × Int)) : List Int := rwW (b.getD 9 0) (hdW b) (fldW b) b ks
/-- A word that may become another one, and what. -/
def MayW (b : List Int) (p : Nat × Int) : Prop :=
  U16 p.2 ∧ ((p.1 = 4 ∧ p.2 % 256 = b.getD 9 0 ∧ p.2 / 256 ≠ 0) ∨ (6 ≤ p.1 ∧ p.1 ≤ 9) ∨ (b.getD 9 0 ≠ 1 ∧ hdW b ≤ p.1 ∧ p.1 ≤ hdW b + 1) ∨ (b.getD 9 0 = 1 ∧ p.1 = hdW b + 2))
theorem may_keys {b : List Int} {ks : List (Nat × Int)} (hb : Bytes b) (he : errAll b = 0) (hk : ∀ p ∈ ks, MayW b p) : KeysW (fldW b) b.length ks := by
  intro p hp
  have hl := pk_lay hb he
  have hr := rest_len b (hdW b) (pk_w hb he).hH
  obtain ⟨hu, hm⟩ := hk p hp
  have h1 := hl.h10
  have h2 := hl.hF
  have h3 := hl.len
  obtain ⟨g6, g17, g1⟩ := parts_ok he
  have hpr := errAll_pr he
  rw [hd_pr] at hpr
  have hF : fldW b = if b.getD 9 0 = 6 then hdW b + 8 else if b.getD 9 0 = 17 then hdW b + 3 else hdW b + 1 := rfl
  have h8 : 8 ≤ (restOf b).length := by
    rcases hpr with h | h | h
    · have := seg_long (g6 h); omega
    · exact dg_long (g17 h)
    · exact errM_eight (g1 h)
  refine ⟨by omega, ?_, by omega, hu⟩
  rcases hpr with h | h | h
  · rw [if_pos h] at hF; omega
  · rw [if_neg (by omega), if_pos h] at hF; omega
  · rw [if_neg (by omega), if_neg (by omega)] at hF; omega
/-- What is rewritten is a packet still, of the same protocol and header's length. -/
theorem rw_kept {b : List Int} {ks : List (Nat × Int)} (hb : Bytes b) (he : errAll b = 0) (hk : ∀ p ∈ ks, MayW b p) :
    errAll (rwB b ks) = 0 ∧ Bytes (rwB b ks) ∧ (rwB b ks).length = b.length ∧ hdW (rwB b ks) = hdW b ∧ (rwB b ks).getD 9 0 = b.getD 9 0 ∧ SameW (b.getD 9 0) (hdW b) (fldW b) b (rwB b ks) := by
  have hl := pk_lay hb he
  have hkeys := may_keys hb he hk
  have hs : SameW (b.getD 9 0) (hdW b) (fldW b) b (rwB b ks) := rwW_same ks hl hkeys
  have hat : ∀ {i : Nat}, i / 2 ≠ 5 → i / 2 ≠ fldW b → (rwB b ks).getD i 0 = _ := rwW_byte (pr := b.getD 9 0) ks hl hkeys
  have h10 := hl.h10
  have hF := hl.hF
  have hfar : ∀ k, (∀ p ∈ ks, p.1 ≠ k) → ∀ i, i / 2 = k → k ≠ 5 → k ≠ fldW b → (rwB b ks).getD i 0 = b.getD i 0 := fun k hno i e h5 hf => by
    rw [hat (by omega) (by omega), e, lastW_none.2 hno]
  have hlow : ∀ i, i < 8 → (rwB b ks).getD i 0 = b.getD i 0 := fun i hi => hfar (i / 2) (fun p hp e => by obtain ⟨_, hm⟩ := hk p hp; omega) i rfl (by omega) (by omega)
  have h4 : (rwB b ks).getD 8 0 ≠ 0 ∧ (rwB b ks).getD 9 0 = b.getD 9 0 := by
    have e8 := hat (i := 8) (by decide) (by omega)
    have e9 := hat (i := 9) (by decide) (by omega)
    cases hh : lastW ks 4 with
    | none =>
      rw [hh] at e8 e9
      have hip := (errIp_parts b).1 (errAll_ip he)
      exact ⟨by rw [e8]; exact hip.2.2.2.2.2.2.2.2.2, e9⟩
    | some n =>
      rw [hh] at e8 e9
      have hm : ∃ p ∈ ks, p.1 = 4 ∧ p.2 = n := lastW_mem hh
      obtain ⟨p, hp, h1, h2⟩ := hm
      obtain ⟨hu, hq⟩ := hk p hp
      rw [h2] at hq
      simp only at e8 e9
      rw [if_pos (by decide)] at e8
      rw [if_neg (by decide)] at e9
      exact ⟨by omega, by omega⟩
  have hw := (pk_w hb he).kept hs hlow h4.1
  have e0 : hdW (rwB b ks) = hdW b := by unfold hdW; rw [hlow 0 (by omega)]
  obtain ⟨g6, g17, g1⟩ := parts_ok he
  have hp := errAll_pr he
  rw [hd_pr] at hp
  have hb1 := (pk_w hb he).hH
  refine ⟨errAll_of hw.ok (by rw [h4.2]; exact hp) ?_ ?_ ?_, hs.lay.byte, hs.len, e0, h4.2, hs⟩
  · rw [h4.2]
    intro h
    have hFe : fldW b = hdW b + 8 := by unfold fldW; rw [if_pos h]
    rw [h, hFe] at hs
    exact seg_kept hb hs hb1 hw.hH (g6 h) (fun i hi hF8 => hfar (i / 2) (fun p hp e => by obtain ⟨_, hm⟩ := hk p hp; omega) i rfl (by omega) (by omega))
  · rw [h4.2]
    intro h
    have hFe : fldW b = hdW b + 3 := by unfold fldW; rw [if_neg (by omega), if_pos h]
    rw [h, hFe] at hs
    exact dg_kept hb hs hb1 hw.hH (g17 h) (fun i hi hF8 => hfar (i / 2) (fun p hp e => by obtain ⟨_, hm⟩ := hk p hp; omega) i rfl (by omega) (by omega))
  · rw [h4.2]
    intro h
    have hFe : fldW b = hdW b + 1 := by unfold fldW; rw [if_neg (by omega), if_neg (by omega)]
    rw [h, hFe] at hs
    exact msg_kept hs hb1 hw.hH (g1 h)
end Go.Proofs.YtoegfgbalcholaaGreat
