/-
  Texts laid together: TupRef, NatFace, NatKnownW, NatWakes.
-/
import Derived.Test.YtheknmihnkennaaGreatZC32
import Derived.Test.YtheknmihnkennaaGreatZC09
import Derived.Test.YtheknmihnkennaaGreatZC05
import Derived.Test.YtheknmihnkennaaGreatZC03
import Derived.Deep.CutRange
import Derived.RegionTactic
import Derived.Test.YtheknmihnkennaaGreatZC31
import Derived.Test.YtheknmihnkennaaGreatZC29
import Derived.Test.YtheknmihnkennaaGreatZC24
import Derived.Test.YtheknmihnkennaaGreatZC07
import Derived.BigRegion
import Derived.Test.YtheknmihnkennaaGreatZC25

/-
  The document's own answers for tuples (culvertref10): Reverse, Of, Bytes, Compare.
-/
namespace Go.Proofs.YtheknmihnkennaaGreat
set_option maxRecDepth 10000
open Go.RowKit
set_option linter.unusedSimpArgs false
set_option linter.unusedVariables false

/-- A packet's tuple, if it has one. -/
def isT (p : Pk) : Bool := decide (p.h.pr = 6) || (decide (p.h.pr = 17) || (decide (p.h.pr = 1) && echoM p.m.ty p.m.cd))
def zeroTu : Tu := ⟨0, 0, 0, 0, 0⟩
def tupT (p : Pk) : Tu := if p.h.pr = 6 then ⟨p.h.pr, p.h.sr, p.h.ds, p.s.sp, p.s.dp⟩ else if p.h.pr = 17 then ⟨p.h.pr, p.h.sr, p.h.ds, p.u.sp, p.u.dp⟩ else if p.h.pr = 1 ∧ echoM p.m.ty p.m.cd = true then ⟨p.h.pr, p.h.sr, p.h.ds, p.m.rs / 65536, 0⟩ else zeroTu
def OfIs (t : Tu) (x : Bool) (w : World) (e : Ending) (w' : World) : Prop := e = .returned (.tuple #[.agg #[.int .u8 t.pr, .int .u32 t.sr, .int .u32 t.ds, .int .u16 t.sp, .int .u16 t.dp], .bool x]) ∧ Below w.heap.size w w'
end Go.Proofs.YtheknmihnkennaaGreat

/-
  What Hop and Rewrite must do, as the laws ask it (stage 15, written ahead).
-/
namespace Go.Proofs.YtheknmihnkennaaGreat
set_option maxRecDepth 10000
open Go.RowKit
set_option linter.unusedSimpArgs false
set_option linter.unusedVariables false

/-- Bytes of the call's own and an error. -/
def OwnGot (L : List Int) (m : Nat) (x : Int) (w : World) (e : Ending) (w' : World) : Prop := ∃ A c, e = .returned (.tuple #[.slice A m c, .int .i64 x]) ∧ OwnB w' w.heap.size A m c L ∧ Below w.heap.size w w'
/-- What Hop does with any bytes of at most 1600. -/
def HopF : Prop := ∀ (A : Option Addr) (n c : Nat) (l : List Int) (w : World) (L : List Int) (m : Nat) (x : Int), n ≤ c ∧ c ≤ maxLen → n ≤ 1600 → Rd w A n l → hopT l = L → L.length = m → errHop l = x →
  Calls Tryz.prog 7 #[.slice A n c] w (OwnGot L m x w)
/-- The words that become the tuple's. -/
def portK (b : List Int) (t : Tu) : List (Nat × Int) := if b.getD 9 0 = 1 then [(hdW b + 2, t.sp)] else [(hdW b, t.sp), (hdW b + 1, t.dp)]
def rwK (b : List Int) (t : Tu) (hop : Bool) : List (Nat × Int) := [(6, t.sr / 65536), (7, t.sr % 65536), (8, t.ds / 65536), (9, t.ds % 65536)] ++ (portK b t ++ (if hop = true then [hopK b] else []))
/-- What Rewrite tells of any bytes. -/
def errRw (b : List Int) (t : Tu) (hop : Bool) : Int :=
  if errAll b ≠ 0 then errAll b
  else if isT (pkOfB b) = false then 22
  else if t.pr ≠ b.getD 9 0 ∨ (t.pr = 1 ∧ t.dp ≠ 0) then 1
  else if hop = true ∧ b.getD 8 0 = 1 then 23
  else 0
def rwT (b : List Int) (t : Tu) (hop : Bool) : List Int := if errRw b t hop = 0 then rwB b (rwK b t hop) else []
def RwF : Prop := ∀ (A : Option Addr) (n c : Nat) (l : List Int) (t : Tu) (hop : Bool) (w : World) (L : List Int) (m : Nat) (x : Int), n ≤ c ∧ c ≤ maxLen → n ≤ 1600 → Rd w A n l → TuNum t → rwT l t hop = L → L.length = m → errRw l t hop = x →
  Calls Tryz.prog 11 #[.slice A n c, .agg #[.int .u8 t.pr, .int .u32 t.sr, .int .u32 t.ds, .int .u16 t.sp, .int .u16 t.dp], .bool hop] w (OwnGot L m x w)
def AwF : Prop := ∀ w : World, Calls Tryz.prog 8 #[] w (Woke w)
/-- The words of a rewriting may be changed. -/
theorem rw_may {b : List Int} {t : Tu} {hop : Bool} (hb : Bytes b) (ht : TuNum t) (h8 : hop = true → 1 < b.getD 8 0) : ∀ p ∈ rwK b t hop, MayW b p := by
  have h1 := ht.sr; have h2 := ht.ds; have h3 := ht.sp; have h4 := ht.dp
  intro p hp
  unfold rwK at hp
  rcases List.mem_append.1 hp with hp | hp
  · simp only [List.mem_cons, List.not_mem_nil, or_false] at hp
    rcases hp with rfl | rfl | rfl | rfl
    · exact ⟨⟨by simp only; omega, by simp only; omega⟩, .inr (.inl ⟨by simp only; omega, by simp only; omega⟩)⟩
    · exact ⟨⟨by simp only; omega, by simp only; omega⟩, .inr (.inl ⟨by simp only; omega, by simp only; omega⟩)⟩
    · exact ⟨⟨by simp only; omega, by simp only; omega⟩, .inr (.inl ⟨by simp only; omega, by simp only; omega⟩)⟩
    · exact ⟨⟨by simp only; omega, by simp only; omega⟩, .inr (.inl ⟨by simp only; omega, by simp only; omega⟩)⟩
  rcases List.mem_append.1 hp with hp | hp
  · unfold portK at hp
    by_cases hc : b.getD 9 0 = 1
    · rw [if_pos hc] at hp
      rcases List.mem_singleton.1 hp
      exact ⟨⟨by simp only; omega, by simp only; omega⟩, .inr (.inr (.inr ⟨hc, rfl⟩))⟩
    · rw [if_neg hc] at hp
      simp only [List.mem_cons, List.not_mem_nil, or_false] at hp
      rcases hp with rfl | rfl
      · exact ⟨⟨by simp only; omega, by simp only; omega⟩, .inr (.inr (.inl ⟨hc, by simp only; omega, by simp only; omega⟩))⟩
      · exact ⟨⟨by simp only; omega, by simp only; omega⟩, .inr (.inr (.inl ⟨hc, by simp only; omega, by simp only; omega⟩))⟩
  · by_cases hh : hop = true
    · rw [if_pos hh] at hp
      exact hop_may hb (h8 hh) p hp
    · rw [if_neg hh] at hp; cases hp
end Go.Proofs.YtheknmihnkennaaGreat

/-
  NatKnown: the walk, over what Rewrite, Hop and awake tell (stage 15, written ahead).
-/
namespace Go.Proofs.YtheknmihnkennaaGreat.natKnownW
set_option maxRecDepth 10000
open Go.ChangeShapes Go.WideShapes Go.ChangeAt Go.RowKit
set_option linter.unusedVariables false
set_option linter.unusedSimpArgs false

def pI : Pk := ⟨⟨0, 0, false, 1, 1, 1, 2, []⟩, zeroSeg, zeroDg, ⟨8, 0, 327681, []⟩⟩
def pJ : Pk := ⟨⟨0, 0, false, 1, 1, 1, 2, []⟩, zeroSeg, zeroDg, ⟨3, 1, 0, []⟩⟩
def pU : Pk := ⟨⟨0, 0, false, 9, 17, 1, 2, []⟩, zeroSeg, ⟨5, 6, [120, 121, 122]⟩, zeroM⟩
def zA : PkA := ⟨none, 0, 0, none, 0, 0, [], none, 0, 0, none, 0, 0, none, 0, 0⟩
def t9 : Tu := ⟨1, 3, 2, 9, 0⟩
def t91 : Tu := ⟨1, 3, 2, 9, 1⟩
def t6 : Tu := ⟨6, 0, 0, 0, 0⟩
def t1 : Tu := ⟨1, 0, 0, 0, 0⟩
def t17 : Tu := ⟨17, 7, 8, 9, 10⟩
def u0 (l : List Int) : List Int := (l.set 26 0).set 27 0
structure I1 (L C : List Int) : Prop where
  put : pkB pI = L
  err : errPk pI = 0
  len : L.length = 28
  e1 : errRw L t9 true = 23
  l1 : rwT L t9 true = []
  e2 : errRw L t9 false = 0
  l2 : rwT L t9 false = C
  n2 : C.length = 28
  b2 : Bytes C
  e3 : errAll C = 0
  m3 : ((pkOfB C).m.rs == 589825) = true
  e4 : errRw L t91 false = 1
  l4 : rwT L t91 false = []
  e5 : errRw L t6 false = 1
  l5 : rwT L t6 false = []
  e6 : errHop L = 23
  l6 : hopT L = []
theorem i1 : ∃ L C, I1 L C := ⟨_, _, rfl, by decide +kernel, by decide +kernel, by decide +kernel, by decide +kernel, by decide +kernel, rfl, by decide +kernel, by unfold Bytes; decide +kernel, by decide +kernel, by decide +kernel, by decide +kernel, by decide +kernel, by decide +kernel, by decide +kernel, by decide +kernel, by decide +kernel⟩
structure J1 (L : List Int) : Prop where
  put : pkB pJ = L
  err : errPk pJ = 0
  len : L.length = 28
  e1 : errRw L t1 false = 22
  l1 : rwT L t1 false = []
theorem j1 : ∃ L, J1 L := ⟨_, rfl, by decide +kernel, by decide +kernel, by decide +kernel, by decide +kernel⟩
structure U1 (L V : List Int) : Prop where
  put : pkB pU = L
  err : errPk pU = 0
  len : L.length = 31
  byte : Bytes (u0 L)
  e1 : errRw (u0 L) t17 true = 0
  l1 : rwT (u0 L) t17 true = V
  n1 : V.length = 31
  b1 : Bytes V
  a26 : (V.getD 26 0 == 0) = true
  a27 : (V.getD 27 0 == 0) = true
  a8 : (V.getD 8 0 == 8) = true
theorem u1 : ∃ L V, U1 L V := ⟨_, _, rfl, by decide +kernel, by decide +kernel, by unfold Bytes; decide +kernel, by decide +kernel, rfl, by decide +kernel, by unfold Bytes; decide +kernel, by decide +kernel, by decide +kernel, by decide +kernel⟩
theorem h_nil : errHop [] = 4 ∧ hopT [] = [] := by decide +kernel
theorem zI (w : World) : PkRd w pI zA := ⟨⟨by decide, by decide, by decide, by decide, by decide, by decide⟩, ⟨Nat.le_refl _, by simp [zA, maxLen]⟩, Rd.nil _ _, zero_rd _, zeroDg_num, ⟨Nat.le_refl _, by simp [zA, maxLen]⟩, Rd.nil _ _, ⟨by decide, by decide, by decide⟩, ⟨Nat.le_refl _, by simp [zA, maxLen]⟩, Rd.nil _ _⟩
theorem zJ (w : World) : PkRd w pJ zA := ⟨⟨by decide, by decide, by decide, by decide, by decide, by decide⟩, ⟨Nat.le_refl _, by simp [zA, maxLen]⟩, Rd.nil _ _, zero_rd _, zeroDg_num, ⟨Nat.le_refl _, by simp [zA, maxLen]⟩, Rd.nil _ _, ⟨by decide, by decide, by decide⟩, ⟨Nat.le_refl _, by simp [zA, maxLen]⟩, Rd.nil _ _⟩
theorem tn9 : TuNum t9 := ⟨by decide, by decide, by decide, by decide, by decide⟩
theorem tn91 : TuNum t91 := ⟨by decide, by decide, by decide, by decide, by decide⟩
theorem tn6 : TuNum t6 := ⟨by decide, by decide, by decide, by decide, by decide⟩
theorem tn1 : TuNum t1 := ⟨by decide, by decide, by decide, by decide, by decide⟩
theorem tn17 : TuNum t17 := ⟨by decide, by decide, by decide, by decide, by decide⟩
theorem own_free {w : World} {B g n c : Nat} {l : List Int} (h : OwnB w B (some ⟨g, 0, none⟩) n c l) (i : Nat) : w.frozen? ⟨g, i, none⟩ = false := by
  rcases h.2 with ⟨e, _⟩ | ⟨g', cap, cur, e, _, hg, _⟩
  · injection e with e _ _; cases e
  · injection e with e _ _
    injection e with e
    injection e with e _ _
    subst e
    exact blk_free hg i
set_option maxHeartbeats 4000000 in
theorem walk (rw_ : RwF) (hop : HopF) (aw : AwF) (W : World) :
    Calls Tryz.prog 5 #[] W fun e w' => e = .returned (.bool true) ∧ Below W.heap.size W w' := by
  have Rw := Lib.hid rw_
  have Hop := Lib.hid hop
  have Aw := Lib.hid aw
  clear rw_ hop aw
  obtain ⟨L, C, hI⟩ := i1
  obtain ⟨M, hJ⟩ := j1
  obtain ⟨U, V, hU⟩ := u1
  have HI := Lib.hid hI
  have HJ := Lib.hid hJ
  have HU := Lib.hid hU
  clear hI hJ hU
  obtain ⟨g, eg⟩ : ∃ g, W.heap.size = g := ⟨_, rfl⟩
  obtain ⟨w1, ew1⟩ : ∃ v, W.alloc (.cells #[.int .u8 0, .int .u16 0, .bool false, .int .u8 1, .int .u8 1, .int .u32 1, .int .u32 2, .slice none 0 0, .int .u16 0, .int .u16 0, .int .u32 0, .int .u32 0, .int .u8 0, .int .u16 0, .int .u16 0, .slice none 0 0, .slice none 0 0, .int .u16 0, .int .u16 0, .slice none 0 0, .int .u8 8, .int .u8 0, .int .u32 327681, .slice none 0 0] 35) = v := ⟨_, rfl⟩
  have HB1 := Lib.hid (show Below W.heap.size W w1 by rw [← ew1]; exact (Below.refl _ _).alloc (Nat.le_refl _) _)
  have HK1 := Lib.hid (show w1.heap[g]? = some (.cells #[.int .u8 0, .int .u16 0, .bool false, .int .u8 1, .int .u8 1, .int .u32 1, .int .u32 2, .slice none 0 0, .int .u16 0, .int .u16 0, .int .u32 0, .int .u32 0, .int .u8 0, .int .u16 0, .int .u16 0, .slice none 0 0, .slice none 0 0, .int .u16 0, .int .u16 0, .slice none 0 0, .int .u8 8, .int .u8 0, .int .u32 327681, .slice none 0 0] 35 (0, 0)) by rw [← ew1, ← eg]; exact heap_alloc_new W _)
  have Ew1 := Lib.hid ew1
  have Eg := Lib.hid eg
  clear ew1 eg
  go_enter Tryz.func5, Tryz.ntmps5
  go_upto_region 2 with (refine wp_store_new 35 (.tmp 1) (.tmp 28) rfl rfl W _ _ rfl rfl (by kernel_rfl) rfl (by simp [Value.oneCell']) ?_)
  rw [Ew1.out]
  try rw [Eg.out]
  try simp only []
  repeat (first | (refine wp_load_row 35 (.tmp 1) rfl g _ _ _ _ HK1.out rfl Tryz.underlying35 rfl (by kernel_rfl) ?_; simp only [Act.put, List.setIfInBounds_toArray, List.set_cons_zero, List.set_cons_succ]) | go_values | go_skip | go_guarded | go_step | go_upon | go_back)
  refine (show Calls Tryz.prog _ #[.agg #[.int .u8 0, .int .u16 0, .bool false, .int .u8 1, .int .u8 1, .int .u32 1, .int .u32 2, .slice none 0 0, .int .u16 0, .int .u16 0, .int .u32 0, .int .u32 0, .int .u8 0, .int .u16 0, .int .u16 0, .slice none 0 0, .slice none 0 0, .int .u16 0, .int .u16 0, .slice none 0 0, .int .u8 8, .int .u8 0, .int .u32 327681, .slice none 0 0]] w1 (PutOwn9 L 28 0 w1) from put9_own pI zA w1 L 28 0 (zI _) (by decide) (by decide) HI.out.err HI.out.put HI.out.len).mono ?_
  rintro e w2 ⟨A2, c2, rfl, hc2, how2, hr2, hb2⟩
  have HoffA := Lib.hid (show offR (fun k => k = g) A2 28 from how2.off.sub (fun k hk => by subst hk; exact lt_of_block HK1.out))
  clear how2
  have HB2 := Lib.hid (HB1.out.trans (hb2.mono HB1.out.size))
  have HK2 := Lib.hid (blk_on HK1.out hb2)
  have HR2 := Lib.hid hr2
  have Hc2 := Lib.hid hc2
  clear hb2 hr2 hc2 HB1 HK1 Ew1
  have HBw2 := HB2
  have HKw2 := HK2
  have HRw2 := HR2
  clear HB2 HK2 HR2
  try simp only []
  repeat (first | go_values | go_skip | go_guarded | go_step | go_upon | go_back)
  refine (show Calls Tryz.prog _ #[.slice A2 28 c2, .agg #[.int .u8 1, .int .u32 3, .int .u32 2, .int .u16 9, .int .u16 0], .bool true] w2 (OwnGot [] 0 23 w2) from Rw.out A2 28 c2 L t9 true w2 [] 0 23 Hc2.out (by decide) HRw2.out tn9 HI.out.l1 rfl HI.out.e1).mono ?_
  rintro e w3 ⟨Aw3, cw3, rfl, ho, hb⟩
  have HBw3 := Lib.hid (HBw2.out.trans (hb.mono HBw2.out.size))
  have HKw3 := Lib.hid (blk_on HKw2.out hb)
  have HRw3 := Lib.hid (HRw2.out.below hb)
  clear ho hb
  try simp only []
  repeat (first | go_values | go_skip | go_guarded | go_step | go_upon | go_back)
  refine (show Calls Tryz.prog _ #[.slice A2 28 c2, .agg #[.int .u8 1, .int .u32 3, .int .u32 2, .int .u16 9, .int .u16 0], .bool false] w3 (OwnGot C 28 0 w3) from Rw.out A2 28 c2 L t9 false w3 C 28 0 Hc2.out (by decide) HRw3.out tn9 HI.out.l2 HI.out.n2 HI.out.e2).mono ?_
  rintro e w4 ⟨Aw4, cw4, rfl, ho, hb⟩
  have HBw4 := Lib.hid (HBw3.out.trans (hb.mono HBw3.out.size))
  have HKw4 := Lib.hid (blk_on HKw3.out hb)
  have HRw4 := Lib.hid (HRw3.out.below hb)
  have HC4 := Lib.hid (ho.rd HI.out.b2)
  have Hc4 := Lib.hid (And.intro ho.cap ho.capMax)
  clear ho hb
  try simp only []
  repeat (first | go_values | go_skip | go_guarded | go_step | go_upon | go_back)
  have hg := parse9_ok Aw4 28 cw4 C w4 Hc4.out (by decide) HC4.out HI.out.e3
  obtain ⟨p, ep⟩ : ∃ p, pkOfB C = p := ⟨_, rfl⟩
  have hm3 := HI.out.m3
  rw [ep] at hg hm3
  have Hm3 := Lib.hid hm3
  refine hg.mono ?_
  clear hg ep hm3
  rintro e w5 ⟨a, rfl, hp, hn, hof, hb⟩
  obtain ⟨q, eq⟩ : ∃ g, w5.heap.size = g := ⟨_, rfl⟩
  obtain ⟨w6, ew6⟩ : ∃ v, w5.alloc (.cells #[.int .u8 p.h.to, .int .u16 p.h.id, .bool p.h.df, .int .u8 p.h.tt, .int .u8 p.h.pr, .int .u32 p.h.sr, .int .u32 p.h.ds, .slice a.AH a.nH a.cH, .int .u16 p.s.sp, .int .u16 p.s.dp, .int .u32 p.s.sq, .int .u32 p.s.ak, .int .u8 p.s.fl, .int .u16 p.s.wn, .int .u16 p.s.ug, .slice a.AO a.nO a.cO, .slice a.AD a.nD a.cD, .int .u16 p.u.sp, .int .u16 p.u.dp, .slice a.AU a.nU a.cU, .int .u8 p.m.ty, .int .u8 p.m.cd, .int .u32 p.m.rs, .slice a.AM a.nM a.cM] 35) = v := ⟨_, rfl⟩
  have HQw6 := Lib.hid (show w6.heap[q]? = some (.cells #[.int .u8 p.h.to, .int .u16 p.h.id, .bool p.h.df, .int .u8 p.h.tt, .int .u8 p.h.pr, .int .u32 p.h.sr, .int .u32 p.h.ds, .slice a.AH a.nH a.cH, .int .u16 p.s.sp, .int .u16 p.s.dp, .int .u32 p.s.sq, .int .u32 p.s.ak, .int .u8 p.s.fl, .int .u16 p.s.wn, .int .u16 p.s.ug, .slice a.AO a.nO a.cO, .slice a.AD a.nD a.cD, .int .u16 p.u.sp, .int .u16 p.u.dp, .slice a.AU a.nU a.cU, .int .u8 p.m.ty, .int .u8 p.m.cd, .int .u32 p.m.rs, .slice a.AM a.nM a.cM] 35 (0, 0)) by rw [← ew6, ← eq]; exact heap_alloc_new w5 _)
  have hs5 : w4.heap.size ≤ w5.heap.size := hb.size
  have hb := below_trans hb (show Below w5.heap.size w5 w6 by rw [← ew6]; exact (Below.refl _ _).alloc (Nat.le_refl _) _)
  have Hgq := Lib.hid (show g ≠ q by have h1 := lt_of_block HKw4.out; omega)
  have HBw6 := Lib.hid (HBw4.out.trans (hb.mono HBw4.out.size))
  have HKw6 := Lib.hid (blk_on HKw4.out hb)
  have HRw6 := Lib.hid (HRw4.out.below hb)
  have Ew6 := Lib.hid ew6
  have Eq := Lib.hid eq
  clear hb hs5 hp hn hof ew6 eq HC4 Hc4
  go_upto_region 6 with (refine wp_store_new 35 (.tmp 8) (.tmp 49) rfl rfl w5 _ _ rfl rfl (by kernel_rfl) rfl (by simp [Value.oneCell']) ?_)
  rw [Ew6.out]
  try rw [Eq.out]
  clear Ew6 Eq
  try simp only []
  repeat (first | go_values | go_skip | go_guarded | go_step | go_upon | go_back)
  refine (show Calls Tryz.prog _ #[.slice A2 28 c2, .agg #[.int .u8 1, .int .u32 3, .int .u32 2, .int .u16 9, .int .u16 1], .bool false] w6 (OwnGot [] 0 1 w6) from Rw.out A2 28 c2 L t91 false w6 [] 0 1 Hc2.out (by decide) HRw6.out tn91 HI.out.l4 rfl HI.out.e4).mono ?_
  rintro e w7 ⟨Aw7, cw7, rfl, ho, hb⟩
  have HBw7 := Lib.hid (HBw6.out.trans (hb.mono HBw6.out.size))
  have HKw7 := Lib.hid (blk_on HKw6.out hb)
  have HRw7 := Lib.hid (HRw6.out.below hb)
  have HQw7 := Lib.hid (blk_on HQw6.out hb)
  clear ho hb
  try simp only []
  repeat (first | go_values | go_skip | go_guarded | go_step | go_upon | go_back)
  refine (show Calls Tryz.prog _ #[.slice A2 28 c2, .agg #[.int .u8 6, .int .u32 0, .int .u32 0, .int .u16 0, .int .u16 0], .bool false] w7 (OwnGot [] 0 1 w7) from Rw.out A2 28 c2 L t6 false w7 [] 0 1 Hc2.out (by decide) HRw7.out tn6 HI.out.l5 rfl HI.out.e5).mono ?_
  rintro e w8 ⟨Aw8, cw8, rfl, ho, hb⟩
  have HBw8 := Lib.hid (HBw7.out.trans (hb.mono HBw7.out.size))
  have HKw8 := Lib.hid (blk_on HKw7.out hb)
  have HRw8 := Lib.hid (HRw7.out.below hb)
  have HQw8 := Lib.hid (blk_on HQw7.out hb)
  clear ho hb
  have f8 := blk_free HKw8.out
  have c8 := (cells24 HKw8.out).2.2.2.2.2.2.2.2.2.2.2.2.2.2.2.2.2.2.2.2
  have d0 := c8.1
  have d1 := c8.2.1
  have d2 := c8.2.2.1
  have d3 := c8.2.2.2
  clear c8
  go_upto_region 9 with (fail)
  clear f8 d0 d1 d2 d3
  obtain ⟨w9, ew9⟩ : ∃ v, (((w8.setCell ⟨g, 20, none⟩ (.int .u8 3)).setCell ⟨g, 21, none⟩ (.int .u8 1)).setCell ⟨g, 22, none⟩ (.int .u32 0)).setCell ⟨g, 23, none⟩ (.slice none 0 0) = v := ⟨_, rfl⟩
  rw [ew9]
  have hbut : But (fun k => k = g) w8 w9 := by
    rw [← ew9]
    exact ((((But.refl (fun k => k = g) w8).setCell (p := ⟨g, 20, none⟩) rfl _).setCell (p := ⟨g, 21, none⟩) rfl _).setCell (p := ⟨g, 22, none⟩) rfl _).setCell (p := ⟨g, 23, none⟩) rfl _
  have HKw9 := Lib.hid (show w9.heap[g]? = some (.cells #[.int .u8 0, .int .u16 0, .bool false, .int .u8 1, .int .u8 1, .int .u32 1, .int .u32 2, .slice none 0 0, .int .u16 0, .int .u16 0, .int .u32 0, .int .u32 0, .int .u8 0, .int .u16 0, .int .u16 0, .slice none 0 0, .slice none 0 0, .int .u16 0, .int .u16 0, .slice none 0 0, .int .u8 3, .int .u8 1, .int .u32 0, .slice none 0 0] 35 (0, 0)) by
    rw [← ew9, set_blk (set_blk (set_blk (set_blk HKw8.out _) _) _) _]; rfl)
  have HQw9 := Lib.hid (hbut.blk HQw8.out (fun e => Hgq.out e.symm))
  have HRw9 := Lib.hid (HRw8.out.offBut hbut HoffA.out)
  have HBw9 := Lib.hid (HBw8.out.trans (hbut.below (B := W.heap.size) (fun k hk => by have := Eg.out; omega) HBw8.out.size))
  clear ew9 hbut HKw8 HKw7 HKw6 HKw4 HKw3 HKw2 HRw2 HRw3 HRw4 HRw6 HRw7 HRw8 HBw2 HBw3 HBw4 HBw6 HBw7 HBw8 HQw6 HQw7 HQw8
  try simp only []
  repeat (first | (refine wp_load_row 35 (.tmp 1) rfl g _ _ _ _ HKw9.out rfl Tryz.underlying35 rfl (by kernel_rfl) ?_; simp only [Act.put, List.setIfInBounds_toArray, List.set_cons_zero, List.set_cons_succ]) | go_values | go_skip | go_guarded | go_step | go_upon | go_back)
  refine (show Calls Tryz.prog _ #[.agg #[.int .u8 0, .int .u16 0, .bool false, .int .u8 1, .int .u8 1, .int .u32 1, .int .u32 2, .slice none 0 0, .int .u16 0, .int .u16 0, .int .u32 0, .int .u32 0, .int .u8 0, .int .u16 0, .int .u16 0, .slice none 0 0, .slice none 0 0, .int .u16 0, .int .u16 0, .slice none 0 0, .int .u8 3, .int .u8 1, .int .u32 0, .slice none 0 0]] w9 (PutOwn9 M 28 0 w9) from put9_own pJ zA w9 M 28 0 (zJ _) (by decide) (by decide) HJ.out.err HJ.out.put HJ.out.len).mono ?_
  rintro e w10 ⟨A10, c10, rfl, hc10, -, hr10, hb⟩
  have HM := Lib.hid hr10
  have Hc10 := Lib.hid hc10
  have HBw10 := Lib.hid (HBw9.out.trans (hb.mono HBw9.out.size))
  have HQw10 := Lib.hid (blk_on HQw9.out hb)
  have HRw10 := Lib.hid (HRw9.out.below hb)
  clear hb hr10 hc10 HKw9 HQw9 HRw9 HBw9
  try simp only []
  repeat (first | go_values | go_skip | go_guarded | go_step | go_upon | go_back)
  refine (show Calls Tryz.prog _ #[.slice A10 28 c10, .agg #[.int .u8 1, .int .u32 0, .int .u32 0, .int .u16 0, .int .u16 0], .bool false] w10 (OwnGot [] 0 22 w10) from Rw.out A10 28 c10 M t1 false w10 [] 0 22 Hc10.out (by decide) HM.out tn1 HJ.out.l1 rfl HJ.out.e1).mono ?_
  rintro e w11 ⟨Aw11, cw11, rfl, ho, hb⟩
  have HBw11 := Lib.hid (HBw10.out.trans (hb.mono HBw10.out.size))
  have HQw11 := Lib.hid (blk_on HQw10.out hb)
  have HRw11 := Lib.hid (HRw10.out.below hb)
  clear hb ho HQw10 HRw10 HBw10 HM Hc10
  have kc := Go.Joins.run_convert_bytes_const_at (P := Tryz.prog) w11 22 5 #[.int .u8 120, .int .u8 121, .int .u8 122] 3 3 w11.heap.size rfl Tryz.underlying22 Tryz.underlying5
  try simp only []
  repeat (first | go_values | go_skip | go_guarded | go_step | go_upon | go_back)
  clear kc
  obtain ⟨w12, ew12⟩ : ∃ v, w11.alloc (.cells #[.int .u8 120, .int .u8 121, .int .u8 122] 5 (3, 4)) = v := ⟨_, rfl⟩
  rw [ew12]
  have hb12 : Below w11.heap.size w11 w12 := by rw [← ew12]; exact (Below.refl _ _).alloc (Nat.le_refl _) _
  have hX : Rd w12 (some ⟨w11.heap.size, 0, none⟩) 3 [120, 121, 122] := by rw [← ew12]; exact Rd.const_ w11 _ rfl [120, 121, 122] 5 (3, 4) (by decide)
  have hzU : PkRd w12 pU ⟨none, 0, 0, none, 0, 0, [], none, 0, 0, some ⟨w11.heap.size, 0, none⟩, 3, 3, none, 0, 0⟩ := ⟨⟨by decide, by decide, by decide, by decide, by decide, by decide⟩, ⟨Nat.le_refl _, by simp [maxLen]⟩, Rd.nil _ _, zero_rd _, ⟨by decide, by decide⟩, ⟨Nat.le_refl _, by simp [maxLen]⟩, hX, zeroM_num, ⟨Nat.le_refl _, by simp [maxLen]⟩, Rd.nil _ _⟩
  refine (show Calls Tryz.prog _ #[.agg #[.int .u8 0, .int .u16 0, .bool false, .int .u8 9, .int .u8 17, .int .u32 1, .int .u32 2, .slice none 0 0, .int .u16 0, .int .u16 0, .int .u32 0, .int .u32 0, .int .u8 0, .int .u16 0, .int .u16 0, .slice none 0 0, .slice none 0 0, .int .u16 5, .int .u16 6, .slice (some ⟨w11.heap.size, 0, none⟩) 3 3, .int .u8 0, .int .u8 0, .int .u32 0, .slice none 0 0]] w12 (PutOwn9 U 31 0 w12) from put9_own pU ⟨none, 0, 0, none, 0, 0, [], none, 0, 0, some ⟨w11.heap.size, 0, none⟩, 3, 3, none, 0, 0⟩ w12 U 31 0 hzU (by simp) (by simp) HU.out.err HU.out.put HU.out.len).mono ?_
  rintro e w13 ⟨A13, c13, rfl, hc13, ho13, hr13, hb⟩
  obtain ⟨gu, rfl, hgu, hgl⟩ := ho13.addr (by decide)
  have hb := below_trans hb12 hb
  have HBw13 := Lib.hid (HBw11.out.trans (hb.mono HBw11.out.size))
  have HQw13 := Lib.hid (blk_on HQw11.out hb)
  have HRw13 := Lib.hid (HRw11.out.below hb)
  have Hgu := Lib.hid (show q ≠ gu ∧ W.heap.size ≤ gu by have := lt_of_block HQw11.out; have := hb12.size; have := HBw11.out.size; omega)
  have Hoffu := Lib.hid (show offR (fun k => k = gu) A2 28 from HRw11.out.off.sub (fun k hk => by have := hb12.size; omega))
  have Hc13 := Lib.hid hc13
  have h1 := ho13.set_ 26 0
  have h2 := h1.set_ 27 0
  have i26 := ho13.cell 26 (by decide)
  have f26 := own_free ho13 26
  have i27 := h1.cell 27 (by decide)
  have f27 := own_free h1 27
  have Ho2 := Lib.hid h2
  clear hb hb12 hX hzU hc13 hr13 ho13 h1 h2 hgu hgl ew12 HBw11 HQw11 HRw11
  go_upto_region 15 with (fail)
  clear i26 f26 i27 f27
  obtain ⟨w15, ew15⟩ : ∃ v, (w13.setCell ⟨gu, 26, none⟩ (.int .u8 0)).setCell ⟨gu, 27, none⟩ (.int .u8 0) = v := ⟨_, rfl⟩
  have hO := Ho2.out
  rw [ew15] at hO ⊢
  have hbut : But (fun k => k = gu) w13 w15 := by rw [← ew15]; exact ((But.refl (fun k => k = gu) w13).setCell (p := ⟨gu, 26, none⟩) rfl _).setCell (p := ⟨gu, 27, none⟩) rfl _
  have HUr := Lib.hid (show Rd w15 (some ⟨gu, 0, none⟩) 31 (u0 U) from hO.rd HU.out.byte)
  have HQw15 := Lib.hid (hbut.blk HQw13.out (fun e => Hgu.out.1 e))
  have HRw15 := Lib.hid (HRw13.out.offBut hbut Hoffu.out)
  have HBw15 := Lib.hid (HBw13.out.trans (hbut.below (B := W.heap.size) (fun k hk => by have := Hgu.out.2; omega) HBw13.out.size))
  clear hbut hO ew15 Ho2 HBw13 HQw13 HRw13
  try simp only []
  repeat (first | go_values | go_skip | go_guarded | go_step | go_upon | go_back)
  refine (show Calls Tryz.prog _ #[.slice (some ⟨gu, 0, none⟩) 31 c13, .agg #[.int .u8 17, .int .u32 7, .int .u32 8, .int .u16 9, .int .u16 10], .bool true] w15 (OwnGot V 31 0 w15) from Rw.out (some ⟨gu, 0, none⟩) 31 c13 (u0 U) t17 true w15 V 31 0 Hc13.out (by decide) HUr.out tn17 HU.out.l1 HU.out.n1 HU.out.e1).mono ?_
  rintro e w16 ⟨Aw16, cw16, rfl, ho, hb⟩
  have HVw16 := Lib.hid (ho.rd HU.out.b1)
  have HBw16 := Lib.hid (HBw15.out.trans (hb.mono HBw15.out.size))
  have HQw16 := Lib.hid (blk_on HQw15.out hb)
  have HRw16 := Lib.hid (HRw15.out.below hb)
  clear hb ho HUr HQw15 HRw15 HBw15
  try simp only []
  repeat (first | go_values | go_skip | go_guarded | go_step | go_upon | go_back)
  refine (Hop.out none 0 0 [] w16 [] 0 4 ⟨Nat.le_refl _, by simp [maxLen]⟩ (by decide) (Rd.nil _ _) h_nil.2 rfl h_nil.1).mono ?_
  rintro e w17 ⟨Aw17, cw17, rfl, ho, hb⟩
  have HVw17 := Lib.hid (HVw16.out.below hb)
  have HBw17 := Lib.hid (HBw16.out.trans (hb.mono HBw16.out.size))
  have HQw17 := Lib.hid (blk_on HQw16.out hb)
  have HRw17 := Lib.hid (HRw16.out.below hb)
  clear hb ho HVw16 HQw16 HRw16 HBw16
  try simp only []
  repeat (first | go_values | go_skip | go_guarded | go_step | go_upon | go_back)
  refine (Hop.out A2 28 c2 L w17 [] 0 23 Hc2.out (by decide) HRw17.out HI.out.l6 rfl HI.out.e6).mono ?_
  rintro e w18 ⟨Aw18, cw18, rfl, ho, hb⟩
  have HVw18 := Lib.hid (HVw17.out.below hb)
  have HBw18 := Lib.hid (HBw17.out.trans (hb.mono HBw17.out.size))
  have HQw18 := Lib.hid (blk_on HQw17.out hb)
  clear hb ho HVw17 HQw17 HRw17 HBw17
  go_upto_region 18 with (fail)
  dsimp only [List.append] at *
  try simp only []
  repeat (first | go_values | go_skip | go_guarded | go_step | go_upon | go_back)
  refine (Aw.out _).mono ?_
  rintro e w19 ⟨rfl, hb⟩
  have HBw19 := Lib.hid (HBw18.out.trans (hb.mono HBw18.out.size))
  have HV := Lib.hid (HVw18.out.below hb)
  have k22 := (cells24 (blk_on HQw18.out hb)).2.2.2.2.2.2.2.2.2.2.2.2.2.2.2.2.2.2.2.2.2.2.1
  obtain ⟨p26, r26, v26, -⟩ := HV.out.index (c := cw16) (j := 26) (by decide)
  obtain ⟨p27, r27, v27, -⟩ := HV.out.index (c := cw16) (j := 27) (by decide)
  obtain ⟨p8, r8, v8, -⟩ := HV.out.index (c := cw16) (j := 8) (by decide)
  have r26 := (show ∀ W : World, (Instr.indexAt 22 (.slice Aw16 31 cw16) (.int .i64 26)).run Tryz.prog W = .ok (.pointer (some p26)) W from r26)
  have r27 := (show ∀ W : World, (Instr.indexAt 22 (.slice Aw16 31 cw16) (.int .i64 27)).run Tryz.prog W = .ok (.pointer (some p27)) W from r27)
  have r8 := (show ∀ W : World, (Instr.indexAt 22 (.slice Aw16 31 cw16) (.int .i64 8)).run Tryz.prog W = .ok (.pointer (some p8)) W from r8)
  have a26 := HU.out.a26
  have a27 := HU.out.a27
  have a8 := HU.out.a8
  have m3 := Hm3.out
  obtain ⟨x26, e26⟩ : ∃ x, V.getD 26 0 = x := ⟨_, rfl⟩
  obtain ⟨x27, e27⟩ : ∃ x, V.getD 27 0 = x := ⟨_, rfl⟩
  obtain ⟨x8, e8⟩ : ∃ x, V.getD 8 0 = x := ⟨_, rfl⟩
  rw [e26] at v26 a26
  rw [e27] at v27 a27
  rw [e8] at v8 a8
  clear hb e26 e27 e8 HVw18 HQw18
  try simp only []
  repeat (first | go_values | go_skip | go_guarded | go_step | go_upon | go_back)
  go_ret
  exact ⟨rfl, HBw19.out⟩
end Go.Proofs.YtheknmihnkennaaGreat.natKnownW

/-
  culvertlaw15's syn and awake, over what Rewrite tells (stage 15, written ahead).
-/
namespace Go.Proofs.YtheknmihnkennaaGreat
set_option maxRecDepth 10000
open Go.RowKit
set_option linter.unusedSimpArgs false
set_option linter.unusedVariables false

def synS15 : Seg := ⟨4000, 80, 9, 0, 2, 0, 0, [], []⟩
def synP15 : Pk := ⟨ownH 167772162 3221225985 6, synS15, zeroDg, zeroM⟩
def synT15 : Tu := ⟨6, 3325256705, 3221225985, 20000, 80⟩
theorem syn15_1 : errPk synP15 = 0 := by decide +kernel
theorem syn15_2 : (pkB synP15).length = 40 := by decide +kernel
theorem syn15_3 : errRw (pkB synP15) synT15 true = 0 := by decide +kernel
theorem syn15_4 : errAll (rwT (pkB synP15) synT15 true) = 0 := by decide +kernel
theorem syn15_5 : (rwT (pkB synP15) synT15 true).length = 40 := by decide +kernel
theorem syn15_6 : (pkOfB (rwT (pkB synP15) synT15 true)).h.sr = 3325256705 := by decide +kernel
theorem syn15_7 : (pkOfB (rwT (pkB synP15) synT15 true)).s.sp = 20000 := by decide +kernel
theorem syn15_8 : (pkOfB (rwT (pkB synP15) synT15 true)).h.tt = 63 := by decide +kernel
theorem syn15_9 : (pkOfB (rwT (pkB synP15) synT15 true)).s.sq = 9 := by decide +kernel
theorem syn15_b : Bytes (rwT (pkB synP15) synT15 true) := by unfold Bytes; decide +kernel

/-- The SYN's bytes. -/
def SynGot (L : List Int) (w : World) (e : Ending) (w' : World) : Prop := ∃ A c, e = .returned (.slice A 40 c) ∧ (40 ≤ c ∧ c ≤ maxLen) ∧ Rd w' A 40 L ∧ Below w.heap.size w w'
theorem syn15_any (L : List Int) (w : World) (hL : pkB synP15 = L) : Calls Tryz.prog 20 #[] w (SynGot L w) := by
  have HL := Lib.hid hL
  clear hL
  have HC := Lib.hid (show Calls Tryz.prog _ _ w (MadeIs synP15 0 w) from tcp9_any 167772162 3221225985 synS15 none 0 0 [] none 0 0 w (by decide) (by decide) (by decide) (by decide) (by intro l hl; cases hl) ⟨⟨by decide, by decide, by decide, by decide, by decide, by decide, by decide⟩, ⟨Nat.le_refl _, by simp [maxLen]⟩, ⟨Nat.le_refl _, by simp [maxLen]⟩, RdO.nil _ _, trivial, Rd.nil _ _⟩)
  obtain ⟨q, eq⟩ : ∃ q, synP15 = q := ⟨_, rfl⟩
  rw [eq] at HC
  have Eq := Lib.hid eq
  clear eq
  go_enter Tryz.func20, Tryz.ntmps20
  go_wp2_with fail
  refine HC.out.mono ?_
  rintro e w1 ⟨b, rfl, hp, hnO, -, hb1⟩
  have Hp := Lib.hid hp
  have HnO := Lib.hid hnO
  have HB1 := Lib.hid hb1
  clear hp hnO hb1 HC
  go_wp2_with fail
  have hD : b.nD = 0 := by rw [← Hp.out.sr.d.len, ← Eq.out]; rfl
  refine (put9_any q b w1 L 40 0 Hp.out (by have := HnO.out; omega) (by omega) (by rw [← Eq.out]; exact syn15_1) (by rw [← Eq.out]; exact HL.out) (by rw [← HL.out]; exact syn15_2)).mono ?_
  rintro e w2 ⟨A, c, rfl, hc, hr, hb2⟩
  clear hD
  have HB2 := Lib.hid (below_trans HB1.out hb2)
  have Hr := Lib.hid hr
  have Hc := Lib.hid hc
  clear hb2 hr hc Hp HnO HB1 Eq
  go_wp2_with fail
  go_ret
  exact ⟨A, c, rfl, Hc.out, Hr.out, HB2.out⟩
set_option maxHeartbeats 2000000 in
theorem awake15_any (rw_ : RwF) : AwF := by
  intro w
  have Rw := Lib.hid rw_
  clear rw_
  obtain ⟨L, eL⟩ : ∃ L, pkB synP15 = L := ⟨_, rfl⟩
  obtain ⟨L2, eL2⟩ : ∃ L2, rwT L synT15 true = L2 := ⟨_, rfl⟩
  obtain ⟨p, ep⟩ : ∃ p, pkOfB L2 = p := ⟨_, rfl⟩
  have h3 := syn15_3; have h4 := syn15_4; have h5 := syn15_5; have h6 := syn15_6; have h7 := syn15_7; have h8 := syn15_8; have h9 := syn15_9; have hb := syn15_b
  rw [eL] at h3 h4 h5 h6 h7 h8 h9 hb
  rw [eL2] at h4 h5 h6 h7 h8 h9 hb
  rw [ep] at h6 h7 h8 h9
  have H3 := Lib.hid h3; have H4 := Lib.hid h4; have H5 := Lib.hid h5; have HL := Lib.hid eL; have HL2 := Lib.hid eL2; have Hp := Lib.hid ep; have Hby := Lib.hid hb
  have H6 := Lib.hid (show (p.h.sr == 3325256705) = true by simpa using h6)
  have H7 := Lib.hid (show (p.s.sp == 20000) = true by simpa using h7)
  have H8 := Lib.hid (show (p.h.tt == 63) = true by simpa using h8)
  have H9 := Lib.hid (show (p.s.sq == 9) = true by simpa using h9)
  clear h3 h4 h5 h6 h7 h8 h9 eL eL2 ep hb
  go_enter Tryz.func8, Tryz.ntmps8
  go_wp2_with fail
  refine (syn15_any L _ HL.out).mono ?_
  rintro e w1 ⟨A1, c1, rfl, hc1, hr1, hb1⟩
  have Hr1 := Lib.hid hr1
  have Hc1 := Lib.hid hc1
  have HB1 := Lib.hid hb1
  clear hr1 hc1 hb1
  go_wp2_with fail
  refine (Rw.out A1 40 c1 L synT15 true w1 L2 40 0 Hc1.out (by decide) Hr1.out ⟨by decide, by decide, by decide, by decide, by decide⟩ HL2.out H5.out H3.out).mono ?_
  rintro e w2 ⟨A2, c2, rfl, ho2, hb2⟩
  have Hr2 := Lib.hid (ho2.rd Hby.out)
  have Hc2 := Lib.hid (And.intro ho2.cap ho2.capMax)
  have HB2 := Lib.hid (below_trans HB1.out hb2)
  clear ho2 hb2 HB1 Hr1 Hc1
  go_wp2_with fail
  have hg := parse9_ok A2 40 c2 L2 w2 Hc2.out (by decide) Hr2.out H4.out
  rw [Hp.out] at hg
  refine hg.mono ?_
  clear hg
  rintro e w3 ⟨a, rfl, hp, hn, hof, hb3⟩
  obtain ⟨g, eg⟩ : ∃ g, w3.heap.size = g := ⟨_, rfl⟩
  obtain ⟨w4, ew4⟩ : ∃ v, w3.alloc (.cells #[.int .u8 p.h.to, .int .u16 p.h.id, .bool p.h.df, .int .u8 p.h.tt, .int .u8 p.h.pr, .int .u32 p.h.sr, .int .u32 p.h.ds, .slice a.AH a.nH a.cH, .int .u16 p.s.sp, .int .u16 p.s.dp, .int .u32 p.s.sq, .int .u32 p.s.ak, .int .u8 p.s.fl, .int .u16 p.s.wn, .int .u16 p.s.ug, .slice a.AO a.nO a.cO, .slice a.AD a.nD a.cD, .int .u16 p.u.sp, .int .u16 p.u.dp, .slice a.AU a.nU a.cU, .int .u8 p.m.ty, .int .u8 p.m.cd, .int .u32 p.m.rs, .slice a.AM a.nM a.cM] 35) = v := ⟨_, rfl⟩
  have HK4 := Lib.hid (show w4.heap[g]? = some (.cells #[.int .u8 p.h.to, .int .u16 p.h.id, .bool p.h.df, .int .u8 p.h.tt, .int .u8 p.h.pr, .int .u32 p.h.sr, .int .u32 p.h.ds, .slice a.AH a.nH a.cH, .int .u16 p.s.sp, .int .u16 p.s.dp, .int .u32 p.s.sq, .int .u32 p.s.ak, .int .u8 p.s.fl, .int .u16 p.s.wn, .int .u16 p.s.ug, .slice a.AO a.nO a.cO, .slice a.AD a.nD a.cD, .int .u16 p.u.sp, .int .u16 p.u.dp, .slice a.AU a.nU a.cU, .int .u8 p.m.ty, .int .u8 p.m.cd, .int .u32 p.m.rs, .slice a.AM a.nM a.cM] 35 (0, 0)) by rw [← ew4, ← eg]; exact heap_alloc_new w3 _)
  have HB4 := Lib.hid (show Below w.heap.size w w4 by rw [← ew4]; have h := below_trans HB2.out hb3; exact h.alloc h.size _)
  have Ew4 := Lib.hid ew4
  have Eg := Lib.hid eg
  clear eg ew4 hp hn hof hb3 HB2 Hr2 Hc2
  go_upto_region 3 with (refine wp_store_new 35 (.tmp 3) (.tmp 14) rfl rfl w3 _ _ rfl rfl (by kernel_rfl) rfl (by simp [Value.oneCell']) ?_)
  rw [Ew4.out]
  try rw [Eg.out]
  clear Ew4 Eg
  have k3 := (cells24 HK4.out).2.2.2.1
  have k5 := (cells24 HK4.out).2.2.2.2.2.1
  have k8 := (cells24 HK4.out).2.2.2.2.2.2.2.2.1
  have k10 := (cells24 HK4.out).2.2.2.2.2.2.2.2.2.2.1
  have h6 := H6.out
  have h7 := H7.out
  have h8 := H8.out
  have h9 := H9.out
  go_wp2_with fail
  go_ret
  exact ⟨rfl, HB4.out⟩
end Go.Proofs.YtheknmihnkennaaGreat
