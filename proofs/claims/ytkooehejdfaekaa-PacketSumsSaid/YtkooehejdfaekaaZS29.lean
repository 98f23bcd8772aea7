/-
  culvertlaw09's few: a packet cut: data to 1600 bytes, options to 20 of at most 60 bytes, in a row of the call's own.
-/
import Derived.Test.YtkooehejdfaekaaZS22
import Derived.Test.YtkooehejdfaekaaZS05
import Derived.Test.YtkooehejdfaekaaZS23
import Derived.Test.YtkooehejdfaekaaZS28
import Derived.Laws.CopyOwn
namespace Go.Proofs.Ytkooehejdfaekaa
set_option maxRecDepth 10000
open Go.RowKit
set_option linter.unusedSimpArgs false
set_option linter.unusedVariables false

def fewP (p : Pk) : Pk := ⟨{ p.h with o := p.h.o.take 1600 }, { p.s with os := (p.s.os.take 20).map (fun l => (l.1, l.2.take 60)), d := p.s.d.take 1600 }, { p.u with d := p.u.d.take 1600 }, { p.m with d := p.m.d.take 1600 }⟩

/-- How far the row has been gone through. -/
def stepC (m : Nat) (os : List OptV) (j : Nat) : List OptV := (os.take j).map (·.cut m) ++ os.drop j
theorem stepC_zero (m : Nat) (os : List OptV) : stepC m os 0 = os := by simp [stepC]
theorem stepC_all (m : Nat) (os : List OptV) : stepC m os os.length = os.map (·.cut m) := by simp [stepC]
theorem stepC_get (m : Nat) (os : List OptV) (j : Nat) (h : j < os.length) : (stepC m os j).getD j .none = os.getD j .none := by
  simp [stepC, List.getD, List.getElem?_append, Nat.min_eq_left (Nat.le_of_lt h)]
theorem stepC_set (m : Nat) (os : List OptV) (j : Nat) (h : j < os.length) : (stepC m os j).set j ⟨(os.getD j .none).kind, (os.getD j .none).A, min (os.getD j .none).n m, (os.getD j .none).c⟩ = stepC m os (j + 1) := by
  have e : (os.take (j + 1)) = os.take j ++ [os.getD j .none] := by rw [List.take_succ_eq_append_getElem h]; simp [List.getD, List.getElem?_eq_getElem h]
  have e2 : os.drop j = os.getD j .none :: os.drop (j + 1) := by rw [List.drop_eq_getElem_cons h]; simp [List.getD, List.getElem?_eq_getElem h]
  unfold stepC
  rw [e, e2, List.set_append_right _ _ (by simp; omega)]
  simp [Nat.min_eq_left (Nat.le_of_lt h), OptV.cut]

/-- Where the loop stands. -/
structure FewAt (w w' : World) (z k c2 j : Nat) (A2 : Option Addr) (os : List OptV) (C Z : Array Value) : Prop where
  own : OwnO w' (z + 2) A2 k c2 (stepC 60 os j)
  blk : w'.heap[z]? = some (.cells C 35 (0, 0))
  zero : w'.heap[z + 1]? = some (.cells Z 35 (0, 0))
  below : Below w.heap.size w w'
theorem FewAt.drew {w w' : World} {z k c2 j : Nat} {A2 : Option Addr} {os : List OptV} {C Z : Array Value} (h : FewAt w w' z k c2 j A2 os C Z) : FewAt w w'.drew z k c2 j A2 os C Z := ⟨h.own.drew, h.blk, h.zero, Below.drew h.below⟩
theorem FewAt.step {w w' : World} {z k c2 j g : Nat} {os : List OptV} {C Z : Array Value} (h : FewAt w w' z k c2 j (some ⟨g, 0, none⟩) os C Z) (hz : w.heap.size = z) (hg : z + 2 ≤ g) (hk : os.length = k) (hj : j < k) (o : OptV) (ho : os.getD j .none = o) (m : Nat) (hm : min o.n 60 = m) :
    FewAt w (w'.setCell ⟨g, j * 2 + 1, none⟩ (.slice o.A m o.c)) z k c2 (j + 1) (some ⟨g, 0, none⟩) os C Z := by
  have h2 := h.own.set_ j hj o.A m o.c
  rw [stepC_get 60 os j (by omega), ← hm] at h2
  rw [← ho] at h2
  rw [stepC_set 60 os j (by omega), ho, hm] at h2
  exact ⟨h2, (Below.heap_setCell _ ⟨g, j * 2 + 1, none⟩ _ z (show z ≠ g by omega)).trans h.blk, (Below.heap_setCell _ ⟨g, j * 2 + 1, none⟩ _ (z + 1) (show z + 1 ≠ g by omega)).trans h.zero, h.below.setCell (p := ⟨g, j * 2 + 1, none⟩) (show w.heap.size ≤ g by omega) _⟩

theorem cut9_any (A : Option Addr) (n c m : Nat) (w : World) (hc : n ≤ c ∧ c ≤ maxLen) (hm : min n 1600 = m) :
    Calls Try.prog 14 #[.slice A n c] w (fun e w' => e = .returned (.slice A m c) ∧ w' = w) := by
  obtain ⟨k, hk, hkn, hk16⟩ := min_nat 1600 n (by omega)
  have hkm : k = m := by split at hk <;> omega
  subst hkm
  have hkc : (k : Int) ≤ (c : Int) := by omega
  have hk0 : (0 : Int) ≤ (k : Int) := by omega
  have hkc2 : k ≤ c := by omega
  clear hm
  go_enter Try.func14, Try.ntmps14
  go_wp2_with fail
  go_ret
  exact ⟨rfl, rfl⟩

theorem late_cell {w : World} {z i : Nat} {C : Array Value} {t : TypeId} {fr : Nat × Nat} (h : w.heap[z]? = some (.cells C t fr)) (u : Value) : (w.setCell ⟨z, i, none⟩ u).drew.heap[z]? = some (.cells (C.set! i u) t fr) := setCell_block h u
theorem late_frozen {w : World} {z : Nat} {C : Array Value} {t : TypeId} (h : w.heap[z]? = some (.cells C t (0, 0))) (k : Nat) : w.frozen? ⟨z, k, none⟩ = false := by simp [World.frozen?, h]
theorem Rd.cutTo {w : World} {A : Option Addr} {n m : Nat} {l : List Int} (h : Rd w A n l) (hm : min n 1600 = m) : Rd w A m (l.take 1600) := by
  have h1 := h.take (k := m) (by omega)
  have h2 : l.take m = l.take 1600 := by rw [List.take_eq_take_iff, h.len]; omega
  rw [h2] at h1
  exact h1
theorem few_reads {p : Pk} {a : PkA} {w wr : World} {z k c2 mH mD mU mM : Nat} {A2 : Option Addr} {os' : List OptV} {C Z : Array Value} (hp : PkRd w p a) (hz : w.heap.size = z) (eH : min a.nH 1600 = mH) (eD : min a.nD 1600 = mD) (eU : min a.nU 1600 = mU) (eM : min a.nM 1600 = mM)
    (hF : FewAt w wr z k c2 k A2 os' C Z) (hlen : os'.length = k) (hos : Reads w os' (p.s.os.take 20)) (cs : Array Value) :
    PkRd (wr.setRow (z + 1) cs) (fewP p) ⟨a.AH, mH, a.cH, A2, k, c2, os'.map (·.cut 60), a.AD, mD, a.cD, a.AU, mU, a.cU, a.AM, mM, a.cM⟩ ∧ Below w.heap.size w (wr.setRow (z + 1) cs) := by
  have hb : Below w.heap.size w (wr.setRow (z + 1) cs) := below_setRow hF.below (by omega) cs
  have hown := hF.own
  rw [← hlen, stepC_all, hlen] at hown
  have hown2 : OwnO (wr.setRow (z + 1) cs) (z + 2) A2 k c2 (os'.map (·.cut 60)) := by
    refine hown.but (S := fun g => g = z + 1) ⟨rfl, rfl, rfl, by simp, fun k _ hn => setRow_other _ _ _ _ hn⟩ ?_
    intro g eg hgz
    have := (World.ownsRow.lt hown g (by rw [eg]; rfl)).1
    omega
  have h1 := hp.hc
  have h2 := hp.sr.dc
  have h3 := hp.uc
  have h4 := hp.mc
  exact ⟨⟨⟨hp.hn.to, hp.hn.id, hp.hn.tt, hp.hn.pr, hp.hn.sr, hp.hn.ds⟩, ⟨by simp only; omega, h1.2⟩, (hp.hr.cutTo eH).below hb,
    ⟨⟨hp.sr.num.sp, hp.sr.num.dp, hp.sr.num.sq, hp.sr.num.ak, hp.sr.num.fl, hp.sr.num.wn, hp.sr.num.ug⟩, ⟨hown.cap, hown.capMax⟩, ⟨by simp only; omega, h2.2⟩, hown2.rd, (hos.cut 60).below hb, (hp.sr.d.cutTo eD).below hb⟩,
    ⟨hp.un.sp, hp.un.dp⟩, ⟨by simp only; omega, h3.2⟩, (hp.ur.cutTo eU).below hb, ⟨hp.mn.ty, hp.mn.cd, hp.mn.rs⟩, ⟨by simp only; omega, h4.2⟩, (hp.mr.cutTo eM).below hb⟩, hb⟩
theorem few_off {a : PkA} {w wr : World} {z k c2 mH mD mU mM : Nat} {A2 : Option Addr} {os' l : List OptV} (hz : w.heap.size = z) (eH : min a.nH 1600 = mH) (eD : min a.nD 1600 = mD) (eU : min a.nU 1600 = mU) (eM : min a.nM 1600 = mM)
    (ho : OwnO wr (z + 2) A2 k c2 l) (hm : ∀ v ∈ os', v ∈ a.os) (S : Nat → Prop) (hS : a.Off S) (hb : ∀ g, S g → g < w.heap.size) :
    PkA.Off ⟨a.AH, mH, a.cH, A2, k, c2, os'.map (·.cut 60), a.AD, mD, a.cD, a.AU, mU, a.cU, a.AM, mM, a.cM⟩ S :=
  ⟨hS.h.cut (show mH ≤ a.nH by omega), ho.off.sub (fun g hg => by have := hb g hg; omega), fun v hv => by
    obtain ⟨u, hu, rfl⟩ := List.mem_map.1 hv
    exact (hS.os u (hm u hu)).cut (by simp only [OptV.cut]; omega), hS.d.cut (show mD ≤ a.nD by omega), hS.u.cut (show mU ≤ a.nU by omega), hS.m.cut (show mM ≤ a.nM by omega)⟩
set_option maxHeartbeats 2000000 in
theorem few9_any (p : Pk) (a : PkA) (w : World) (hp : PkRd w p a) :
    Calls Try.prog 5 #[.agg #[.int .u8 p.h.to, .int .u16 p.h.id, .bool p.h.df, .int .u8 p.h.tt, .int .u8 p.h.pr, .int .u32 p.h.sr, .int .u32 p.h.ds, .slice a.AH a.nH a.cH, .int .u16 p.s.sp, .int .u16 p.s.dp, .int .u32 p.s.sq, .int .u32 p.s.ak, .int .u8 p.s.fl, .int .u16 p.s.wn, .int .u16 p.s.ug, .slice a.AO a.nO a.cO, .slice a.AD a.nD a.cD, .int .u16 p.u.sp, .int .u16 p.u.dp, .slice a.AU a.nU a.cU, .int .u8 p.m.ty, .int .u8 p.m.cd, .int .u32 p.m.rs, .slice a.AM a.nM a.cM]] w (fun e w' => ∃ (q : Pk) (b : PkA), e = .returned (.agg #[.int .u8 q.h.to, .int .u16 q.h.id, .bool q.h.df, .int .u8 q.h.tt, .int .u8 q.h.pr, .int .u32 q.h.sr, .int .u32 q.h.ds, .slice b.AH b.nH b.cH, .int .u16 q.s.sp, .int .u16 q.s.dp, .int .u32 q.s.sq, .int .u32 q.s.ak, .int .u8 q.s.fl, .int .u16 q.s.wn, .int .u16 q.s.ug, .slice b.AO b.nO b.cO, .slice b.AD b.nD b.cD, .int .u16 q.u.sp, .int .u16 q.u.dp, .slice b.AU b.nU b.cU, .int .u8 q.m.ty, .int .u8 q.m.cd, .int .u32 q.m.rs, .slice b.AM b.nM b.cM]) ∧ q = fewP p ∧ PkRd w' q b ∧ (∀ S, a.Off S → (∀ g, S g → g < w.heap.size) → b.Off S) ∧ Below w.heap.size w w') := by
  obtain ⟨z, hz⟩ : ∃ z, w.heap.size = z := ⟨_, rfl⟩
  obtain ⟨w0, ew⟩ : ∃ w0, (w.alloc (.cells #[.int .u8 p.h.to, .int .u16 p.h.id, .bool p.h.df, .int .u8 p.h.tt, .int .u8 p.h.pr, .int .u32 p.h.sr, .int .u32 p.h.ds, .slice a.AH a.nH a.cH, .int .u16 p.s.sp, .int .u16 p.s.dp, .int .u32 p.s.sq, .int .u32 p.s.ak, .int .u8 p.s.fl, .int .u16 p.s.wn, .int .u16 p.s.ug, .slice a.AO a.nO a.cO, .slice a.AD a.nD a.cD, .int .u16 p.u.sp, .int .u16 p.u.dp, .slice a.AU a.nU a.cU, .int .u8 p.m.ty, .int .u8 p.m.cd, .int .u32 p.m.rs, .slice a.AM a.nM a.cM] 35)).alloc (.cells #[.int .u8 0, .int .u16 0, .bool false, .int .u8 0, .int .u8 0, .int .u32 0, .int .u32 0, .slice none 0 0, .int .u16 0, .int .u16 0, .int .u32 0, .int .u32 0, .int .u8 0, .int .u16 0, .int .u16 0, .slice none 0 0, .slice none 0 0, .int .u16 0, .int .u16 0, .slice none 0 0, .int .u8 0, .int .u8 0, .int .u32 0, .slice none 0 0] 35) = w0 := ⟨_, rfl⟩
  have hb0 : Below w.heap.size w w0 := by rw [← ew]; exact ((Below.refl _ _).alloc (Nat.le_refl _) _).alloc (by simp) _
  have hk0 : w0.heap[z]? = some (.cells #[.int .u8 p.h.to, .int .u16 p.h.id, .bool p.h.df, .int .u8 p.h.tt, .int .u8 p.h.pr, .int .u32 p.h.sr, .int .u32 p.h.ds, .slice a.AH a.nH a.cH, .int .u16 p.s.sp, .int .u16 p.s.dp, .int .u32 p.s.sq, .int .u32 p.s.ak, .int .u8 p.s.fl, .int .u16 p.s.wn, .int .u16 p.s.ug, .slice a.AO a.nO a.cO, .slice a.AD a.nD a.cD, .int .u16 p.u.sp, .int .u16 p.u.dp, .slice a.AU a.nU a.cU, .int .u8 p.m.ty, .int .u8 p.m.cd, .int .u32 p.m.rs, .slice a.AM a.nM a.cM] 35 (0, 0)) := by rw [← ew, Below.heap_alloc _ _ _ (by simp [hz]), ← hz]; exact heap_alloc_new w _
  have hk1 : w0.heap[z + 1]? = some (.cells #[.int .u8 0, .int .u16 0, .bool false, .int .u8 0, .int .u8 0, .int .u32 0, .int .u32 0, .slice none 0 0, .int .u16 0, .int .u16 0, .int .u32 0, .int .u32 0, .int .u8 0, .int .u16 0, .int .u16 0, .slice none 0 0, .slice none 0 0, .int .u16 0, .int .u16 0, .slice none 0 0, .int .u8 0, .int .u8 0, .int .u32 0, .slice none 0 0] 35 (0, 0)) := by
    rw [← ew, ← hz]; simpa using heap_alloc_new (w.alloc (.cells #[.int .u8 p.h.to, .int .u16 p.h.id, .bool p.h.df, .int .u8 p.h.tt, .int .u8 p.h.pr, .int .u32 p.h.sr, .int .u32 p.h.ds, .slice a.AH a.nH a.cH, .int .u16 p.s.sp, .int .u16 p.s.dp, .int .u32 p.s.sq, .int .u32 p.s.ak, .int .u8 p.s.fl, .int .u16 p.s.wn, .int .u16 p.s.ug, .slice a.AO a.nO a.cO, .slice a.AD a.nD a.cD, .int .u16 p.u.sp, .int .u16 p.u.dp, .slice a.AU a.nU a.cU, .int .u8 p.m.ty, .int .u8 p.m.cd, .int .u32 p.m.rs, .slice a.AM a.nM a.cM] 35)) (.cells #[.int .u8 0, .int .u16 0, .bool false, .int .u8 0, .int .u8 0, .int .u32 0, .int .u32 0, .slice none 0 0, .int .u16 0, .int .u16 0, .int .u32 0, .int .u32 0, .int .u8 0, .int .u16 0, .int .u16 0, .slice none 0 0, .slice none 0 0, .int .u16 0, .int .u16 0, .slice none 0 0, .int .u8 0, .int .u8 0, .int .u32 0, .slice none 0 0] 35)
  obtain ⟨mH, eH⟩ : ∃ m, min a.nH 1600 = m := ⟨_, rfl⟩
  have EH := Lib.hid eH
  clear eH
  obtain ⟨mD, eD⟩ : ∃ m, min a.nD 1600 = m := ⟨_, rfl⟩
  have ED := Lib.hid eD
  clear eD
  obtain ⟨mU, eU⟩ : ∃ m, min a.nU 1600 = m := ⟨_, rfl⟩
  have EU := Lib.hid eU
  clear eU
  obtain ⟨mM, eM⟩ : ∃ m, min a.nM 1600 = m := ⟨_, rfl⟩
  have EM := Lib.hid eM
  clear eM
  have Hs0 := Lib.hid (show w0.heap.size = z + 2 by rw [← ew, ← hz]; simp)
  have HP := Lib.hid (hp.below hb0)
  have HPw := Lib.hid hp
  have Hb0 := Lib.hid hb0
  have Hew := Lib.hid ew
  have Hz := Lib.hid hz
  have HK0 := Lib.hid hk0
  have HK1 := Lib.hid hk1
  have HC := Lib.hid (show w0.cell? ⟨z, 7, none⟩ = some (.slice a.AH a.nH a.cH) ∧ w0.cell? ⟨z, 16, none⟩ = some (.slice a.AD a.nD a.cD) ∧ w0.cell? ⟨z, 19, none⟩ = some (.slice a.AU a.nU a.cU) ∧ w0.cell? ⟨z, 23, none⟩ = some (.slice a.AM a.nM a.cM) by
    refine ⟨?_, ?_, ?_, ?_⟩ <;> (rw [blk_cell hk0]; rfl))
  have hfz : ∀ k, w0.frozen? ⟨z, k, none⟩ = false := fun k => by simp [World.frozen?, hk0]
  have Hfz := Lib.hid hfz
  clear hb0 ew hz hp hk0 hk1 hfz
  go_enter Try.func5, Try.ntmps5
  go_upto_region 1 with (fail)
  rw [Hew.out]
  try rw [Hz.out]
  go_upto_region 2 with (fail)
  have Hzle := Lib.hid (show w.heap.size ≤ z by rw [Hz.out]; exact Nat.le_refl _)
  refine wp_region_heldT (S := fun w' => w'.cell? ⟨z, 7, none⟩ = some (.slice a.AH a.nH a.cH) ∧ w'.cell? ⟨z, 16, none⟩ = some (.slice a.AD a.nD a.cD) ∧ w'.cell? ⟨z, 19, none⟩ = some (.slice a.AU a.nU a.cU) ∧ w'.cell? ⟨z, 23, none⟩ = some (.slice a.AM a.nM a.cM)) [22, 25, 28, 31] (by kernel_rfl) HC.out (fun hHeld => ?_)
  refine anyHT_any (i := 0) (oi := { dst := some 5, op := Go.Op.move (Go.Operand.tmp 3), type := 49, pos := "law.go:30", after := #[], guard := none }) (v := ?_) rfl (by kernel_rfl) (by kernel_rfl) (by kernel_rfl) (by kernel_rfl) (fun _ _ _ h => h) (Or.inl ⟨by rfl, ?_⟩) (by first | (intro _; assumption) | (refine early_no ?_; kernel_rfl)) ?_
  rotate_left 1
  · intro w' hSw; (go_simp <;> (with_reducible rfl))
  (try simp only [Act.put, List.setIfInBounds_toArray, List.set_cons_zero, List.set_cons_succ])
  refine anyHT_any (i := 1) (oi := { dst := some 6, op := Go.Op.fieldAddr 35 (Go.Operand.tmp 1) 0, type := 0, pos := "law.go:30", after := #[], guard := none }) (v := ?_) rfl (by kernel_rfl) (by kernel_rfl) (by kernel_rfl) (by kernel_rfl) (fun _ _ _ h => h) (Or.inl ⟨by rfl, ?_⟩) (by first | (intro _; assumption) | (refine early_no ?_; kernel_rfl)) ?_
  rotate_left 1
  · intro w' hSw; (go_simp <;> (with_reducible rfl))
  (try simp only [Act.put, List.setIfInBounds_toArray, List.set_cons_zero, List.set_cons_succ])
  refine anyHT_any (i := 2) (oi := { dst := some 7, op := Go.Op.fieldAddr 26 (Go.Operand.tmp 6) 7, type := 0, pos := "law.go:30", after := #[{ on := 1, ground := Go.Ground.data }], guard := none }) (v := ?_) rfl (by kernel_rfl) (by kernel_rfl) (by kernel_rfl) (by kernel_rfl) (fun _ _ _ h => h) (Or.inl ⟨by rfl, ?_⟩) (by first | (intro _; assumption) | (refine early_no ?_; kernel_rfl)) ?_
  rotate_left 1
  · intro w' hSw; (go_simp <;> (with_reducible rfl))
  (try simp only [Act.put, List.setIfInBounds_toArray, List.set_cons_zero, List.set_cons_succ])
  refine anyHT_take (i := 3) (oi := { dst := some 8, op := Go.Op.load 24 (Go.Operand.tmp 7), type := 24, pos := "law.go:30", after := #[{ on := 2, ground := Go.Ground.data }], guard := none }) (v := ?_) rfl (by kernel_rfl) (by kernel_rfl) (by kernel_rfl) (by kernel_rfl) (by kernel_rfl) (by kernel_rfl) (fun _ _ _ h => h) (Or.inl ⟨by rfl, ?_⟩) (by assumption) ?_
  rotate_left 1
  · intro w' hSw; (go_simp <;> (with_reducible rfl))
  (try simp only [Act.put, List.setIfInBounds_toArray, List.set_cons_zero, List.set_cons_succ])
  refine anyHT_any (i := 5) (oi := { dst := some 10, op := Go.Op.move (Go.Operand.tmp 3), type := 49, pos := "law.go:30", after := #[], guard := none }) (v := ?_) rfl (by kernel_rfl) (by kernel_rfl) (by kernel_rfl) (by kernel_rfl) (fun _ _ _ h => h) (Or.inl ⟨by rfl, ?_⟩) (by first | (intro _; assumption) | (refine early_no ?_; kernel_rfl)) ?_
  rotate_left 1
  · intro w' hSw; (go_simp <;> (with_reducible rfl))
  (try simp only [Act.put, List.setIfInBounds_toArray, List.set_cons_zero, List.set_cons_succ])
  refine anyHT_any (i := 6) (oi := { dst := some 11, op := Go.Op.fieldAddr 35 (Go.Operand.tmp 1) 1, type := 0, pos := "law.go:30", after := #[], guard := none }) (v := ?_) rfl (by kernel_rfl) (by kernel_rfl) (by kernel_rfl) (by kernel_rfl) (fun _ _ _ h => h) (Or.inl ⟨by rfl, ?_⟩) (by first | (intro _; assumption) | (refine early_no ?_; kernel_rfl)) ?_
  rotate_left 1
  · intro w' hSw; (go_simp <;> (with_reducible rfl))
  (try simp only [Act.put, List.setIfInBounds_toArray, List.set_cons_zero, List.set_cons_succ])
  refine anyHT_any (i := 7) (oi := { dst := some 12, op := Go.Op.fieldAddr 29 (Go.Operand.tmp 11) 8, type := 0, pos := "law.go:30", after := #[{ on := 6, ground := Go.Ground.data }], guard := none }) (v := ?_) rfl (by kernel_rfl) (by kernel_rfl) (by kernel_rfl) (by kernel_rfl) (fun _ _ _ h => h) (Or.inl ⟨by rfl, ?_⟩) (by first | (intro _; assumption) | (refine early_no ?_; kernel_rfl)) ?_
  rotate_left 1
  · intro w' hSw; (go_simp <;> (with_reducible rfl))
  (try simp only [Act.put, List.setIfInBounds_toArray, List.set_cons_zero, List.set_cons_succ])
  refine anyHT_take (i := 8) (oi := { dst := some 13, op := Go.Op.load 24 (Go.Operand.tmp 12), type := 24, pos := "law.go:30", after := #[{ on := 7, ground := Go.Ground.data }], guard := none }) (v := ?_) rfl (by kernel_rfl) (by kernel_rfl) (by kernel_rfl) (by kernel_rfl) (by kernel_rfl) (by kernel_rfl) (fun _ _ _ h => h) (Or.inl ⟨by rfl, ?_⟩) (by assumption) ?_
  rotate_left 1
  · intro w' hSw; (go_simp <;> (with_reducible rfl))
  (try simp only [Act.put, List.setIfInBounds_toArray, List.set_cons_zero, List.set_cons_succ])
  refine anyHT_any (i := 10) (oi := { dst := some 15, op := Go.Op.move (Go.Operand.tmp 3), type := 49, pos := "law.go:30", after := #[], guard := none }) (v := ?_) rfl (by kernel_rfl) (by kernel_rfl) (by kernel_rfl) (by kernel_rfl) (fun _ _ _ h => h) (Or.inl ⟨by rfl, ?_⟩) (by first | (intro _; assumption) | (refine early_no ?_; kernel_rfl)) ?_
  rotate_left 1
  · intro w' hSw; (go_simp <;> (with_reducible rfl))
  (try simp only [Act.put, List.setIfInBounds_toArray, List.set_cons_zero, List.set_cons_succ])
  refine anyHT_any (i := 11) (oi := { dst := some 16, op := Go.Op.fieldAddr 35 (Go.Operand.tmp 1) 2, type := 0, pos := "law.go:30", after := #[], guard := none }) (v := ?_) rfl (by kernel_rfl) (by kernel_rfl) (by kernel_rfl) (by kernel_rfl) (fun _ _ _ h => h) (Or.inl ⟨by rfl, ?_⟩) (by first | (intro _; assumption) | (refine early_no ?_; kernel_rfl)) ?_
  rotate_left 1
  · intro w' hSw; (go_simp <;> (with_reducible rfl))
  (try simp only [Act.put, List.setIfInBounds_toArray, List.set_cons_zero, List.set_cons_succ])
  refine anyHT_any (i := 12) (oi := { dst := some 17, op := Go.Op.fieldAddr 31 (Go.Operand.tmp 16) 2, type := 0, pos := "law.go:30", after := #[{ on := 11, ground := Go.Ground.data }], guard := none }) (v := ?_) rfl (by kernel_rfl) (by kernel_rfl) (by kernel_rfl) (by kernel_rfl) (fun _ _ _ h => h) (Or.inl ⟨by rfl, ?_⟩) (by first | (intro _; assumption) | (refine early_no ?_; kernel_rfl)) ?_
  rotate_left 1
  · intro w' hSw; (go_simp <;> (with_reducible rfl))
  (try simp only [Act.put, List.setIfInBounds_toArray, List.set_cons_zero, List.set_cons_succ])
  refine anyHT_take (i := 13) (oi := { dst := some 18, op := Go.Op.load 24 (Go.Operand.tmp 17), type := 24, pos := "law.go:30", after := #[{ on := 12, ground := Go.Ground.data }], guard := none }) (v := ?_) rfl (by kernel_rfl) (by kernel_rfl) (by kernel_rfl) (by kernel_rfl) (by kernel_rfl) (by kernel_rfl) (fun _ _ _ h => h) (Or.inl ⟨by rfl, ?_⟩) (by assumption) ?_
  rotate_left 1
  · intro w' hSw; (go_simp <;> (with_reducible rfl))
  (try simp only [Act.put, List.setIfInBounds_toArray, List.set_cons_zero, List.set_cons_succ])
  refine anyHT_any (i := 15) (oi := { dst := some 20, op := Go.Op.move (Go.Operand.tmp 3), type := 49, pos := "law.go:30", after := #[], guard := none }) (v := ?_) rfl (by kernel_rfl) (by kernel_rfl) (by kernel_rfl) (by kernel_rfl) (fun _ _ _ h => h) (Or.inl ⟨by rfl, ?_⟩) (by first | (intro _; assumption) | (refine early_no ?_; kernel_rfl)) ?_
  rotate_left 1
  · intro w' hSw; (go_simp <;> (with_reducible rfl))
  (try simp only [Act.put, List.setIfInBounds_toArray, List.set_cons_zero, List.set_cons_succ])
  refine anyHT_any (i := 16) (oi := { dst := some 21, op := Go.Op.fieldAddr 35 (Go.Operand.tmp 1) 3, type := 0, pos := "law.go:30", after := #[], guard := none }) (v := ?_) rfl (by kernel_rfl) (by kernel_rfl) (by kernel_rfl) (by kernel_rfl) (fun _ _ _ h => h) (Or.inl ⟨by rfl, ?_⟩) (by first | (intro _; assumption) | (refine early_no ?_; kernel_rfl)) ?_
  rotate_left 1
  · intro w' hSw; (go_simp <;> (with_reducible rfl))
  (try simp only [Act.put, List.setIfInBounds_toArray, List.set_cons_zero, List.set_cons_succ])
  refine anyHT_any (i := 17) (oi := { dst := some 22, op := Go.Op.fieldAddr 33 (Go.Operand.tmp 21) 3, type := 0, pos := "law.go:30", after := #[{ on := 16, ground := Go.Ground.data }], guard := none }) (v := ?_) rfl (by kernel_rfl) (by kernel_rfl) (by kernel_rfl) (by kernel_rfl) (fun _ _ _ h => h) (Or.inl ⟨by rfl, ?_⟩) (by first | (intro _; assumption) | (refine early_no ?_; kernel_rfl)) ?_
  rotate_left 1
  · intro w' hSw; (go_simp <;> (with_reducible rfl))
  (try simp only [Act.put, List.setIfInBounds_toArray, List.set_cons_zero, List.set_cons_succ])
  refine anyHT_take (i := 18) (oi := { dst := some 23, op := Go.Op.load 24 (Go.Operand.tmp 22), type := 24, pos := "law.go:30", after := #[{ on := 17, ground := Go.Ground.data }], guard := none }) (v := ?_) rfl (by kernel_rfl) (by kernel_rfl) (by kernel_rfl) (by kernel_rfl) (by kernel_rfl) (by kernel_rfl) (fun _ _ _ h => h) (Or.inl ⟨by rfl, ?_⟩) (by assumption) ?_
  rotate_left 1
  · intro w' hSw; (go_simp <;> (with_reducible rfl))
  (try simp only [Act.put, List.setIfInBounds_toArray, List.set_cons_zero, List.set_cons_succ])
  refine anyHT_one (i := 4) (o := { dst := some 9, op := Go.Op.call { callee := Go.Callee.value (Go.Operand.tmp 5), args := #[Go.Operand.tmp 8], argTypes := #[24] }, type := 24, pos := "law.go:30", after := #[{ on := 0, ground := Go.Ground.data }, { on := 3, ground := Go.Ground.data }], guard := none }) (by kernel_rfl) rfl (fun K hK => ?_)
  go_simp
  (refine (cut9_any a.AH a.nH a.cH mH _ HP.out.hc EH.out).mono ?_; rintro e w' ⟨rfl, rfl⟩)
  refine hK.out _ _ ?_ (fun hHeld => ?_)
  · exact hHeld
  clear hK K
  (try simp only [Act.put, List.setIfInBounds_toArray, List.set_cons_zero, List.set_cons_succ])
  refine anyHT_any (i := 20) (oi := { dst := some 25, op := Go.Op.fieldAddr 35 (Go.Operand.tmp 1) 0, type := 0, pos := "law.go:30", after := #[{ on := 0, ground := Go.Ground.phase }, { on := 1, ground := Go.Ground.phase }, { on := 2, ground := Go.Ground.phase }, { on := 3, ground := Go.Ground.phase }, { on := 4, ground := Go.Ground.phase }, { on := 5, ground := Go.Ground.textOnly Go.Departure.lateStores }, { on := 6, ground := Go.Ground.phase }, { on := 7, ground := Go.Ground.phase }, { on := 8, ground := Go.Ground.phase }, { on := 9, ground := Go.Ground.textOnly Go.Departure.lateStoresUnsure }, { on := 10, ground := Go.Ground.textOnly Go.Departure.lateStores }, { on := 11, ground := Go.Ground.phase }, { on := 12, ground := Go.Ground.phase }, { on := 13, ground := Go.Ground.phase }, { on := 14, ground := Go.Ground.textOnly Go.Departure.lateStoresUnsure }, { on := 15, ground := Go.Ground.textOnly Go.Departure.lateStores }, { on := 16, ground := Go.Ground.phase }, { on := 17, ground := Go.Ground.phase }, { on := 18, ground := Go.Ground.phase }, { on := 19, ground := Go.Ground.textOnly Go.Departure.lateStoresUnsure }], guard := none }) (v := ?_) rfl (by kernel_rfl) (by kernel_rfl) (by kernel_rfl) (by kernel_rfl) (fun _ _ _ h => h) (Or.inl ⟨by rfl, ?_⟩) (by first | (intro _; assumption) | (refine early_no ?_; kernel_rfl)) ?_
  rotate_left 1
  · intro w' hSw; (go_simp <;> (with_reducible rfl))
  (try simp only [Act.put, List.setIfInBounds_toArray, List.set_cons_zero, List.set_cons_succ])
  refine anyHT_any (i := 21) (oi := { dst := some 26, op := Go.Op.fieldAddr 26 (Go.Operand.tmp 25) 7, type := 0, pos := "law.go:30", after := #[{ on := 20, ground := Go.Ground.data }, { on := 0, ground := Go.Ground.phase }, { on := 1, ground := Go.Ground.phase }, { on := 2, ground := Go.Ground.phase }, { on := 3, ground := Go.Ground.phase }, { on := 4, ground := Go.Ground.phase }, { on := 5, ground := Go.Ground.textOnly Go.Departure.lateStores }, { on := 6, ground := Go.Ground.phase }, { on := 7, ground := Go.Ground.phase }, { on := 8, ground := Go.Ground.phase }, { on := 9, ground := Go.Ground.textOnly Go.Departure.lateStoresUnsure }, { on := 10, ground := Go.Ground.textOnly Go.Departure.lateStores }, { on := 11, ground := Go.Ground.phase }, { on := 12, ground := Go.Ground.phase }, { on := 13, ground := Go.Ground.phase }, { on := 14, ground := Go.Ground.textOnly Go.Departure.lateStoresUnsure }, { on := 15, ground := Go.Ground.textOnly Go.Departure.lateStores }, { on := 16, ground := Go.Ground.phase }, { on := 17, ground := Go.Ground.phase }, { on := 18, ground := Go.Ground.phase }, { on := 19, ground := Go.Ground.textOnly Go.Departure.lateStoresUnsure }], guard := none }) (v := ?_) rfl (by kernel_rfl) (by kernel_rfl) (by kernel_rfl) (by kernel_rfl) (fun _ _ _ h => h) (Or.inl ⟨by rfl, ?_⟩) (by first | (intro _; assumption) | (refine early_no ?_; kernel_rfl)) ?_
  rotate_left 1
  · intro w' hSw; (go_simp <;> (with_reducible rfl))
  (try simp only [Act.put, List.setIfInBounds_toArray, List.set_cons_zero, List.set_cons_succ])
  refine anyHT_one (i := 9) (o := { dst := some 14, op := Go.Op.call { callee := Go.Callee.value (Go.Operand.tmp 10), args := #[Go.Operand.tmp 13], argTypes := #[24] }, type := 24, pos := "law.go:30", after := #[{ on := 5, ground := Go.Ground.data }, { on := 8, ground := Go.Ground.data }, { on := 4, ground := Go.Ground.chain }], guard := none }) (by kernel_rfl) rfl (fun K hK => ?_)
  go_simp
  (refine (cut9_any a.AD a.nD a.cD mD _ HP.out.sr.dc ED.out).mono ?_; rintro e w' ⟨rfl, rfl⟩)
  refine hK.out _ _ ?_ (fun hHeld => ?_)
  · exact hHeld
  clear hK K
  (try simp only [Act.put, List.setIfInBounds_toArray, List.set_cons_zero, List.set_cons_succ])
  refine anyHT_one (i := 14) (o := { dst := some 19, op := Go.Op.call { callee := Go.Callee.value (Go.Operand.tmp 15), args := #[Go.Operand.tmp 18], argTypes := #[24] }, type := 24, pos := "law.go:30", after := #[{ on := 10, ground := Go.Ground.data }, { on := 13, ground := Go.Ground.data }, { on := 9, ground := Go.Ground.chain }], guard := none }) (by kernel_rfl) rfl (fun K hK => ?_)
  go_simp
  (refine (cut9_any a.AU a.nU a.cU mU _ HP.out.uc EU.out).mono ?_; rintro e w' ⟨rfl, rfl⟩)
  refine hK.out _ _ ?_ (fun hHeld => ?_)
  · exact hHeld
  clear hK K
  (try simp only [Act.put, List.setIfInBounds_toArray, List.set_cons_zero, List.set_cons_succ])
  refine anyHT_one (i := 19) (o := { dst := some 24, op := Go.Op.call { callee := Go.Callee.value (Go.Operand.tmp 20), args := #[Go.Operand.tmp 23], argTypes := #[24] }, type := 24, pos := "law.go:30", after := #[{ on := 15, ground := Go.Ground.data }, { on := 18, ground := Go.Ground.data }, { on := 14, ground := Go.Ground.chain }], guard := none }) (by kernel_rfl) rfl (fun K hK => ?_)
  go_simp
  (refine (cut9_any a.AM a.nM a.cM mM _ HP.out.mc EM.out).mono ?_; rintro e w' ⟨rfl, rfl⟩)
  refine hK.out _ _ ?_ (fun hHeld => ?_)
  · exact hHeld
  clear hK K
  (try simp only [Act.put, List.setIfInBounds_toArray, List.set_cons_zero, List.set_cons_succ])
  have f7 := late_frozen HK0.out 7
  refine anyHT_late (i := 22) (o := { dst := none, op := Go.Op.store 24 (Go.Operand.tmp 26) (Go.Operand.tmp 9), type := 0, pos := "law.go:30", after := #[{ on := 21, ground := Go.Ground.data }, { on := 4, ground := Go.Ground.data }, { on := 19, ground := Go.Ground.chain }, { on := 0, ground := Go.Ground.phase }, { on := 1, ground := Go.Ground.phase }, { on := 2, ground := Go.Ground.phase }, { on := 3, ground := Go.Ground.phase }, { on := 4, ground := Go.Ground.phase }, { on := 5, ground := Go.Ground.textOnly Go.Departure.lateStores }, { on := 6, ground := Go.Ground.phase }, { on := 7, ground := Go.Ground.phase }, { on := 8, ground := Go.Ground.phase }, { on := 9, ground := Go.Ground.textOnly Go.Departure.lateStoresUnsure }, { on := 10, ground := Go.Ground.textOnly Go.Departure.lateStores }, { on := 11, ground := Go.Ground.phase }, { on := 12, ground := Go.Ground.phase }, { on := 13, ground := Go.Ground.phase }, { on := 14, ground := Go.Ground.textOnly Go.Departure.lateStoresUnsure }, { on := 15, ground := Go.Ground.textOnly Go.Departure.lateStores }, { on := 16, ground := Go.Ground.phase }, { on := 17, ground := Go.Ground.phase }, { on := 18, ground := Go.Ground.phase }, { on := 19, ground := Go.Ground.textOnly Go.Departure.lateStoresUnsure }], guard := none }) (by kernel_rfl) rfl (by kernel_rfl) (fun K hK => ?_)
  go_simp
  skip
  refine hK.out _ _ ?_
  clear hK K
  (try simp only [Act.put, List.setIfInBounds_toArray, List.set_cons_zero, List.set_cons_succ])
  have LK1 := Lib.hid (late_cell (i := 7) HK0.out (.slice a.AH mH a.cH))
  have LB1 := Lib.hid (Below.drew (Hb0.out.setCell (p := ⟨z, 7, none⟩) Hzle.out (.slice a.AH mH a.cH)))
  have LS1 := Lib.hid (show (w0.setCell ⟨z, 7, none⟩ (.slice a.AH mH a.cH)).drew.heap.size = z + 2 from (by simpa [World.setCell, World.drew] using Hs0.out))
  have LZ1 := Lib.hid (show (w0.setCell ⟨z, 7, none⟩ (.slice a.AH mH a.cH)).drew.heap[z + 1]? = some (.cells #[.int .u8 0, .int .u16 0, .bool false, .int .u8 0, .int .u8 0, .int .u32 0, .int .u32 0, .slice none 0 0, .int .u16 0, .int .u16 0, .int .u32 0, .int .u32 0, .int .u8 0, .int .u16 0, .int .u16 0, .slice none 0 0, .slice none 0 0, .int .u16 0, .int .u16 0, .slice none 0 0, .int .u8 0, .int .u8 0, .int .u32 0, .slice none 0 0] 35 (0, 0)) from (Below.heap_setCell w0 ⟨z, 7, none⟩ (.slice a.AH mH a.cH) (z + 1) (by simp)).trans HK1.out)
  clear f7 hHeld
  generalize (w0.setCell ⟨z, 7, none⟩ (.slice a.AH mH a.cH)).drew = w1 at LK1 LB1 LS1 LZ1 ⊢
  refine anyHT_any (i := 23) (oi := { dst := some 27, op := Go.Op.fieldAddr 35 (Go.Operand.tmp 1) 1, type := 0, pos := "law.go:30", after := #[{ on := 0, ground := Go.Ground.phase }, { on := 1, ground := Go.Ground.phase }, { on := 2, ground := Go.Ground.phase }, { on := 3, ground := Go.Ground.phase }, { on := 4, ground := Go.Ground.phase }, { on := 5, ground := Go.Ground.phase }, { on := 6, ground := Go.Ground.phase }, { on := 7, ground := Go.Ground.phase }, { on := 8, ground := Go.Ground.phase }, { on := 9, ground := Go.Ground.phase }, { on := 10, ground := Go.Ground.textOnly Go.Departure.lateStores }, { on := 11, ground := Go.Ground.phase }, { on := 12, ground := Go.Ground.phase }, { on := 13, ground := Go.Ground.phase }, { on := 14, ground := Go.Ground.textOnly Go.Departure.lateStoresUnsure }, { on := 15, ground := Go.Ground.textOnly Go.Departure.lateStores }, { on := 16, ground := Go.Ground.phase }, { on := 17, ground := Go.Ground.phase }, { on := 18, ground := Go.Ground.phase }, { on := 19, ground := Go.Ground.textOnly Go.Departure.lateStoresUnsure }, { on := 20, ground := Go.Ground.phase }, { on := 21, ground := Go.Ground.phase }, { on := 22, ground := Go.Ground.phase }], guard := none }) (v := ?_) rfl (by kernel_rfl) (by kernel_rfl) (by kernel_rfl) (by kernel_rfl) (fun _ _ _ h => h) (Or.inl ⟨by rfl, ?_⟩) (by first | (intro _; assumption) | (refine early_no ?_; kernel_rfl)) ?_
  rotate_left 1
  · intro w' hSw; (go_simp <;> (with_reducible rfl))
  (try simp only [Act.put, List.setIfInBounds_toArray, List.set_cons_zero, List.set_cons_succ])
  refine anyHT_any (i := 24) (oi := { dst := some 28, op := Go.Op.fieldAddr 29 (Go.Operand.tmp 27) 8, type := 0, pos := "law.go:30", after := #[{ on := 23, ground := Go.Ground.data }, { on := 0, ground := Go.Ground.phase }, { on := 1, ground := Go.Ground.phase }, { on := 2, ground := Go.Ground.phase }, { on := 3, ground := Go.Ground.phase }, { on := 4, ground := Go.Ground.phase }, { on := 5, ground := Go.Ground.phase }, { on := 6, ground := Go.Ground.phase }, { on := 7, ground := Go.Ground.phase }, { on := 8, ground := Go.Ground.phase }, { on := 9, ground := Go.Ground.phase }, { on := 10, ground := Go.Ground.textOnly Go.Departure.lateStores }, { on := 11, ground := Go.Ground.phase }, { on := 12, ground := Go.Ground.phase }, { on := 13, ground := Go.Ground.phase }, { on := 14, ground := Go.Ground.textOnly Go.Departure.lateStoresUnsure }, { on := 15, ground := Go.Ground.textOnly Go.Departure.lateStores }, { on := 16, ground := Go.Ground.phase }, { on := 17, ground := Go.Ground.phase }, { on := 18, ground := Go.Ground.phase }, { on := 19, ground := Go.Ground.textOnly Go.Departure.lateStoresUnsure }, { on := 20, ground := Go.Ground.phase }, { on := 21, ground := Go.Ground.phase }, { on := 22, ground := Go.Ground.phase }], guard := none }) (v := ?_) rfl (by kernel_rfl) (by kernel_rfl) (by kernel_rfl) (by kernel_rfl) (fun _ _ _ h => h) (Or.inl ⟨by rfl, ?_⟩) (by first | (intro _; assumption) | (refine early_no ?_; kernel_rfl)) ?_
  rotate_left 1
  · intro w' hSw; (go_simp <;> (with_reducible rfl))
  (try simp only [Act.put, List.setIfInBounds_toArray, List.set_cons_zero, List.set_cons_succ])
  have c16 := (show w1.cell? ⟨z, 16, none⟩ = some (.slice a.AD a.nD a.cD) by rw [blk_cell LK1.out]; rfl)
  have f16 := late_frozen LK1.out 16
  refine anyHT_late (i := 25) (o := { dst := none, op := Go.Op.store 24 (Go.Operand.tmp 28) (Go.Operand.tmp 14), type := 0, pos := "law.go:30", after := #[{ on := 24, ground := Go.Ground.data }, { on := 9, ground := Go.Ground.data }, { on := 22, ground := Go.Ground.chain }, { on := 0, ground := Go.Ground.phase }, { on := 1, ground := Go.Ground.phase }, { on := 2, ground := Go.Ground.phase }, { on := 3, ground := Go.Ground.phase }, { on := 4, ground := Go.Ground.phase }, { on := 5, ground := Go.Ground.phase }, { on := 6, ground := Go.Ground.phase }, { on := 7, ground := Go.Ground.phase }, { on := 8, ground := Go.Ground.phase }, { on := 9, ground := Go.Ground.phase }, { on := 10, ground := Go.Ground.textOnly Go.Departure.lateStores }, { on := 11, ground := Go.Ground.phase }, { on := 12, ground := Go.Ground.phase }, { on := 13, ground := Go.Ground.phase }, { on := 14, ground := Go.Ground.textOnly Go.Departure.lateStoresUnsure }, { on := 15, ground := Go.Ground.textOnly Go.Departure.lateStores }, { on := 16, ground := Go.Ground.phase }, { on := 17, ground := Go.Ground.phase }, { on := 18, ground := Go.Ground.phase }, { on := 19, ground := Go.Ground.textOnly Go.Departure.lateStoresUnsure }, { on := 20, ground := Go.Ground.phase }, { on := 21, ground := Go.Ground.phase }, { on := 22, ground := Go.Ground.phase }], guard := none }) (by kernel_rfl) rfl (by kernel_rfl) (fun K hK => ?_)
  go_simp
  skip
  refine hK.out _ _ ?_
  clear hK K
  (try simp only [Act.put, List.setIfInBounds_toArray, List.set_cons_zero, List.set_cons_succ])
  have LK2 := Lib.hid (setCell_block (i := 16) LK1.out (.slice a.AD mD a.cD))
  have LB2 := Lib.hid (LB1.out.setCell (p := ⟨z, 16, none⟩) Hzle.out (.slice a.AD mD a.cD))
  have LS2 := Lib.hid (show (w1.setCell ⟨z, 16, none⟩ (.slice a.AD mD a.cD)).heap.size = z + 2 from (by simpa [World.setCell, World.drew] using LS1.out))
  have LZ2 := Lib.hid (show (w1.setCell ⟨z, 16, none⟩ (.slice a.AD mD a.cD)).heap[z + 1]? = some (.cells #[.int .u8 0, .int .u16 0, .bool false, .int .u8 0, .int .u8 0, .int .u32 0, .int .u32 0, .slice none 0 0, .int .u16 0, .int .u16 0, .int .u32 0, .int .u32 0, .int .u8 0, .int .u16 0, .int .u16 0, .slice none 0 0, .slice none 0 0, .int .u16 0, .int .u16 0, .slice none 0 0, .int .u8 0, .int .u8 0, .int .u32 0, .slice none 0 0] 35 (0, 0)) from (Below.heap_setCell w1 ⟨z, 16, none⟩ (.slice a.AD mD a.cD) (z + 1) (by simp)).trans LZ1.out)
  clear f16 c16
  generalize w1.setCell ⟨z, 16, none⟩ (.slice a.AD mD a.cD) = w2 at LK2 LB2 LS2 LZ2 ⊢
  refine anyHT_any (i := 26) (oi := { dst := some 29, op := Go.Op.fieldAddr 35 (Go.Operand.tmp 1) 2, type := 0, pos := "law.go:30", after := #[{ on := 0, ground := Go.Ground.phase }, { on := 1, ground := Go.Ground.phase }, { on := 2, ground := Go.Ground.phase }, { on := 3, ground := Go.Ground.phase }, { on := 4, ground := Go.Ground.phase }, { on := 5, ground := Go.Ground.phase }, { on := 6, ground := Go.Ground.phase }, { on := 7, ground := Go.Ground.phase }, { on := 8, ground := Go.Ground.phase }, { on := 9, ground := Go.Ground.phase }, { on := 10, ground := Go.Ground.phase }, { on := 11, ground := Go.Ground.phase }, { on := 12, ground := Go.Ground.phase }, { on := 13, ground := Go.Ground.phase }, { on := 14, ground := Go.Ground.phase }, { on := 15, ground := Go.Ground.textOnly Go.Departure.lateStores }, { on := 16, ground := Go.Ground.phase }, { on := 17, ground := Go.Ground.phase }, { on := 18, ground := Go.Ground.phase }, { on := 19, ground := Go.Ground.textOnly Go.Departure.lateStoresUnsure }, { on := 20, ground := Go.Ground.phase }, { on := 21, ground := Go.Ground.phase }, { on := 22, ground := Go.Ground.phase }, { on := 23, ground := Go.Ground.phase }, { on := 24, ground := Go.Ground.phase }, { on := 25, ground := Go.Ground.phase }], guard := none }) (v := ?_) rfl (by kernel_rfl) (by kernel_rfl) (by kernel_rfl) (by kernel_rfl) (fun _ _ _ h => h) (Or.inl ⟨by rfl, ?_⟩) (by first | (intro _; assumption) | (refine early_no ?_; kernel_rfl)) ?_
  rotate_left 1
  · intro w' hSw; (go_simp <;> (with_reducible rfl))
  (try simp only [Act.put, List.setIfInBounds_toArray, List.set_cons_zero, List.set_cons_succ])
  refine anyHT_any (i := 27) (oi := { dst := some 30, op := Go.Op.fieldAddr 31 (Go.Operand.tmp 29) 2, type := 0, pos := "law.go:30", after := #[{ on := 26, ground := Go.Ground.data }, { on := 0, ground := Go.Ground.phase }, { on := 1, ground := Go.Ground.phase }, { on := 2, ground := Go.Ground.phase }, { on := 3, ground := Go.Ground.phase }, { on := 4, ground := Go.Ground.phase }, { on := 5, ground := Go.Ground.phase }, { on := 6, ground := Go.Ground.phase }, { on := 7, ground := Go.Ground.phase }, { on := 8, ground := Go.Ground.phase }, { on := 9, ground := Go.Ground.phase }, { on := 10, ground := Go.Ground.phase }, { on := 11, ground := Go.Ground.phase }, { on := 12, ground := Go.Ground.phase }, { on := 13, ground := Go.Ground.phase }, { on := 14, ground := Go.Ground.phase }, { on := 15, ground := Go.Ground.textOnly Go.Departure.lateStores }, { on := 16, ground := Go.Ground.phase }, { on := 17, ground := Go.Ground.phase }, { on := 18, ground := Go.Ground.phase }, { on := 19, ground := Go.Ground.textOnly Go.Departure.lateStoresUnsure }, { on := 20, ground := Go.Ground.phase }, { on := 21, ground := Go.Ground.phase }, { on := 22, ground := Go.Ground.phase }, { on := 23, ground := Go.Ground.phase }, { on := 24, ground := Go.Ground.phase }, { on := 25, ground := Go.Ground.phase }], guard := none }) (v := ?_) rfl (by kernel_rfl) (by kernel_rfl) (by kernel_rfl) (by kernel_rfl) (fun _ _ _ h => h) (Or.inl ⟨by rfl, ?_⟩) (by first | (intro _; assumption) | (refine early_no ?_; kernel_rfl)) ?_
  rotate_left 1
  · intro w' hSw; (go_simp <;> (with_reducible rfl))
  (try simp only [Act.put, List.setIfInBounds_toArray, List.set_cons_zero, List.set_cons_succ])
  have c19 := (show w2.cell? ⟨z, 19, none⟩ = some (.slice a.AU a.nU a.cU) by rw [blk_cell LK2.out]; rfl)
  have f19 := late_frozen LK2.out 19
  refine anyHT_late (i := 28) (o := { dst := none, op := Go.Op.store 24 (Go.Operand.tmp 30) (Go.Operand.tmp 19), type := 0, pos := "law.go:30", after := #[{ on := 27, ground := Go.Ground.data }, { on := 14, ground := Go.Ground.data }, { on := 25, ground := Go.Ground.chain }, { on := 0, ground := Go.Ground.phase }, { on := 1, ground := Go.Ground.phase }, { on := 2, ground := Go.Ground.phase }, { on := 3, ground := Go.Ground.phase }, { on := 4, ground := Go.Ground.phase }, { on := 5, ground := Go.Ground.phase }, { on := 6, ground := Go.Ground.phase }, { on := 7, ground := Go.Ground.phase }, { on := 8, ground := Go.Ground.phase }, { on := 9, ground := Go.Ground.phase }, { on := 10, ground := Go.Ground.phase }, { on := 11, ground := Go.Ground.phase }, { on := 12, ground := Go.Ground.phase }, { on := 13, ground := Go.Ground.phase }, { on := 14, ground := Go.Ground.phase }, { on := 15, ground := Go.Ground.textOnly Go.Departure.lateStores }, { on := 16, ground := Go.Ground.phase }, { on := 17, ground := Go.Ground.phase }, { on := 18, ground := Go.Ground.phase }, { on := 19, ground := Go.Ground.textOnly Go.Departure.lateStoresUnsure }, { on := 20, ground := Go.Ground.phase }, { on := 21, ground := Go.Ground.phase }, { on := 22, ground := Go.Ground.phase }, { on := 23, ground := Go.Ground.phase }, { on := 24, ground := Go.Ground.phase }, { on := 25, ground := Go.Ground.phase }], guard := none }) (by kernel_rfl) rfl (by kernel_rfl) (fun K hK => ?_)
  go_simp
  skip
  refine hK.out _ _ ?_
  clear hK K
  (try simp only [Act.put, List.setIfInBounds_toArray, List.set_cons_zero, List.set_cons_succ])
  have LK3 := Lib.hid (setCell_block (i := 19) LK2.out (.slice a.AU mU a.cU))
  have LB3 := Lib.hid (LB2.out.setCell (p := ⟨z, 19, none⟩) Hzle.out (.slice a.AU mU a.cU))
  have LS3 := Lib.hid (show (w2.setCell ⟨z, 19, none⟩ (.slice a.AU mU a.cU)).heap.size = z + 2 from (by simpa [World.setCell, World.drew] using LS2.out))
  have LZ3 := Lib.hid (show (w2.setCell ⟨z, 19, none⟩ (.slice a.AU mU a.cU)).heap[z + 1]? = some (.cells #[.int .u8 0, .int .u16 0, .bool false, .int .u8 0, .int .u8 0, .int .u32 0, .int .u32 0, .slice none 0 0, .int .u16 0, .int .u16 0, .int .u32 0, .int .u32 0, .int .u8 0, .int .u16 0, .int .u16 0, .slice none 0 0, .slice none 0 0, .int .u16 0, .int .u16 0, .slice none 0 0, .int .u8 0, .int .u8 0, .int .u32 0, .slice none 0 0] 35 (0, 0)) from (Below.heap_setCell w2 ⟨z, 19, none⟩ (.slice a.AU mU a.cU) (z + 1) (by simp)).trans LZ2.out)
  clear f19 c19
  generalize w2.setCell ⟨z, 19, none⟩ (.slice a.AU mU a.cU) = w3 at LK3 LB3 LS3 LZ3 ⊢
  refine anyHT_any (i := 29) (oi := { dst := some 31, op := Go.Op.fieldAddr 35 (Go.Operand.tmp 1) 3, type := 0, pos := "law.go:30", after := #[{ on := 0, ground := Go.Ground.phase }, { on := 1, ground := Go.Ground.phase }, { on := 2, ground := Go.Ground.phase }, { on := 3, ground := Go.Ground.phase }, { on := 4, ground := Go.Ground.phase }, { on := 5, ground := Go.Ground.phase }, { on := 6, ground := Go.Ground.phase }, { on := 7, ground := Go.Ground.phase }, { on := 8, ground := Go.Ground.phase }, { on := 9, ground := Go.Ground.phase }, { on := 10, ground := Go.Ground.phase }, { on := 11, ground := Go.Ground.phase }, { on := 12, ground := Go.Ground.phase }, { on := 13, ground := Go.Ground.phase }, { on := 14, ground := Go.Ground.phase }, { on := 15, ground := Go.Ground.phase }, { on := 16, ground := Go.Ground.phase }, { on := 17, ground := Go.Ground.phase }, { on := 18, ground := Go.Ground.phase }, { on := 19, ground := Go.Ground.phase }, { on := 20, ground := Go.Ground.phase }, { on := 21, ground := Go.Ground.phase }, { on := 22, ground := Go.Ground.phase }, { on := 23, ground := Go.Ground.phase }, { on := 24, ground := Go.Ground.phase }, { on := 25, ground := Go.Ground.phase }, { on := 26, ground := Go.Ground.phase }, { on := 27, ground := Go.Ground.phase }, { on := 28, ground := Go.Ground.phase }], guard := none }) (v := ?_) rfl (by kernel_rfl) (by kernel_rfl) (by kernel_rfl) (by kernel_rfl) (fun _ _ _ h => h) (Or.inl ⟨by rfl, ?_⟩) (by first | (intro _; assumption) | (refine early_no ?_; kernel_rfl)) ?_
  rotate_left 1
  · intro w' hSw; (go_simp <;> (with_reducible rfl))
  (try simp only [Act.put, List.setIfInBounds_toArray, List.set_cons_zero, List.set_cons_succ])
  refine anyHT_any (i := 30) (oi := { dst := some 32, op := Go.Op.fieldAddr 33 (Go.Operand.tmp 31) 3, type := 0, pos := "law.go:30", after := #[{ on := 29, ground := Go.Ground.data }, { on := 0, ground := Go.Ground.phase }, { on := 1, ground := Go.Ground.phase }, { on := 2, ground := Go.Ground.phase }, { on := 3, ground := Go.Ground.phase }, { on := 4, ground := Go.Ground.phase }, { on := 5, ground := Go.Ground.phase }, { on := 6, ground := Go.Ground.phase }, { on := 7, ground := Go.Ground.phase }, { on := 8, ground := Go.Ground.phase }, { on := 9, ground := Go.Ground.phase }, { on := 10, ground := Go.Ground.phase }, { on := 11, ground := Go.Ground.phase }, { on := 12, ground := Go.Ground.phase }, { on := 13, ground := Go.Ground.phase }, { on := 14, ground := Go.Ground.phase }, { on := 15, ground := Go.Ground.phase }, { on := 16, ground := Go.Ground.phase }, { on := 17, ground := Go.Ground.phase }, { on := 18, ground := Go.Ground.phase }, { on := 19, ground := Go.Ground.phase }, { on := 20, ground := Go.Ground.phase }, { on := 21, ground := Go.Ground.phase }, { on := 22, ground := Go.Ground.phase }, { on := 23, ground := Go.Ground.phase }, { on := 24, ground := Go.Ground.phase }, { on := 25, ground := Go.Ground.phase }, { on := 26, ground := Go.Ground.phase }, { on := 27, ground := Go.Ground.phase }, { on := 28, ground := Go.Ground.phase }], guard := none }) (v := ?_) rfl (by kernel_rfl) (by kernel_rfl) (by kernel_rfl) (by kernel_rfl) (fun _ _ _ h => h) (Or.inl ⟨by rfl, ?_⟩) (by first | (intro _; assumption) | (refine early_no ?_; kernel_rfl)) ?_
  rotate_left 1
  · intro w' hSw; (go_simp <;> (with_reducible rfl))
  (try simp only [Act.put, List.setIfInBounds_toArray, List.set_cons_zero, List.set_cons_succ])
  have c23 := (show w3.cell? ⟨z, 23, none⟩ = some (.slice a.AM a.nM a.cM) by rw [blk_cell LK3.out]; rfl)
  have f23 := late_frozen LK3.out 23
  refine anyHT_late (i := 31) (o := { dst := none, op := Go.Op.store 24 (Go.Operand.tmp 32) (Go.Operand.tmp 24), type := 0, pos := "law.go:30", after := #[{ on := 30, ground := Go.Ground.data }, { on := 19, ground := Go.Ground.data }, { on := 28, ground := Go.Ground.chain }, { on := 0, ground := Go.Ground.phase }, { on := 1, ground := Go.Ground.phase }, { on := 2, ground := Go.Ground.phase }, { on := 3, ground := Go.Ground.phase }, { on := 4, ground := Go.Ground.phase }, { on := 5, ground := Go.Ground.phase }, { on := 6, ground := Go.Ground.phase }, { on := 7, ground := Go.Ground.phase }, { on := 8, ground := Go.Ground.phase }, { on := 9, ground := Go.Ground.phase }, { on := 10, ground := Go.Ground.phase }, { on := 11, ground := Go.Ground.phase }, { on := 12, ground := Go.Ground.phase }, { on := 13, ground := Go.Ground.phase }, { on := 14, ground := Go.Ground.phase }, { on := 15, ground := Go.Ground.phase }, { on := 16, ground := Go.Ground.phase }, { on := 17, ground := Go.Ground.phase }, { on := 18, ground := Go.Ground.phase }, { on := 19, ground := Go.Ground.phase }, { on := 20, ground := Go.Ground.phase }, { on := 21, ground := Go.Ground.phase }, { on := 22, ground := Go.Ground.phase }, { on := 23, ground := Go.Ground.phase }, { on := 24, ground := Go.Ground.phase }, { on := 25, ground := Go.Ground.phase }, { on := 26, ground := Go.Ground.phase }, { on := 27, ground := Go.Ground.phase }, { on := 28, ground := Go.Ground.phase }], guard := none }) (by kernel_rfl) rfl (by kernel_rfl) (fun K hK => ?_)
  go_simp
  skip
  refine hK.out _ _ ?_
  clear hK K
  (try simp only [Act.put, List.setIfInBounds_toArray, List.set_cons_zero, List.set_cons_succ])
  have LK4 := Lib.hid (setCell_block (i := 23) LK3.out (.slice a.AM mM a.cM))
  have LB4 := Lib.hid (LB3.out.setCell (p := ⟨z, 23, none⟩) Hzle.out (.slice a.AM mM a.cM))
  have LS4 := Lib.hid (show (w3.setCell ⟨z, 23, none⟩ (.slice a.AM mM a.cM)).heap.size = z + 2 from (by simpa [World.setCell, World.drew] using LS3.out))
  have LZ4 := Lib.hid (show (w3.setCell ⟨z, 23, none⟩ (.slice a.AM mM a.cM)).heap[z + 1]? = some (.cells #[.int .u8 0, .int .u16 0, .bool false, .int .u8 0, .int .u8 0, .int .u32 0, .int .u32 0, .slice none 0 0, .int .u16 0, .int .u16 0, .int .u32 0, .int .u32 0, .int .u8 0, .int .u16 0, .int .u16 0, .slice none 0 0, .slice none 0 0, .int .u16 0, .int .u16 0, .slice none 0 0, .int .u8 0, .int .u8 0, .int .u32 0, .slice none 0 0] 35 (0, 0)) from (Below.heap_setCell w3 ⟨z, 23, none⟩ (.slice a.AM mM a.cM) (z + 1) (by simp)).trans LZ3.out)
  clear f23 c23
  generalize w3.setCell ⟨z, 23, none⟩ (.slice a.AM mM a.cM) = w4 at LK4 LB4 LS4 LZ4 ⊢
  refine anyHT_done (by kernel_rfl) ?_ _
  have hk4 := LK4.out
  simp only [Array.set!, List.setIfInBounds_toArray, List.set_cons_succ, List.set_cons_zero] at hk4
  have HK4 := Lib.hid hk4
  have HP4 := Lib.hid (HPw.out.below LB4.out)
  clear hk4 LK1 LK2 LK3 LK4 LB1 LB2 LB3 LS1 LS2 LS3 LZ1 LZ2 LZ3 HK1 HC Hfz HP HK0
  obtain ⟨k, hk, hkn, hk20⟩ := min_nat 20 a.nO (by omega)
  have hkm : min a.nO 20 = k := by split at hk <;> omega
  obtain ⟨w5, ew5⟩ : ∃ w5, w4.alloc (.cells #[] 51) = w5 := ⟨_, rfl⟩
  have hb5 : Below w4.heap.size w4 w5 := by rw [← ew5]; exact (Below.refl _ _).alloc (Nat.le_refl _) _
  have hk5 := blk_on HK4.out hb5
  have hs5 : z + 2 ≤ w5.heap.size := by have := hb5.size; rw [LS4.out] at this; omega
  have Hr5 := Lib.hid ((HP4.out.sr.o.below hb5).take (k := k) hkn)
  have Ho5 := Lib.hid (show OwnO w5 (z + 2) (some ⟨w4.heap.size, 0, none⟩) 0 0 [] by rw [← ew5]; exact OwnO.made (heap_alloc_new w4 _) (by rw [LS4.out]; exact Nat.le_refl _) (by simp [maxLen]) rfl)
  have HS5 := Lib.hid hs5
  have HB5 := Lib.hid (LB4.out.trans (hb5.mono LB4.out.size))
  have HK5 := Lib.hid hk5
  have hoc := HP4.out.sr.oc
  have hkc : (k : Int) ≤ (a.cO : Int) := by omega
  have hk0 : (0 : Int) ≤ (k : Int) := by omega
  have hkc2 : k ≤ a.cO := by omega
  have c15 : w5.cell? ⟨z, 15, none⟩ = some (.slice a.AO a.nO a.cO) := by rw [blk_cell hk5]; rfl
  clear hb5 hk5 hs5 hoc
  subst ew5
  go_upto_region 3 with (fail)
  go_wp2_with (refine wpList_appO rfl (.tmp 33) (.tmp 42) rfl (z + 2) _ a.AO 0 0 k a.cO [] (a.os.take k) rfl rfl Ho5.out Hr5.out (by omega) HS5.out ?_; intro A2 c2 w6 hown6 _ hb6 _; have hk6 := (hb6.block z (by omega)).trans HK5.out; have c15' := (show w6.cell? ⟨z, 15, none⟩ = some (.slice a.AO a.nO a.cO) by rw [blk_cell hk6]; rfl); have f15 := late_frozen hk6 15)
  have hb6w : Below w.heap.size w w6 := HB5.out.trans (hb6.mono (by have := HS5.out; have := Hz.out; omega))
  have hk7 := setCell_block (i := 15) hk6 (.slice A2 k c2)
  simp only [Array.set!, List.setIfInBounds_toArray, List.set_cons_succ, List.set_cons_zero] at hk7
  have hz7 : (w6.setCell ⟨z, 15, none⟩ (.slice A2 k c2)).heap[z + 1]? = some (.cells #[.int .u8 0, .int .u16 0, .bool false, .int .u8 0, .int .u8 0, .int .u32 0, .int .u32 0, .slice none 0 0, .int .u16 0, .int .u16 0, .int .u32 0, .int .u32 0, .int .u8 0, .int .u16 0, .int .u16 0, .slice none 0 0, .slice none 0 0, .int .u16 0, .int .u16 0, .slice none 0 0, .int .u8 0, .int .u8 0, .int .u32 0, .slice none 0 0] 35 (0, 0)) := by
    rw [Below.heap_setCell _ ⟨z, 15, none⟩ _ (z + 1) (by simp), hb6.block (z + 1) (by omega), Below.heap_alloc _ _ _ (by rw [LS4.out]; omega)]
    exact LZ4.out
  have hown7 : OwnO (w6.setCell ⟨z, 15, none⟩ (.slice A2 k c2)) (z + 2) A2 k c2 (stepC 60 (a.os.take k) 0) := by
    rw [stepC_zero]
    have h := hown6
    simp only [Nat.zero_add, List.nil_append] at h
    refine h.but (S := fun g => g = z) ((But.refl (fun g => g = z) w6).setCell (p := ⟨z, 15, none⟩) rfl _) ?_
    intro g eg hgz
    have := (World.ownsRow.lt h g (by rw [eg]; rfl)).1
    omega
  have hb7 : Below w.heap.size w (w6.setCell ⟨z, 15, none⟩ (.slice A2 k c2)) := hb6w.setCell (p := ⟨z, 15, none⟩) Hzle.out _
  have HF := Lib.hid (FewAt.mk hown7 hk7 hz7 hb7)
  obtain ⟨os', eo⟩ : ∃ os', a.os.take k = os' := ⟨_, rfl⟩
  have Hlen := Lib.hid (show os'.length = k by rw [← eo, List.length_take, HP4.out.sr.o.len]; omega)
  have Hos := Lib.hid (show Reads w os' (p.s.os.take 20) by
    have h1 := HPw.out.sr.os.take k
    have h2 : p.s.os.take k = p.s.os.take 20 := by rw [List.take_eq_take_iff, ← HPw.out.sr.os.len, HPw.out.sr.o.len]; omega
    rw [eo, h2] at h1
    exact h1)
  rw [eo] at HF
  have Heo := Lib.hid (show ∀ v ∈ os', v ∈ a.os from by rw [← eo]; exact fun v => List.mem_of_mem_take)
  obtain ⟨C, eC⟩ : ∃ C : Array Value, #[.int .u8 p.h.to, .int .u16 p.h.id, .bool p.h.df, .int .u8 p.h.tt, .int .u8 p.h.pr, .int .u32 p.h.sr, .int .u32 p.h.ds, .slice a.AH mH a.cH, .int .u16 p.s.sp, .int .u16 p.s.dp, .int .u32 p.s.sq, .int .u32 p.s.ak, .int .u8 p.s.fl, .int .u16 p.s.wn, .int .u16 p.s.ug, .slice A2 k c2, .slice a.AD mD a.cD, .int .u16 p.u.sp, .int .u16 p.u.dp, .slice a.AU mU a.cU, .int .u8 p.m.ty, .int .u8 p.m.cd, .int .u32 p.m.rs, .slice a.AM mM a.cM] = C := ⟨_, rfl⟩
  obtain ⟨Z, eZ⟩ : ∃ Z : Array Value, #[.int .u8 0, .int .u16 0, .bool false, .int .u8 0, .int .u8 0, .int .u32 0, .int .u32 0, .slice none 0 0, .int .u16 0, .int .u16 0, .int .u32 0, .int .u32 0, .int .u8 0, .int .u16 0, .int .u16 0, .slice none 0 0, .slice none 0 0, .int .u16 0, .int .u16 0, .slice none 0 0, .int .u8 0, .int .u8 0, .int .u32 0, .slice none 0 0] = Z := ⟨_, rfl⟩
  rw [eC, eZ] at HF
  have EC := Lib.hid eC
  have EZ := Lib.hid eZ
  clear hown7 hk7 hz7 hb7 hown6 hb6 hk6 c15' f15 c15 eo eC eZ hb6w hk Ho5 Hr5 HK5 HB5 HS5 HK4 LZ4 LS4 LB4 HP4
  go_loopg [50] k (fun gk i wr => ∃ j : Nat, Hid (gk + j = k) ∧ j ≤ k ∧ i = .int .i64 (j : Int) ∧ Hid (FewAt w wr z k c2 j A2 os' C Z))
  case atStart => exact ⟨0, rfl, Nat.zero_le _, rfl, HF⟩
  case round =>
    obtain ⟨j, hgk, hj, rfl, hF⟩ := hrel
    by_cases hjk : j < k
    · obtain ⟨g, eA, hgB, hgl⟩ := hF.out.own.addr (by omega)
      obtain ⟨o, eo⟩ : ∃ o, os'.getD j .none = o := ⟨_, rfl⟩
      have hat := (Hos.out.below hF.out.below).get j (by have := Hlen.out; omega)
      have hix := hF.out.own
      rw [eA] at hix
      have hix := hix.index hjk
      rw [stepC_get 60 os' j (by have := Hlen.out; omega), eo] at hix
      rw [eo] at hat
      obtain ⟨hrun, hcell, hcel2, hfz⟩ := hix
      have c15 : wr.cell? ⟨z, 15, none⟩ = some (.slice (some ⟨g, 0, none⟩) k c2) := by rw [blk_cell hF.out.blk, ← EC.out, eA]; rfl
      obtain ⟨kd, Ao, no, co⟩ := o
      obtain ⟨m, hm, hmn, hm60⟩ := min_nat 60 no (by omega)
      have hmm : min no 60 = m := by split at hm <;> omega
      have hnc := hat.2.2.1
      have hcm := hat.2.2.2.1
      simp only at hnc hcm hcel2
      have hmc : (m : Int) ≤ (co : Int) := by omega
      have hm0 : (0 : Int) ≤ (m : Int) := by omega
      have hmc2 : m ≤ co := by omega
      have hF1 : FewAt w wr z k c2 j (some ⟨g, 0, none⟩) os' C Z := by have h := hF.out; rw [eA] at h; exact h
      have HF1 := Lib.hid (hF1.drew.step Hz.out hgB Hlen.out hjk _ eo m hmm)
      have hfz1 := hfz (j * 2 + 1)
      have hS : wr.cell? ⟨z, 15, none⟩ = some (.slice (some ⟨g, 0, none⟩) k c2) ∧ wr.cell? ⟨g, j * 2 + 1, none⟩ = some (.slice Ao no co) := ⟨c15, hcel2⟩
      have HeA := Lib.hid eA
      clear eA eo hat hmm hF1 hcell hcel2 c15 hfz
      go_upto_region 7 with (fail)
      refine wp_region_heldT (S := fun w' => w'.cell? ⟨z, 15, none⟩ = some (.slice (some ⟨g, 0, none⟩) k c2) ∧ w'.cell? ⟨g, j * 2 + 1, none⟩ = some (.slice Ao no co)) [23] (by kernel_rfl) hS (fun hHeld => ?_)
      refine anyHT_any (i := 0) (oi := { dst := some 53, op := Go.Op.fieldAddr 35 (Go.Operand.tmp 1) 1, type := 0, pos := "law.go:33", after := #[], guard := none }) (v := ?_) rfl (by kernel_rfl) (by kernel_rfl) (by kernel_rfl) (by kernel_rfl) (fun _ _ _ h => h) (Or.inl ⟨by rfl, ?_⟩) (by first | (intro _; assumption) | (refine early_no ?_; kernel_rfl)) ?_
      rotate_left 1
      · intro w' hSw; (go_simp <;> (with_reducible rfl))
      (try simp only [Act.put, List.setIfInBounds_toArray, List.set_cons_zero, List.set_cons_succ])
      refine anyHT_any (i := 1) (oi := { dst := some 54, op := Go.Op.fieldAddr 29 (Go.Operand.tmp 53) 7, type := 0, pos := "law.go:33", after := #[{ on := 0, ground := Go.Ground.data }], guard := none }) (v := ?_) rfl (by kernel_rfl) (by kernel_rfl) (by kernel_rfl) (by kernel_rfl) (fun _ _ _ h => h) (Or.inl ⟨by rfl, ?_⟩) (by first | (intro _; assumption) | (refine early_no ?_; kernel_rfl)) ?_
      rotate_left 1
      · intro w' hSw; (go_simp <;> (with_reducible rfl))
      (try simp only [Act.put, List.setIfInBounds_toArray, List.set_cons_zero, List.set_cons_succ])
      refine anyHT_take (i := 2) (oi := { dst := some 55, op := Go.Op.load 27 (Go.Operand.tmp 54), type := 27, pos := "law.go:33", after := #[{ on := 1, ground := Go.Ground.data }], guard := none }) (v := ?_) rfl (by kernel_rfl) (by kernel_rfl) (by kernel_rfl) (by kernel_rfl) (by kernel_rfl) (by kernel_rfl) (fun _ _ _ h => h) (Or.inl ⟨by rfl, ?_⟩) (by assumption) ?_
      rotate_left 1
      · intro w' hSw; (go_simp <;> (with_reducible rfl))
      (try simp only [Act.put, List.setIfInBounds_toArray, List.set_cons_zero, List.set_cons_succ])
      refine anyHT_any (i := 3) (oi := { dst := some 56, op := Go.Op.move (Go.Operand.tmp 4), type := 3, pos := "law.go:33", after := #[], guard := none }) (v := ?_) rfl (by kernel_rfl) (by kernel_rfl) (by kernel_rfl) (by kernel_rfl) (fun _ _ _ h => h) (Or.inl ⟨by rfl, ?_⟩) (by first | (intro _; assumption) | (refine early_no ?_; kernel_rfl)) ?_
      rotate_left 1
      · intro w' hSw; (go_simp <;> (with_reducible rfl))
      (try simp only [Act.put, List.setIfInBounds_toArray, List.set_cons_zero, List.set_cons_succ])
      refine anyHT_any (i := 4) (oi := { dst := some 57, op := Go.Op.fieldAddr 35 (Go.Operand.tmp 1) 1, type := 0, pos := "law.go:33", after := #[], guard := none }) (v := ?_) rfl (by kernel_rfl) (by kernel_rfl) (by kernel_rfl) (by kernel_rfl) (fun _ _ _ h => h) (Or.inl ⟨by rfl, ?_⟩) (by first | (intro _; assumption) | (refine early_no ?_; kernel_rfl)) ?_
      rotate_left 1
      · intro w' hSw; (go_simp <;> (with_reducible rfl))
      (try simp only [Act.put, List.setIfInBounds_toArray, List.set_cons_zero, List.set_cons_succ])
      refine anyHT_any (i := 5) (oi := { dst := some 58, op := Go.Op.fieldAddr 29 (Go.Operand.tmp 57) 7, type := 0, pos := "law.go:33", after := #[{ on := 4, ground := Go.Ground.data }], guard := none }) (v := ?_) rfl (by kernel_rfl) (by kernel_rfl) (by kernel_rfl) (by kernel_rfl) (fun _ _ _ h => h) (Or.inl ⟨by rfl, ?_⟩) (by first | (intro _; assumption) | (refine early_no ?_; kernel_rfl)) ?_
      rotate_left 1
      · intro w' hSw; (go_simp <;> (with_reducible rfl))
      (try simp only [Act.put, List.setIfInBounds_toArray, List.set_cons_zero, List.set_cons_succ])
      refine anyHT_take (i := 6) (oi := { dst := some 59, op := Go.Op.load 27 (Go.Operand.tmp 58), type := 27, pos := "law.go:33", after := #[{ on := 5, ground := Go.Ground.data }], guard := none }) (v := ?_) rfl (by kernel_rfl) (by kernel_rfl) (by kernel_rfl) (by kernel_rfl) (by kernel_rfl) (by kernel_rfl) (fun _ _ _ h => h) (Or.inl ⟨by rfl, ?_⟩) (by assumption) ?_
      rotate_left 1
      · intro w' hSw; (go_simp <;> (with_reducible rfl))
      (try simp only [Act.put, List.setIfInBounds_toArray, List.set_cons_zero, List.set_cons_succ])
      refine anyHT_any (i := 7) (oi := { dst := some 60, op := Go.Op.move (Go.Operand.tmp 4), type := 3, pos := "law.go:33", after := #[], guard := none }) (v := ?_) rfl (by kernel_rfl) (by kernel_rfl) (by kernel_rfl) (by kernel_rfl) (fun _ _ _ h => h) (Or.inl ⟨by rfl, ?_⟩) (by first | (intro _; assumption) | (refine early_no ?_; kernel_rfl)) ?_
      rotate_left 1
      · intro w' hSw; (go_simp <;> (with_reducible rfl))
      (try simp only [Act.put, List.setIfInBounds_toArray, List.set_cons_zero, List.set_cons_succ])
      refine anyHT_any (i := 8) (oi := { dst := some 61, op := Go.Op.indexAddr 27 (Go.Operand.tmp 59) (Go.Operand.tmp 60), type := 0, pos := "law.go:33", after := #[{ on := 6, ground := Go.Ground.data }, { on := 7, ground := Go.Ground.data }], guard := none }) (v := ?_) rfl (by kernel_rfl) (by kernel_rfl) (by kernel_rfl) (by kernel_rfl) (fun _ _ _ h => h) (Or.inl ⟨by rfl, ?_⟩) (by first | (intro _; assumption) | (refine early_no ?_; kernel_rfl)) ?_
      rotate_left 1
      · intro w' hSw; (go_simp <;> (with_reducible rfl))
      (try simp only [Act.put, List.setIfInBounds_toArray, List.set_cons_zero, List.set_cons_succ])
      refine anyHT_any (i := 9) (oi := { dst := some 62, op := Go.Op.fieldAddr 51 (Go.Operand.tmp 61) 1, type := 0, pos := "law.go:33", after := #[{ on := 8, ground := Go.Ground.data }], guard := none }) (v := ?_) rfl (by kernel_rfl) (by kernel_rfl) (by kernel_rfl) (by kernel_rfl) (fun _ _ _ h => h) (Or.inl ⟨by rfl, ?_⟩) (by first | (intro _; assumption) | (refine early_no ?_; kernel_rfl)) ?_
      rotate_left 1
      · intro w' hSw; (go_simp <;> (with_reducible rfl))
      (try simp only [Act.put, List.setIfInBounds_toArray, List.set_cons_zero, List.set_cons_succ])
      refine anyHT_take (i := 10) (oi := { dst := some 63, op := Go.Op.load 24 (Go.Operand.tmp 62), type := 24, pos := "law.go:33", after := #[{ on := 9, ground := Go.Ground.data }], guard := none }) (v := ?_) rfl (by kernel_rfl) (by kernel_rfl) (by kernel_rfl) (by kernel_rfl) (by kernel_rfl) (by kernel_rfl) (fun _ _ _ h => h) (Or.inl ⟨by rfl, ?_⟩) (by assumption) ?_
      rotate_left 1
      · intro w' hSw; (go_simp <;> (with_reducible rfl))
      (try simp only [Act.put, List.setIfInBounds_toArray, List.set_cons_zero, List.set_cons_succ])
      refine anyHT_any (i := 11) (oi := { dst := some 64, op := Go.Op.fieldAddr 35 (Go.Operand.tmp 1) 1, type := 0, pos := "law.go:33", after := #[], guard := none }) (v := ?_) rfl (by kernel_rfl) (by kernel_rfl) (by kernel_rfl) (by kernel_rfl) (fun _ _ _ h => h) (Or.inl ⟨by rfl, ?_⟩) (by first | (intro _; assumption) | (refine early_no ?_; kernel_rfl)) ?_
      rotate_left 1
      · intro w' hSw; (go_simp <;> (with_reducible rfl))
      (try simp only [Act.put, List.setIfInBounds_toArray, List.set_cons_zero, List.set_cons_succ])
      refine anyHT_any (i := 12) (oi := { dst := some 65, op := Go.Op.fieldAddr 29 (Go.Operand.tmp 64) 7, type := 0, pos := "law.go:33", after := #[{ on := 11, ground := Go.Ground.data }], guard := none }) (v := ?_) rfl (by kernel_rfl) (by kernel_rfl) (by kernel_rfl) (by kernel_rfl) (fun _ _ _ h => h) (Or.inl ⟨by rfl, ?_⟩) (by first | (intro _; assumption) | (refine early_no ?_; kernel_rfl)) ?_
      rotate_left 1
      · intro w' hSw; (go_simp <;> (with_reducible rfl))
      (try simp only [Act.put, List.setIfInBounds_toArray, List.set_cons_zero, List.set_cons_succ])
      refine anyHT_take (i := 13) (oi := { dst := some 66, op := Go.Op.load 27 (Go.Operand.tmp 65), type := 27, pos := "law.go:33", after := #[{ on := 12, ground := Go.Ground.data }], guard := none }) (v := ?_) rfl (by kernel_rfl) (by kernel_rfl) (by kernel_rfl) (by kernel_rfl) (by kernel_rfl) (by kernel_rfl) (fun _ _ _ h => h) (Or.inl ⟨by rfl, ?_⟩) (by assumption) ?_
      rotate_left 1
      · intro w' hSw; (go_simp <;> (with_reducible rfl))
      (try simp only [Act.put, List.setIfInBounds_toArray, List.set_cons_zero, List.set_cons_succ])
      refine anyHT_any (i := 14) (oi := { dst := some 67, op := Go.Op.move (Go.Operand.tmp 4), type := 3, pos := "law.go:33", after := #[], guard := none }) (v := ?_) rfl (by kernel_rfl) (by kernel_rfl) (by kernel_rfl) (by kernel_rfl) (fun _ _ _ h => h) (Or.inl ⟨by rfl, ?_⟩) (by first | (intro _; assumption) | (refine early_no ?_; kernel_rfl)) ?_
      rotate_left 1
      · intro w' hSw; (go_simp <;> (with_reducible rfl))
      (try simp only [Act.put, List.setIfInBounds_toArray, List.set_cons_zero, List.set_cons_succ])
      refine anyHT_any (i := 15) (oi := { dst := some 68, op := Go.Op.indexAddr 27 (Go.Operand.tmp 66) (Go.Operand.tmp 67), type := 0, pos := "law.go:33", after := #[{ on := 13, ground := Go.Ground.data }, { on := 14, ground := Go.Ground.data }], guard := none }) (v := ?_) rfl (by kernel_rfl) (by kernel_rfl) (by kernel_rfl) (by kernel_rfl) (fun _ _ _ h => h) (Or.inl ⟨by rfl, ?_⟩) (by first | (intro _; assumption) | (refine early_no ?_; kernel_rfl)) ?_
      rotate_left 1
      · intro w' hSw; (go_simp <;> (with_reducible rfl))
      (try simp only [Act.put, List.setIfInBounds_toArray, List.set_cons_zero, List.set_cons_succ])
      refine anyHT_any (i := 16) (oi := { dst := some 69, op := Go.Op.fieldAddr 51 (Go.Operand.tmp 68) 1, type := 0, pos := "law.go:33", after := #[{ on := 15, ground := Go.Ground.data }], guard := none }) (v := ?_) rfl (by kernel_rfl) (by kernel_rfl) (by kernel_rfl) (by kernel_rfl) (fun _ _ _ h => h) (Or.inl ⟨by rfl, ?_⟩) (by first | (intro _; assumption) | (refine early_no ?_; kernel_rfl)) ?_
      rotate_left 1
      · intro w' hSw; (go_simp <;> (with_reducible rfl))
      (try simp only [Act.put, List.setIfInBounds_toArray, List.set_cons_zero, List.set_cons_succ])
      refine anyHT_take (i := 17) (oi := { dst := some 70, op := Go.Op.load 24 (Go.Operand.tmp 69), type := 24, pos := "law.go:33", after := #[{ on := 16, ground := Go.Ground.data }], guard := none }) (v := ?_) rfl (by kernel_rfl) (by kernel_rfl) (by kernel_rfl) (by kernel_rfl) (by kernel_rfl) (by kernel_rfl) (fun _ _ _ h => h) (Or.inl ⟨by rfl, ?_⟩) (by assumption) ?_
      rotate_left 1
      · intro w' hSw; (go_simp <;> (with_reducible rfl))
      (try simp only [Act.put, List.setIfInBounds_toArray, List.set_cons_zero, List.set_cons_succ])
      refine anyHT_any (i := 18) (oi := { dst := some 71, op := Go.Op.call { callee := Go.Callee.builtin Go.Builtin.len, args := #[Go.Operand.tmp 70], argTypes := #[24] }, type := 3, pos := "law.go:33", after := #[{ on := 17, ground := Go.Ground.data }], guard := none }) (v := ?_) rfl (by kernel_rfl) (by kernel_rfl) (by kernel_rfl) (by kernel_rfl) (fun _ _ _ h => h) (Or.inl ⟨by rfl, ?_⟩) (by first | (intro _; assumption) | (refine early_no ?_; kernel_rfl)) ?_
      rotate_left 1
      · intro w' hSw; (go_simp <;> (with_reducible rfl))
      (try simp only [Act.put, List.setIfInBounds_toArray, List.set_cons_zero, List.set_cons_succ])
      refine anyHT_any (i := 19) (oi := { dst := some 72, op := Go.Op.call { callee := Go.Callee.builtin Go.Builtin.min, args := #[Go.Operand.tmp 71, Go.Operand.const (Go.Value.int Go.IntKind.i64 60)], argTypes := #[3, 3] }, type := 3, pos := "law.go:33", after := #[{ on := 18, ground := Go.Ground.data }], guard := none }) (v := ?_) rfl (by kernel_rfl) (by kernel_rfl) (by kernel_rfl) (by kernel_rfl) (fun _ _ _ h => h) (Or.inl ⟨by rfl, ?_⟩) (by first | (intro _; assumption) | (refine early_no ?_; kernel_rfl)) ?_
      rotate_left 1
      · intro w' hSw; (go_simp <;> (with_reducible rfl))
      (try simp only [Act.put, List.setIfInBounds_toArray, List.set_cons_zero, List.set_cons_succ])
      refine anyHT_any (i := 20) (oi := { dst := some 73, op := Go.Op.slice 24 (Go.Operand.tmp 63) none (some (Go.Operand.tmp 72)) none, type := 24, pos := "law.go:33", after := #[{ on := 10, ground := Go.Ground.data }, { on := 19, ground := Go.Ground.data }], guard := none }) (v := ?_) rfl (by kernel_rfl) (by kernel_rfl) (by kernel_rfl) (by kernel_rfl) (fun _ _ _ h => h) (Or.inl ⟨by rfl, ?_⟩) (by first | (intro _; assumption) | (refine early_no ?_; kernel_rfl)) ?_
      rotate_left 1
      · intro w' hSw; (go_simp <;> (with_reducible rfl))
      (try simp only [Act.put, List.setIfInBounds_toArray, List.set_cons_zero, List.set_cons_succ])
      refine anyHT_any (i := 21) (oi := { dst := some 74, op := Go.Op.indexAddr 27 (Go.Operand.tmp 55) (Go.Operand.tmp 56), type := 0, pos := "law.go:33", after := #[{ on := 2, ground := Go.Ground.data }, { on := 3, ground := Go.Ground.data }, { on := 0, ground := Go.Ground.phase }, { on := 1, ground := Go.Ground.phase }, { on := 2, ground := Go.Ground.phase }, { on := 3, ground := Go.Ground.phase }, { on := 4, ground := Go.Ground.phase }, { on := 5, ground := Go.Ground.phase }, { on := 6, ground := Go.Ground.phase }, { on := 7, ground := Go.Ground.phase }, { on := 8, ground := Go.Ground.phase }, { on := 9, ground := Go.Ground.phase }, { on := 10, ground := Go.Ground.phase }, { on := 11, ground := Go.Ground.phase }, { on := 12, ground := Go.Ground.phase }, { on := 13, ground := Go.Ground.phase }, { on := 14, ground := Go.Ground.phase }, { on := 15, ground := Go.Ground.phase }, { on := 16, ground := Go.Ground.phase }, { on := 17, ground := Go.Ground.phase }, { on := 18, ground := Go.Ground.phase }, { on := 19, ground := Go.Ground.phase }, { on := 20, ground := Go.Ground.phase }], guard := none }) (v := ?_) rfl (by kernel_rfl) (by kernel_rfl) (by kernel_rfl) (by kernel_rfl) (fun _ _ _ h => h) (Or.inl ⟨by rfl, ?_⟩) (by first | (intro _; assumption) | (refine early_no ?_; kernel_rfl)) ?_
      rotate_left 1
      · intro w' hSw; (go_simp <;> (with_reducible rfl))
      (try simp only [Act.put, List.setIfInBounds_toArray, List.set_cons_zero, List.set_cons_succ])
      refine anyHT_any (i := 22) (oi := { dst := some 75, op := Go.Op.fieldAddr 51 (Go.Operand.tmp 74) 1, type := 0, pos := "law.go:33", after := #[{ on := 21, ground := Go.Ground.data }, { on := 0, ground := Go.Ground.phase }, { on := 1, ground := Go.Ground.phase }, { on := 2, ground := Go.Ground.phase }, { on := 3, ground := Go.Ground.phase }, { on := 4, ground := Go.Ground.phase }, { on := 5, ground := Go.Ground.phase }, { on := 6, ground := Go.Ground.phase }, { on := 7, ground := Go.Ground.phase }, { on := 8, ground := Go.Ground.phase }, { on := 9, ground := Go.Ground.phase }, { on := 10, ground := Go.Ground.phase }, { on := 11, ground := Go.Ground.phase }, { on := 12, ground := Go.Ground.phase }, { on := 13, ground := Go.Ground.phase }, { on := 14, ground := Go.Ground.phase }, { on := 15, ground := Go.Ground.phase }, { on := 16, ground := Go.Ground.phase }, { on := 17, ground := Go.Ground.phase }, { on := 18, ground := Go.Ground.phase }, { on := 19, ground := Go.Ground.phase }, { on := 20, ground := Go.Ground.phase }], guard := none }) (v := ?_) rfl (by kernel_rfl) (by kernel_rfl) (by kernel_rfl) (by kernel_rfl) (fun _ _ _ h => h) (Or.inl ⟨by rfl, ?_⟩) (by first | (intro _; assumption) | (refine early_no ?_; kernel_rfl)) ?_
      rotate_left 1
      · intro w' hSw; (go_simp <;> (with_reducible rfl))
      (try simp only [Act.put, List.setIfInBounds_toArray, List.set_cons_zero, List.set_cons_succ])
      refine anyHT_late (i := 23) (o := { dst := none, op := Go.Op.store 24 (Go.Operand.tmp 75) (Go.Operand.tmp 73), type := 0, pos := "law.go:33", after := #[{ on := 22, ground := Go.Ground.data }, { on := 20, ground := Go.Ground.data }, { on := 0, ground := Go.Ground.phase }, { on := 1, ground := Go.Ground.phase }, { on := 2, ground := Go.Ground.phase }, { on := 3, ground := Go.Ground.phase }, { on := 4, ground := Go.Ground.phase }, { on := 5, ground := Go.Ground.phase }, { on := 6, ground := Go.Ground.phase }, { on := 7, ground := Go.Ground.phase }, { on := 8, ground := Go.Ground.phase }, { on := 9, ground := Go.Ground.phase }, { on := 10, ground := Go.Ground.phase }, { on := 11, ground := Go.Ground.phase }, { on := 12, ground := Go.Ground.phase }, { on := 13, ground := Go.Ground.phase }, { on := 14, ground := Go.Ground.phase }, { on := 15, ground := Go.Ground.phase }, { on := 16, ground := Go.Ground.phase }, { on := 17, ground := Go.Ground.phase }, { on := 18, ground := Go.Ground.phase }, { on := 19, ground := Go.Ground.phase }, { on := 20, ground := Go.Ground.phase }], guard := none }) (by kernel_rfl) rfl (by kernel_rfl) (fun K hK => ?_)
      go_simp
      skip
      refine hK.out _ _ ?_
      clear hK K
      (try simp only [Act.put, List.setIfInBounds_toArray, List.set_cons_zero, List.set_cons_succ])
      refine anyHT_done (by kernel_rfl) ?_ _
      go_wp2_with fail
      go_roundg (gk - 1)
      case measure => have := hgk.out; omega
      case rel => exact ⟨j + 1, by have := hgk.out; show gk - 1 + (j + 1) = _; omega, by omega, by go_num, Lib.hid (by rw [HeA.out]; exact HF1.out)⟩
    · obtain rfl : j = k := by omega
      have eC := EC.out
      have eZ := EZ.out
      subst eC
      subst eZ
      have Hzero := Lib.hid hF.out.zero
      have Hblk := Lib.hid hF.out.blk
      go_upto_region 9 with (fail)
      repeat (first | (refine wp_load_row 35 (.tmp 1) rfl z _ _ _ _ Hblk.out rfl Try.underlying35 rfl (by kernel_rfl) ?_; simp only [Act.put, List.setIfInBounds_toArray, List.set_cons_zero, List.set_cons_succ]) | (refine wp_store_row 35 (.tmp 2) (.tmp 77) rfl (z + 1) _ rfl rfl 35 _ Hzero.out (by kernel_rfl) rfl (by simp [Value.oneCell']) ?_; simp only [Act.put, List.setIfInBounds_toArray, List.set_cons_zero, List.set_cons_succ]) | go_values | go_skip | go_guarded | go_step | go_upon | go_back)
      exact bodyPost_ret (results_cell_row rfl _ _ (z + 1) _ _ _ _ rfl (setRow_heap _ _ _ _ _ _ Hzero.out) Try.underlying35 rfl (by kernel_rfl)) rfl ⟨fewP p, ⟨a.AH, mH, a.cH, A2, j, c2, os'.map (·.cut 60), a.AD, mD, a.cD, a.AU, mU, a.cU, a.AM, mM, a.cM⟩, rfl, rfl, (few_reads HPw.out Hz.out EH.out ED.out EU.out EM.out hF.out Hlen.out Hos.out _).1, few_off Hz.out EH.out ED.out EU.out EM.out hF.out.own Heo.out, (few_reads HPw.out Hz.out EH.out ED.out EU.out EM.out hF.out Hlen.out Hos.out _).2⟩
end Go.Proofs.Ytkooehejdfaekaa
