/-
  The document's own Check (culvertref17).
-/
import Derived.Test.YtgcliijngaohdaaDoorCkRef
import Derived.Test.YtgcliijngaohdaaDoorWhole
namespace Go.Proofs.YtgcliijngaohdaaDoor
set_option maxRecDepth 10000
open Go.RowKit
set_option linter.unusedSimpArgs false
set_option linter.unusedVariables false

theorem set3C {w : World} {q : Nat} {u0 u1 u2 : Value} {t : TypeId} (h : w.heap[q]? = some (.cells #[u0, u1, u2] t (0, 0))) (v0 v1 v2 : Value) :
    (((w.setCell ⟨q, 0, none⟩ v0).setCell ⟨q, 1, none⟩ v1).setCell ⟨q, 2, none⟩ v2).heap[q]? = some (.cells #[v0, v1, v2] t (0, 0)) := by
  simp [World.setCell, Array.getElem?_modify, h]
theorem set3C_below {B : Nat} {w0 w : World} {q : Nat} (h : Below B w0 w) (hq : B ≤ q) (v0 v1 v2 : Value) : Below B w0 (((w.setCell ⟨q, 0, none⟩ v0).setCell ⟨q, 1, none⟩ v1).setCell ⟨q, 2, none⟩ v2) :=
  ((h.setCell hq v0).setCell hq v1).setCell hq v2
/-- What Check tells. -/
def chkC (b : Bool) (ck : Int) : Int := if b then dCls ck else 0
def chkK (b : Bool) (ck : Int) : Bool := b && dSck ck
def chkS (b : Bool) (ck : Int) : Int := if b then dScl ck else 0
def chkE (b : Bool) : Int := if b then 0 else 25
set_option maxHeartbeats 2000000 in
theorem rcheck17_any (key : Int) (t : Tu) (cl tick ck : Int) (b : Bool) (w : World) (hk : U64C key) (ht : TuNum t) (hc : 0 ≤ cl ∧ cl < 4294967296) (he : U64C tick) (hck : 0 ≤ ck ∧ ck < 4294967296) (hbb : isC key t cl tick ck = b) :
    Calls Tryd.prog 19 #[.int .u64 key, .agg #[.int .u8 t.pr, .int .u32 t.sr, .int .u32 t.ds, .int .u16 t.sp, .int .u16 t.dp], .int .u32 cl, .int .u64 tick, .int .u32 ck] w (TellsC (.tuple #[.agg #[.int .i64 (chkC b ck), .bool (chkK b ck), .int .i64 (chkS b ck)], .int .i64 (chkE b)]) w) := by
  obtain ⟨z, hz⟩ : ∃ z, w.heap.size = z := ⟨_, rfl⟩
  obtain ⟨w0, ew⟩ : ∃ v, (w.alloc (.cells #[.int .u8 t.pr, .int .u32 t.sr, .int .u32 t.ds, .int .u16 t.sp, .int .u16 t.dp] 26)).alloc (.cells #[.int .i64 0, .bool false, .int .i64 0] 42) = v := ⟨_, rfl⟩
  have hb0 : Below w.heap.size w w0 := by rw [← ew]; exact ((Below.refl _ _).alloc (Nat.le_refl _) _).alloc (by simp) _
  have hk0 : w0.heap[z]? = some (.cells #[.int .u8 t.pr, .int .u32 t.sr, .int .u32 t.ds, .int .u16 t.sp, .int .u16 t.dp] 26 (0, 0)) := by rw [← ew, Below.heap_alloc _ _ _ (by simp [hz]), ← hz]; exact heap_alloc_new w _
  have HT := Lib.hid hk0
  have HR := Lib.hid (show w0.heap[z + 1]? = some (.cells #[.int .i64 0, .bool false, .int .i64 0] 42 (0, 0)) by rw [← ew, ← hz]; simpa using heap_alloc_new (w.alloc (.cells #[.int .u8 t.pr, .int .u32 t.sr, .int .u32 t.ds, .int .u16 t.sp, .int .u16 t.dp] 26)) (.cells #[.int .i64 0, .bool false, .int .i64 0] 42))
  have Ew := Lib.hid ew
  have Hz := Lib.hid hz
  have HB := Lib.hid hb0
  have t0 : w0.cell? ⟨z, 0, none⟩ = some (.int .u8 t.pr) := by rw [blk_cell hk0]; rfl
  have t1 : w0.cell? ⟨z, 1, none⟩ = some (.int .u32 t.sr) := by rw [blk_cell hk0]; rfl
  have t2 : w0.cell? ⟨z, 2, none⟩ = some (.int .u32 t.ds) := by rw [blk_cell hk0]; rfl
  have t3 : w0.cell? ⟨z, 3, none⟩ = some (.int .u16 t.sp) := by rw [blk_cell hk0]; rfl
  have t4 : w0.cell? ⟨z, 4, none⟩ = some (.int .u16 t.dp) := by rw [blk_cell hk0]; rfl
  obtain ⟨ep, eep⟩ : ∃ x, tick / 64 = x := ⟨_, rfl⟩
  have tq : Int.tdiv tick 64 = ep := by rw [Int.tdiv_eq_ediv_of_nonneg he.1]; exact eep
  have hep : 0 ≤ ep ∧ ep < 18446744073709551616 := by unfold U64C at he; omega
  have tw : IntKind.u64.wrap ep = ep := by rw [IntKind.wrap_u64]; omega
  obtain ⟨h1, eh1⟩ : ∃ x, hashC key t cl ep = x := ⟨_, rfl⟩
  obtain ⟨h2, eh2⟩ : ∃ x, hashC key t cl (ep - 1) = x := ⟨_, rfl⟩
  have hb1 : 0 ≤ h1 ∧ h1 < 18446744073709551616 := by rw [← eh1]; exact hashC_bd _ _ _ _
  have hb2 : 0 ≤ h2 ∧ h2 < 18446744073709551616 := by rw [← eh2]; exact hashC_bd _ _ _ _
  have HH1 := Lib.hid (fun W => rhash17_any key t cl ep h1 W hk ht hc hep eh1)
  have HH2 := Lib.hid (fun (h0 : 0 < ep) W => rhash17_any key t cl (ep - 1) h2 W hk ht hc ⟨by omega, by omega⟩ eh2)
  obtain ⟨g1, eg1⟩ : ∃ x, h1 / 1099511627776 = x := ⟨_, rfl⟩
  obtain ⟨g2, eg2⟩ : ∃ x, h2 / 1099511627776 = x := ⟨_, rfl⟩
  have q1 : Int.tdiv h1 1099511627776 = g1 := by rw [Int.tdiv_eq_ediv_of_nonneg hb1.1]; exact eg1
  have q2 : Int.tdiv h2 1099511627776 = g2 := by rw [Int.tdiv_eq_ediv_of_nonneg hb2.1]; exact eg2
  have q3 : IntKind.u64.wrap g1 = g1 := by rw [IntKind.wrap_u64]; omega
  have q4 : IntKind.u64.wrap g2 = g2 := by rw [IntKind.wrap_u64]; omega
  have q5 : IntKind.u32.wrap g1 = g1 := by rw [IntKind.wrap_u32]; omega
  have q6 : IntKind.u32.wrap g2 = g2 := by rw [IntKind.wrap_u32]; omega
  obtain ⟨f, ef⟩ : ∃ x, ck / 256 = x := ⟨_, rfl⟩
  have q7 : Int.tdiv ck 256 = f := by rw [Int.tdiv_eq_ediv_of_nonneg hck.1]; exact ef
  have q8 : IntKind.u32.wrap f = f := by rw [IntKind.wrap_u32]; omega
  have Hbb := Lib.hid (show (decide (g1 = f) || (decide (0 < ep) && decide (g2 = f))) = b by
    rw [← hbb]
    unfold isC hiC
    rw [eep, eh1, eh2, eg1, eg2, ef])
  obtain ⟨n, en⟩ : ∃ x, ck % 256 = x := ⟨_, rfl⟩
  obtain ⟨a, ea⟩ : ∃ x, n / 32 = x := ⟨_, rfl⟩
  obtain ⟨d, ed⟩ : ∃ x, n / 16 = x := ⟨_, rfl⟩
  obtain ⟨d2, ed2⟩ : ∃ x, d % 2 = x := ⟨_, rfl⟩
  obtain ⟨s0, es0⟩ : ∃ x, n % 16 = x := ⟨_, rfl⟩
  have Hn := Lib.hid (show ck % 256 = n ∧ n / 32 = a ∧ n / 16 = d ∧ d % 2 = d2 ∧ n % 16 = s0 from ⟨en, ea, ed, ed2, es0⟩)
  have r1 : Int.tmod ck 256 = n := by rw [Int.tmod_eq_emod_of_nonneg hck.1]; exact en
  have r2 : IntKind.u32.wrap n = n := by rw [IntKind.wrap_u32]; omega
  have r3 : Int.tdiv n 32 = a := by rw [Int.tdiv_eq_ediv_of_nonneg (by omega)]; exact ea
  have r4 : IntKind.u32.wrap a = a := by rw [IntKind.wrap_u32]; omega
  have r5 : wrap64 a = a := IntWalk.wrap64_in _ (by omega)
  have r6 : Int.tdiv n 16 = d := by rw [Int.tdiv_eq_ediv_of_nonneg (by omega)]; exact ed
  have r7 : IntKind.u32.wrap d = d := by rw [IntKind.wrap_u32]; omega
  have r8 : Int.tmod d 2 = d2 := by rw [Int.tmod_eq_emod_of_nonneg (by omega)]; exact ed2
  have r9 : IntKind.u32.wrap d2 = d2 := by rw [IntKind.wrap_u32]; omega
  have r10 : Int.tmod n 16 = s0 := by rw [Int.tmod_eq_emod_of_nonneg (by omega)]; exact es0
  have r11 : IntKind.u32.wrap s0 = s0 := by rw [IntKind.wrap_u32]; omega
  have r12 : wrap64 s0 = s0 := IntWalk.wrap64_in _ (by omega)
  have r13 : IntKind.u64.wrap (ep - 1) = (ep - 1) % 18446744073709551616 := IntKind.wrap_u64 _
  have Hep := Lib.hid hep
  clear hbb hck hk ht hc he hb1 hb2 eg1 eg2 eh1 eh2 eep ef en ea ed ed2 es0 ew hz hb0 hk0 hep
  go_enter Tryd.func19, Tryd.ntmps19
  go_upto_region 1 with (fail)
  rw [Ew.out]
  try rw [Hz.out]
  go_wp2_with fail
  refine (HH1.out _).mono ?_
  rintro e1 w1 ⟨rfl, hb1⟩
  have Hb1 := Lib.hid hb1
  have k0 : w1.cell? ⟨z, 0, none⟩ = some (.int .u8 t.pr) := by rw [blk_cell (blk_on HT.out hb1)]; rfl
  have k1 : w1.cell? ⟨z, 1, none⟩ = some (.int .u32 t.sr) := by rw [blk_cell (blk_on HT.out hb1)]; rfl
  have k2 : w1.cell? ⟨z, 2, none⟩ = some (.int .u32 t.ds) := by rw [blk_cell (blk_on HT.out hb1)]; rfl
  have k3 : w1.cell? ⟨z, 3, none⟩ = some (.int .u16 t.sp) := by rw [blk_cell (blk_on HT.out hb1)]; rfl
  have k4 : w1.cell? ⟨z, 4, none⟩ = some (.int .u16 t.dp) := by rw [blk_cell (blk_on HT.out hb1)]; rfl
  clear hb1 t0 t1 t2 t3 t4
  by_cases hp : 0 < ep
  · by_cases hg : g1 = f
    · have hg1 : (g1 == f) = true := by simpa using hg
      have H1 := Lib.hid hg
      clear hg
      have hbt : b = true := by rw [← Hbb.out]; simp [H1.out, H1.out]
      subst hbt
      have HR1 := Lib.hid (blk_on HR.out Hb1.out)
      go_upto_region 9 with (fail)
      obtain ⟨z5, ez5⟩ : ∃ z, w1.heap.size = z := ⟨_, rfl⟩
      obtain ⟨w5, ew5⟩ : ∃ v, w1.alloc (.cells #[.int .i64 a, .bool (d2 == 1), .int .i64 s0] 42) = v := ⟨_, rfl⟩
      have hb5 : Below w1.heap.size w1 w5 := by rw [← ew5]; exact (Below.refl _ _).alloc (Nat.le_refl _) _
      have HK5 := Lib.hid (show w5.heap[z5]? = some (.cells #[.int .i64 a, .bool (d2 == 1), .int .i64 s0] 42 (0, 0)) by rw [← ew5, ← ez5]; exact heap_alloc_new w1 _)
      have HR5 := Lib.hid (blk_on HR1.out hb5)
      have Hne := Lib.hid (show z + 1 < z5 by have := lt_of_block HR1.out; omega)
      have Ht := Lib.hid (below_trans (below_trans HB.out Hb1.out) hb5)
      rw [ew5]
      try rw [ez5]
      clear ew5 ez5 hb5
      have u0 : w5.cell? ⟨z + 1, 0, none⟩ = some (.int .i64 0) := by rw [blk_cell HR5.out]; rfl
      have u1 : w5.cell? ⟨z + 1, 1, none⟩ = some (.bool false) := by rw [blk_cell HR5.out]; rfl
      have u2 : w5.cell? ⟨z + 1, 2, none⟩ = some (.int .i64 0) := by rw [blk_cell HR5.out]; rfl
      have v0 : w5.cell? ⟨z5, 0, none⟩ = some (.int .i64 a) := by rw [blk_cell HK5.out]; rfl
      have v1 : w5.cell? ⟨z5, 1, none⟩ = some (.bool (d2 == 1)) := by rw [blk_cell HK5.out]; rfl
      have v2 : w5.cell? ⟨z5, 2, none⟩ = some (.int .i64 s0) := by rw [blk_cell HK5.out]; rfl
      have fz := fun i => blk_free HR5.out i
      have fy := fun i => blk_free HK5.out i
      have hne : ¬ z + 1 = z5 := by have := Hne.out; omega
      have hne2 : ¬ z5 = z + 1 := by have := Hne.out; omega
      by_cases hs : s0 = 15
      · have hs2 : (s0 == 15) = true := by simpa using hs
        have HX := Lib.hid (show chkC true ck = a ∧ chkK true ck = (d2 == 1) ∧ chkS true ck = -1 by
          have := Hn.out
          refine ⟨by unfold chkC dCls; rw [if_pos rfl]; omega, ?_, by unfold chkS dScl; rw [if_pos rfl, if_pos (by omega)]⟩
          unfold chkK dSck
          rw [Bool.true_and, Bool.eq_iff_iff]
          simp
          omega)
        have HR6 := Lib.hid (((But.refl (fun g => g = z5) w5).setCell (p := ⟨z5, 2, none⟩) rfl (.int .i64 (-1))).blk HR5.out (fun e => by have := Hne.out; omega))
        have Ht6 := Lib.hid (Ht.out.setCell (p := ⟨z5, 2, none⟩) (by have := Hne.out; have := Hz.out; simp only; omega) (.int .i64 (-1)))
        clear hs
        go_wp2_with fail
        exact bodyPost_ret (v := .tuple #[.agg #[.int .i64 a, .bool (d2 == 1), .int .i64 (-1)], .int .i64 0]) (results_row_tmp rfl _ _ (z + 1) _ _ _ _ _ rfl rfl (set3C HR6.out _ _ _) Tryd.underlying42 rfl (by kernel_rfl)) rfl ⟨by rw [HX.out.1, HX.out.2.1, HX.out.2.2]; rfl, set3C_below Ht6.out (by have := Hz.out; omega) _ _ _⟩
      · have hs2 : (s0 == 15) = false := by simpa using hs
        have HX := Lib.hid (show chkC true ck = a ∧ chkK true ck = (d2 == 1) ∧ chkS true ck = s0 by
          have := Hn.out
          refine ⟨by unfold chkC dCls; rw [if_pos rfl]; omega, ?_, by unfold chkS dScl; rw [if_pos rfl, if_neg (by omega)]; omega⟩
          unfold chkK dSck
          rw [Bool.true_and, Bool.eq_iff_iff]
          simp
          omega)
        clear hs
        go_wp2_with fail
        exact bodyPost_ret (v := .tuple #[.agg #[.int .i64 a, .bool (d2 == 1), .int .i64 s0], .int .i64 0]) (results_row_tmp rfl _ _ (z + 1) _ _ _ _ _ rfl rfl (set3C HR5.out _ _ _) Tryd.underlying42 rfl (by kernel_rfl)) rfl ⟨by rw [HX.out.1, HX.out.2.1, HX.out.2.2]; rfl, set3C_below Ht.out (by have := Hz.out; omega) _ _ _⟩
    · have hg1 : (g1 == f) = false := by simpa using hg
      have H1 := Lib.hid hg
      have he1 : IntKind.u64.wrap (ep - 1) = ep - 1 := by rw [IntKind.wrap_u64]; have := Hep.out; omega
      have Hp := Lib.hid hp
      clear hg r13
      go_wp2_with fail
      refine (HH2.out Hp.out _).mono ?_
      rintro e1 w2 ⟨rfl, hb2⟩
      have Hb2 := Lib.hid (below_trans Hb1.out hb2)
      clear hb2 k0 k1 k2 k3 k4 he1
      by_cases hg2 : g2 = f
      · have hg3 : (g2 == f) = true := by simpa using hg2
        have H2 := Lib.hid hg2
        clear hg2
        have hbt : b = true := by rw [← Hbb.out]; simp [H1.out, H2.out, Hp.out]
        subst hbt
        have HR1 := Lib.hid (blk_on HR.out Hb2.out)
        go_upto_region 9 with (fail)
        obtain ⟨z5, ez5⟩ : ∃ z, w2.heap.size = z := ⟨_, rfl⟩
        obtain ⟨w5, ew5⟩ : ∃ v, w2.alloc (.cells #[.int .i64 a, .bool (d2 == 1), .int .i64 s0] 42) = v := ⟨_, rfl⟩
        have hb5 : Below w2.heap.size w2 w5 := by rw [← ew5]; exact (Below.refl _ _).alloc (Nat.le_refl _) _
        have HK5 := Lib.hid (show w5.heap[z5]? = some (.cells #[.int .i64 a, .bool (d2 == 1), .int .i64 s0] 42 (0, 0)) by rw [← ew5, ← ez5]; exact heap_alloc_new w2 _)
        have HR5 := Lib.hid (blk_on HR1.out hb5)
        have Hne := Lib.hid (show z + 1 < z5 by have := lt_of_block HR1.out; omega)
        have Ht := Lib.hid (below_trans (below_trans HB.out Hb2.out) hb5)
        rw [ew5]
        try rw [ez5]
        clear ew5 ez5 hb5
        have u0 : w5.cell? ⟨z + 1, 0, none⟩ = some (.int .i64 0) := by rw [blk_cell HR5.out]; rfl
        have u1 : w5.cell? ⟨z + 1, 1, none⟩ = some (.bool false) := by rw [blk_cell HR5.out]; rfl
        have u2 : w5.cell? ⟨z + 1, 2, none⟩ = some (.int .i64 0) := by rw [blk_cell HR5.out]; rfl
        have v0 : w5.cell? ⟨z5, 0, none⟩ = some (.int .i64 a) := by rw [blk_cell HK5.out]; rfl
        have v1 : w5.cell? ⟨z5, 1, none⟩ = some (.bool (d2 == 1)) := by rw [blk_cell HK5.out]; rfl
        have v2 : w5.cell? ⟨z5, 2, none⟩ = some (.int .i64 s0) := by rw [blk_cell HK5.out]; rfl
        have fz := fun i => blk_free HR5.out i
        have fy := fun i => blk_free HK5.out i
        have hne : ¬ z + 1 = z5 := by have := Hne.out; omega
        have hne2 : ¬ z5 = z + 1 := by have := Hne.out; omega
        by_cases hs : s0 = 15
        · have hs2 : (s0 == 15) = true := by simpa using hs
          have HX := Lib.hid (show chkC true ck = a ∧ chkK true ck = (d2 == 1) ∧ chkS true ck = -1 by
            have := Hn.out
            refine ⟨by unfold chkC dCls; rw [if_pos rfl]; omega, ?_, by unfold chkS dScl; rw [if_pos rfl, if_pos (by omega)]⟩
            unfold chkK dSck
            rw [Bool.true_and, Bool.eq_iff_iff]
            simp
            omega)
          have HR6 := Lib.hid (((But.refl (fun g => g = z5) w5).setCell (p := ⟨z5, 2, none⟩) rfl (.int .i64 (-1))).blk HR5.out (fun e => by have := Hne.out; omega))
          have Ht6 := Lib.hid (Ht.out.setCell (p := ⟨z5, 2, none⟩) (by have := Hne.out; have := Hz.out; simp only; omega) (.int .i64 (-1)))
          clear hs
          go_wp2_with fail
          exact bodyPost_ret (v := .tuple #[.agg #[.int .i64 a, .bool (d2 == 1), .int .i64 (-1)], .int .i64 0]) (results_row_tmp rfl _ _ (z + 1) _ _ _ _ _ rfl rfl (set3C HR6.out _ _ _) Tryd.underlying42 rfl (by kernel_rfl)) rfl ⟨by rw [HX.out.1, HX.out.2.1, HX.out.2.2]; rfl, set3C_below Ht6.out (by have := Hz.out; omega) _ _ _⟩
        · have hs2 : (s0 == 15) = false := by simpa using hs
          have HX := Lib.hid (show chkC true ck = a ∧ chkK true ck = (d2 == 1) ∧ chkS true ck = s0 by
            have := Hn.out
            refine ⟨by unfold chkC dCls; rw [if_pos rfl]; omega, ?_, by unfold chkS dScl; rw [if_pos rfl, if_neg (by omega)]; omega⟩
            unfold chkK dSck
            rw [Bool.true_and, Bool.eq_iff_iff]
            simp
            omega)
          clear hs
          go_wp2_with fail
          exact bodyPost_ret (v := .tuple #[.agg #[.int .i64 a, .bool (d2 == 1), .int .i64 s0], .int .i64 0]) (results_row_tmp rfl _ _ (z + 1) _ _ _ _ _ rfl rfl (set3C HR5.out _ _ _) Tryd.underlying42 rfl (by kernel_rfl)) rfl ⟨by rw [HX.out.1, HX.out.2.1, HX.out.2.2]; rfl, set3C_below Ht.out (by have := Hz.out; omega) _ _ _⟩
      · have hg3 : (g2 == f) = false := by simpa using hg2
        have H2 := Lib.hid hg2
        clear hg2
        have hbf : b = false := by rw [← Hbb.out]; simp [H1.out, H2.out]
        subst hbf
        have HR1 := Lib.hid (blk_on HR.out Hb2.out)
        have u0 : w2.cell? ⟨z + 1, 0, none⟩ = some (.int .i64 0) := by rw [blk_cell HR1.out]; rfl
        have u1 : w2.cell? ⟨z + 1, 1, none⟩ = some (.bool false) := by rw [blk_cell HR1.out]; rfl
        have u2 : w2.cell? ⟨z + 1, 2, none⟩ = some (.int .i64 0) := by rw [blk_cell HR1.out]; rfl
        have fz := fun i => blk_free HR1.out i
        go_wp2_with fail
        exact bodyPost_ret (v := .tuple #[.agg #[.int .i64 0, .bool false, .int .i64 0], .int .i64 25]) (results_row_tmp rfl _ _ (z + 1) _ _ _ _ _ rfl rfl (set3C HR1.out _ _ _) Tryd.underlying42 rfl (by kernel_rfl)) rfl ⟨rfl, set3C_below (below_trans HB.out Hb2.out) (by have := Hz.out; omega) _ _ _⟩
  · by_cases hg : g1 = f
    · have hg1 : (g1 == f) = true := by simpa using hg
      have H1 := Lib.hid hg
      clear hg
      have hbt : b = true := by rw [← Hbb.out]; simp [H1.out, H1.out]
      subst hbt
      have HR1 := Lib.hid (blk_on HR.out Hb1.out)
      go_upto_region 9 with (fail)
      obtain ⟨z5, ez5⟩ : ∃ z, w1.heap.size = z := ⟨_, rfl⟩
      obtain ⟨w5, ew5⟩ : ∃ v, w1.alloc (.cells #[.int .i64 a, .bool (d2 == 1), .int .i64 s0] 42) = v := ⟨_, rfl⟩
      have hb5 : Below w1.heap.size w1 w5 := by rw [← ew5]; exact (Below.refl _ _).alloc (Nat.le_refl _) _
      have HK5 := Lib.hid (show w5.heap[z5]? = some (.cells #[.int .i64 a, .bool (d2 == 1), .int .i64 s0] 42 (0, 0)) by rw [← ew5, ← ez5]; exact heap_alloc_new w1 _)
      have HR5 := Lib.hid (blk_on HR1.out hb5)
      have Hne := Lib.hid (show z + 1 < z5 by have := lt_of_block HR1.out; omega)
      have Ht := Lib.hid (below_trans (below_trans HB.out Hb1.out) hb5)
      rw [ew5]
      try rw [ez5]
      clear ew5 ez5 hb5
      have u0 : w5.cell? ⟨z + 1, 0, none⟩ = some (.int .i64 0) := by rw [blk_cell HR5.out]; rfl
      have u1 : w5.cell? ⟨z + 1, 1, none⟩ = some (.bool false) := by rw [blk_cell HR5.out]; rfl
      have u2 : w5.cell? ⟨z + 1, 2, none⟩ = some (.int .i64 0) := by rw [blk_cell HR5.out]; rfl
      have v0 : w5.cell? ⟨z5, 0, none⟩ = some (.int .i64 a) := by rw [blk_cell HK5.out]; rfl
      have v1 : w5.cell? ⟨z5, 1, none⟩ = some (.bool (d2 == 1)) := by rw [blk_cell HK5.out]; rfl
      have v2 : w5.cell? ⟨z5, 2, none⟩ = some (.int .i64 s0) := by rw [blk_cell HK5.out]; rfl
      have fz := fun i => blk_free HR5.out i
      have fy := fun i => blk_free HK5.out i
      have hne : ¬ z + 1 = z5 := by have := Hne.out; omega
      have hne2 : ¬ z5 = z + 1 := by have := Hne.out; omega
      by_cases hs : s0 = 15
      · have hs2 : (s0 == 15) = true := by simpa using hs
        have HX := Lib.hid (show chkC true ck = a ∧ chkK true ck = (d2 == 1) ∧ chkS true ck = -1 by
          have := Hn.out
          refine ⟨by unfold chkC dCls; rw [if_pos rfl]; omega, ?_, by unfold chkS dScl; rw [if_pos rfl, if_pos (by omega)]⟩
          unfold chkK dSck
          rw [Bool.true_and, Bool.eq_iff_iff]
          simp
          omega)
        have HR6 := Lib.hid (((But.refl (fun g => g = z5) w5).setCell (p := ⟨z5, 2, none⟩) rfl (.int .i64 (-1))).blk HR5.out (fun e => by have := Hne.out; omega))
        have Ht6 := Lib.hid (Ht.out.setCell (p := ⟨z5, 2, none⟩) (by have := Hne.out; have := Hz.out; simp only; omega) (.int .i64 (-1)))
        clear hs
        go_wp2_with fail
        exact bodyPost_ret (v := .tuple #[.agg #[.int .i64 a, .bool (d2 == 1), .int .i64 (-1)], .int .i64 0]) (results_row_tmp rfl _ _ (z + 1) _ _ _ _ _ rfl rfl (set3C HR6.out _ _ _) Tryd.underlying42 rfl (by kernel_rfl)) rfl ⟨by rw [HX.out.1, HX.out.2.1, HX.out.2.2]; rfl, set3C_below Ht6.out (by have := Hz.out; omega) _ _ _⟩
      · have hs2 : (s0 == 15) = false := by simpa using hs
        have HX := Lib.hid (show chkC true ck = a ∧ chkK true ck = (d2 == 1) ∧ chkS true ck = s0 by
          have := Hn.out
          refine ⟨by unfold chkC dCls; rw [if_pos rfl]; omega, ?_, by unfold chkS dScl; rw [if_pos rfl, if_neg (by omega)]; omega⟩
          unfold chkK dSck
          rw [Bool.true_and, Bool.eq_iff_iff]
          simp
          omega)
        clear hs
        go_wp2_with fail
        exact bodyPost_ret (v := .tuple #[.agg #[.int .i64 a, .bool (d2 == 1), .int .i64 s0], .int .i64 0]) (results_row_tmp rfl _ _ (z + 1) _ _ _ _ _ rfl rfl (set3C HR5.out _ _ _) Tryd.underlying42 rfl (by kernel_rfl)) rfl ⟨by rw [HX.out.1, HX.out.2.1, HX.out.2.2]; rfl, set3C_below Ht.out (by have := Hz.out; omega) _ _ _⟩
    · have hg1 : (g1 == f) = false := by simpa using hg
      have H1 := Lib.hid hg
      have H2 := Lib.hid hp
      clear hg
      have hbf : b = false := by rw [← Hbb.out]; simp [H1.out, H2.out]
      subst hbf
      have HR1 := Lib.hid (blk_on HR.out Hb1.out)
      have u0 : w1.cell? ⟨z + 1, 0, none⟩ = some (.int .i64 0) := by rw [blk_cell HR1.out]; rfl
      have u1 : w1.cell? ⟨z + 1, 1, none⟩ = some (.bool false) := by rw [blk_cell HR1.out]; rfl
      have u2 : w1.cell? ⟨z + 1, 2, none⟩ = some (.int .i64 0) := by rw [blk_cell HR1.out]; rfl
      have fz := fun i => blk_free HR1.out i
      go_wp2_with fail
      exact bodyPost_ret (v := .tuple #[.agg #[.int .i64 0, .bool false, .int .i64 0], .int .i64 25]) (results_row_tmp rfl _ _ (z + 1) _ _ _ _ _ rfl rfl (set3C HR1.out _ _ _) Tryd.underlying42 rfl (by kernel_rfl)) rfl ⟨rfl, set3C_below (below_trans HB.out Hb1.out) (by have := Hz.out; omega) _ _ _⟩
end Go.Proofs.YtgcliijngaohdaaDoor
