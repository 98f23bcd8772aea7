/-
  The program's Inside and may (package forward).
-/
import Derived.Test.YtknmpfdmjfbpdaaFwIn
import Derived.Deep.DeepCutAuto
namespace Go.Proofs.Ytknmpfdmjfbpdaa
set_option maxRecDepth 10000
open Go.RowKit
set_option linter.unusedSimpArgs false
set_option linter.unusedVariables false

theorem inside_any (k : Cfg) (a : Int) (x : Bool) (w : World) (hx : insB k a = x) : Calls Try.prog 11 #[.agg #[.int .u32 k.ins, .int .u32 k.msk, k.v2, .int .u16 k.lo, .int .u16 k.hi, k.v5, k.v6, k.v7, k.v8, k.v9, k.va, k.vb, k.vc, k.vd, k.ve, k.vf, k.vg, k.vh, k.vi], .int .u32 a] w (FwTells (.bool x) w) := by
  obtain ⟨w0, ew⟩ : ∃ w0, w.alloc (.cells #[.int .u32 k.ins, .int .u32 k.msk, k.v2, .int .u16 k.lo, .int .u16 k.hi, k.v5, k.v6, k.v7, k.v8, k.v9, k.va, k.vb, k.vc, k.vd, k.ve, k.vf, k.vg, k.vh, k.vi] 29) = w0 := ⟨_, rfl⟩
  obtain ⟨z, hz⟩ : ∃ z, w.heap.size = z := ⟨_, rfl⟩
  have hb0 : Below w.heap.size w w0 := by rw [← ew]; exact (Below.refl _ _).alloc (Nat.le_refl _) _
  have hk0 : w0.heap[z]? = some (.cells #[.int .u32 k.ins, .int .u32 k.msk, k.v2, .int .u16 k.lo, .int .u16 k.hi, k.v5, k.v6, k.v7, k.v8, k.v9, k.va, k.vb, k.vc, k.vd, k.ve, k.vf, k.vg, k.vh, k.vi] 29 (0, 0)) := by rw [← ew, ← hz]; exact heap_alloc_new w _
  have d0 : w0.cell? ⟨z, 0, none⟩ = some (.int .u32 k.ins) := blk_cell hk0 0
  have d1 : w0.cell? ⟨z, 1, none⟩ = some (.int .u32 k.msk) := blk_cell hk0 1
  have Hx := Lib.hid hx
  have Hb0 := Lib.hid hb0
  clear hx hk0 hb0
  go_enter Try.func11, Try.ntmps11
  go_upto_region 1 with (fail)
  try rw [ew]
  try rw [hz]
  clear ew hz
  go_wp2_with fail
  go_ret
  exact ⟨by rw [← Hx.out]; rfl, Hb0.out⟩
set_option maxHeartbeats 1000000 in
theorem may1_any (k : Cfg) (f : Fw) (x : Bool) (w : World) (hx : mayOne k f = x) : Calls Try.prog 27 #[.agg #[.int .u32 k.ins, .int .u32 k.msk, k.v2, .int .u16 k.lo, .int .u16 k.hi, k.v5, k.v6, k.v7, k.v8, k.v9, k.va, k.vb, k.vc, k.vd, k.ve, k.vf, k.vg, k.vh, k.vi], .agg #[.int .u8 f.pr, .int .u16 f.po, .int .u32 f.ad, .int .u16 f.tp]] w (FwTells (.bool x) w) := by
  obtain ⟨w0, ew⟩ : ∃ w0, (w.alloc (.cells #[.int .u32 k.ins, .int .u32 k.msk, k.v2, .int .u16 k.lo, .int .u16 k.hi, k.v5, k.v6, k.v7, k.v8, k.v9, k.va, k.vb, k.vc, k.vd, k.ve, k.vf, k.vg, k.vh, k.vi] 29)).alloc (.cells #[.int .u8 f.pr, .int .u16 f.po, .int .u32 f.ad, .int .u16 f.tp] 40) = w0 := ⟨_, rfl⟩
  obtain ⟨z, hz⟩ : ∃ z, w.heap.size = z := ⟨_, rfl⟩
  have hb0 : Below w.heap.size w w0 := by rw [← ew]; exact ((Below.refl _ _).alloc (Nat.le_refl _) _).alloc (by simp) _
  have hk0 : w0.heap[z]? = some (.cells #[.int .u32 k.ins, .int .u32 k.msk, k.v2, .int .u16 k.lo, .int .u16 k.hi, k.v5, k.v6, k.v7, k.v8, k.v9, k.va, k.vb, k.vc, k.vd, k.ve, k.vf, k.vg, k.vh, k.vi] 29 (0, 0)) := by rw [← ew, Below.heap_alloc _ _ _ (by simp [hz]), ← hz]; exact heap_alloc_new w _
  have hk1 : w0.heap[z + 1]? = some (.cells #[.int .u8 f.pr, .int .u16 f.po, .int .u32 f.ad, .int .u16 f.tp] 40 (0, 0)) := by
    rw [← ew, ← hz]; simpa using heap_alloc_new (w.alloc (.cells #[.int .u32 k.ins, .int .u32 k.msk, k.v2, .int .u16 k.lo, .int .u16 k.hi, k.v5, k.v6, k.v7, k.v8, k.v9, k.va, k.vb, k.vc, k.vd, k.ve, k.vf, k.vg, k.vh, k.vi] 29)) (.cells #[.int .u8 f.pr, .int .u16 f.po, .int .u32 f.ad, .int .u16 f.tp] 40)
  have c3 : w0.cell? ⟨z, 3, none⟩ = some (.int .u16 k.lo) := blk_cell hk0 3
  have c4 : w0.cell? ⟨z, 4, none⟩ = some (.int .u16 k.hi) := blk_cell hk0 4
  have d0 : w0.cell? ⟨z + 1, 0, none⟩ = some (.int .u8 f.pr) := blk_cell hk1 0
  have d1 : w0.cell? ⟨z + 1, 1, none⟩ = some (.int .u16 f.po) := blk_cell hk1 1
  have d2 : w0.cell? ⟨z + 1, 2, none⟩ = some (.int .u32 f.ad) := blk_cell hk1 2
  have d3 : w0.cell? ⟨z + 1, 3, none⟩ = some (.int .u16 f.tp) := blk_cell hk1 3
  have Hk0 := Lib.hid hk0
  have Hk1 := Lib.hid hk1
  have Hb0 := Lib.hid hb0
  have Ew := Lib.hid ew
  have Hz := Lib.hid hz
  have HI := Lib.hid (fun x (hx : insB k f.ad = x) => inside_any k f.ad x w0 hx)
  clear hk0 hk1 hb0 ew hz
  obtain ⟨kn, ekn⟩ : ∃ kn, (f.pr == 6 || f.pr == 17) = kn := ⟨_, rfl⟩
  obtain ⟨po, epo⟩ : ∃ po, (f.po == 0) = po := ⟨_, rfl⟩
  obtain ⟨pl, epl⟩ : ∃ pl, (decide (k.lo ≤ f.po) && decide (f.po ≤ k.hi)) = pl := ⟨_, rfl⟩
  obtain ⟨iv, ei⟩ : ∃ iv, insB k f.ad = iv := ⟨_, rfl⟩
  obtain ⟨tp, etp⟩ : ∃ tp, (f.tp == 0) = tp := ⟨_, rfl⟩
  have hx2 : x = (kn && (!po && (!tp && (!pl && iv)))) := by rw [← hx]; unfold mayOne; rw [ekn, epo, epl, ei, etp]
  subst hx2
  have Ekn := Lib.hid ekn
  have Epl := Lib.hid epl
  have Ei := Lib.hid ei
  clear hx ekn epl ei
  go_enter Try.func27, Try.ntmps27
  go_upto_region 1 with (fail)
  rw [Ew.out]
  try rw [Hz.out]
  go_cut [5] (fun v wx => v = .bool kn ∧ w0 = wx)
  case first =>
    have e := Ekn.out
    by_cases h6 : f.pr = 6
    · have b6 : (f.pr == 6) = true := by simpa using h6
      rw [b6] at e
      simp at e
      subst e
      clear h6
      go_wp2_with fail
      go_meet
      exact ⟨rfl, rfl⟩
    · have b6 : (f.pr == 6) = false := by simpa using h6
      rw [b6] at e
      simp at e
      by_cases h7 : f.pr = 17
      · have b7 : (f.pr == 17) = true := by simpa using h7
        rw [b7] at e
        subst e
        clear h6 h7
        go_wp2_with fail
        go_meet
        exact ⟨rfl, rfl⟩
      · have b7 : (f.pr == 17) = false := by simpa using h7
        rw [b7] at e
        subst e
        clear h6 h7
        go_wp2_with fail
        go_meet
        exact ⟨rfl, rfl⟩
  case rest =>
    obtain ⟨rfl, rfl⟩ := hcut
    go_upto_region 2 with (fail)
    go_cut [6] (fun v wx => v = .bool pl ∧ w0 = wx)
    case first =>
      have e := Epl.out
      by_cases h6 : k.lo ≤ f.po
      · have b6 : decide (k.lo ≤ f.po) = true := decide_eq_true h6
        rw [b6, Bool.true_and] at e
        clear h6
        go_wp2_with fail
        go_meet
        exact ⟨by rw [← e], rfl⟩
      · have b6 : decide (k.lo ≤ f.po) = false := decide_eq_false h6
        rw [b6, Bool.false_and] at e
        subst e
        clear h6
        go_wp2_with fail
        go_meet
        exact ⟨rfl, rfl⟩
    case rest =>
      obtain ⟨rfl, rfl⟩ := hcut
      go_upto_region 3 with (fail)
      have HI2 := Lib.hid (HI.out iv Ei.out)
      clear HI
      cases kn with
      | false =>
        go_wp2_with fail
        go_ret
        exact ⟨by simp, Hb0.out⟩
      | true =>
        by_cases hp : f.po = 0
        · have b1 : (f.po == 0) = true := by simpa using hp
          have b2 : (f.po != 0) = false := by simp [hp]
          obtain rfl : po = true := by rw [← epo, b1]
          clear hp epo
          go_wp2_with fail
          go_ret
          exact ⟨by simp, Hb0.out⟩
        · have b1 : (f.po == 0) = false := by simpa using hp
          have b2 : (f.po != 0) = true := by simp [hp]
          obtain rfl : po = false := by rw [← epo, b1]
          clear hp epo
          cases pl with
          | true =>
            go_wp2_with fail
            go_ret
            exact ⟨by simp, Hb0.out⟩
          | false =>
            cases iv with
            | false =>
              try simp only []
              repeat (first | go_values | go_skip | ((fail_if_success (with_reducible refine wpList_row 29 (.tmp 2) rfl ?_ ?_ ?_ ?_ ?_ ?_ ?_ ?_ ?_ ?_ ?_ ?_)); (first | go_step | go_upon | go_back)))
              refine wpList_row 29 (.tmp 2) rfl ?hww z _ _ _ _ Hk0.out rfl Try.underlying29 rfl (by kernel_rfl) ?_
              case hww => kernel_rfl
              (try simp only [Act.put, List.setIfInBounds_toArray, List.set_cons_zero, List.set_cons_succ])
              go_wp2_with fail
              refine HI2.out.mono ?_
              rintro e w1 ⟨rfl, hb1⟩
              have Hb1 := Lib.hid (below_trans Hb0.out hb1)
              have d3' : w1.cell? ⟨z + 1, 3, none⟩ = some (.int .u16 f.tp) := blk_cell (blk_on Hk1.out hb1) 3
              clear hb1 d0 d1 d2 d3
              go_wp2_with fail
              go_ret
              exact ⟨by simp, Hb1.out⟩
            | true =>
              by_cases hp : f.tp = 0
              · have b1 : (f.tp == 0) = true := by simpa using hp
                have b2 : (f.tp != 0) = false := by simp [hp]
                obtain rfl : tp = true := by rw [← etp, b1]
                clear hp etp
                try simp only []
                repeat (first | go_values | go_skip | ((fail_if_success (with_reducible refine wpList_row 29 (.tmp 2) rfl ?_ ?_ ?_ ?_ ?_ ?_ ?_ ?_ ?_ ?_ ?_ ?_)); (first | go_step | go_upon | go_back)))
                refine wpList_row 29 (.tmp 2) rfl ?hww z _ _ _ _ Hk0.out rfl Try.underlying29 rfl (by kernel_rfl) ?_
                case hww => kernel_rfl
                (try simp only [Act.put, List.setIfInBounds_toArray, List.set_cons_zero, List.set_cons_succ])
                go_wp2_with fail
                refine HI2.out.mono ?_
                rintro e w1 ⟨rfl, hb1⟩
                have Hb1 := Lib.hid (below_trans Hb0.out hb1)
                have d3' : w1.cell? ⟨z + 1, 3, none⟩ = some (.int .u16 f.tp) := blk_cell (blk_on Hk1.out hb1) 3
                clear hb1 d0 d1 d2 d3
                go_wp2_with fail
                go_ret
                exact ⟨by simp, Hb1.out⟩
              · have b1 : (f.tp == 0) = false := by simpa using hp
                have b2 : (f.tp != 0) = true := by simp [hp]
                obtain rfl : tp = false := by rw [← etp, b1]
                clear hp etp
                try simp only []
                repeat (first | go_values | go_skip | ((fail_if_success (with_reducible refine wpList_row 29 (.tmp 2) rfl ?_ ?_ ?_ ?_ ?_ ?_ ?_ ?_ ?_ ?_ ?_ ?_)); (first | go_step | go_upon | go_back)))
                refine wpList_row 29 (.tmp 2) rfl ?hww z _ _ _ _ Hk0.out rfl Try.underlying29 rfl (by kernel_rfl) ?_
                case hww => kernel_rfl
                (try simp only [Act.put, List.setIfInBounds_toArray, List.set_cons_zero, List.set_cons_succ])
                go_wp2_with fail
                refine HI2.out.mono ?_
                rintro e w1 ⟨rfl, hb1⟩
                have Hb1 := Lib.hid (below_trans Hb0.out hb1)
                have d3' : w1.cell? ⟨z + 1, 3, none⟩ = some (.int .u16 f.tp) := blk_cell (blk_on Hk1.out hb1) 3
                clear hb1 d0 d1 d2 d3
                go_wp2_with fail
                go_ret
                exact ⟨by simp, Hb1.out⟩
end Go.Proofs.Ytknmpfdmjfbpdaa
