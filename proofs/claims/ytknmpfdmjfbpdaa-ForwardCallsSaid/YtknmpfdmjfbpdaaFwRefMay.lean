/-
  The document's own May (culvertref14).
-/
import Derived.Test.YtknmpfdmjfbpdaaFwMay
import Derived.BigQuiet
namespace Go.Proofs.Ytknmpfdmjfbpdaa
set_option maxRecDepth 10000
open Go.RowKit
set_option linter.unusedSimpArgs false
set_option linter.unusedVariables false

theorem below_drewN {B : Nat} {a w : World} (h : Below B a w) (m : Nat) : Below B a (w.drewN m) := ⟨h.os, h.tape, h.output, h.size, h.block⟩
theorem ne_ext {L : FWL} {j : Nat} (hj : j < L.length) {f : Fw} (hf : L.getD j fw0 = f) (h : (L.take j).Pairwise FwNe) (hno : ∀ s, s < j → FwNe (L.getD s fw0) f) : (L.take (j + 1)).Pairwise FwNe := by
  have e : L[j] = f := by simpa [List.getD, hj] using hf
  rw [List.take_succ_eq_append_getElem hj, e, List.pairwise_append]
  refine ⟨h, List.pairwise_singleton _ _, fun g hg x hx => ?_⟩
  rw [List.mem_singleton.1 hx]
  obtain ⟨t, ht⟩ := List.getElem?_of_mem hg
  have htl := (List.getElem?_eq_some_iff.1 ht).1
  rw [List.length_take] at htl
  rw [List.getElem?_take_of_lt (by omega)] at ht
  have := hno t (by omega)
  rw [show L.getD t fw0 = g by simp [List.getD, ht]] at this
  exact this
set_option maxHeartbeats 2000000 in
theorem rmay14_any (k : Cfg) (A : Option Addr) (n c : Nat) (L : FWL) (x : Bool) (w : World) (h : RdW w A L) (hn : L.length = n) (hl : n ≤ 1000000) (hx : x = true ↔ FwMay (okF k) L) :
    Calls Try.prog 9 #[.agg #[.int .u32 k.ins, .int .u32 k.msk, k.v2, .int .u16 k.lo, .int .u16 k.hi, k.v5, k.v6, k.v7, k.v8, k.v9, k.va, k.vb, k.vc, k.vd, k.ve, k.vf, k.vg, k.vh, k.vi], .slice A n c] w (FwTells (.bool x) w) := by
  obtain ⟨w0, ew⟩ : ∃ w0, w.alloc (.cells #[.int .u32 k.ins, .int .u32 k.msk, k.v2, .int .u16 k.lo, .int .u16 k.hi, k.v5, k.v6, k.v7, k.v8, k.v9, k.va, k.vb, k.vc, k.vd, k.ve, k.vf, k.vg, k.vh, k.vi] 29) = w0 := ⟨_, rfl⟩
  obtain ⟨z, hz⟩ : ∃ z, w.heap.size = z := ⟨_, rfl⟩
  have hb0 : Below w.heap.size w w0 := by rw [← ew]; exact (Below.refl _ _).alloc (Nat.le_refl _) _
  have hk0 : w0.heap[z]? = some (.cells #[.int .u32 k.ins, .int .u32 k.msk, k.v2, .int .u16 k.lo, .int .u16 k.hi, k.v5, k.v6, k.v7, k.v8, k.v9, k.va, k.vb, k.vc, k.vd, k.ve, k.vf, k.vg, k.vh, k.vi] 29 (0, 0)) := by rw [← ew, ← hz]; exact heap_alloc_new w _
  have HA := Lib.hid (h.below hb0)
  have Hn := Lib.hid hn
  have Hx := Lib.hid hx
  have Hb0 := Lib.hid hb0
  have Hk0 := Lib.hid hk0
  have Ew := Lib.hid ew
  have Hz := Lib.hid hz
  clear h hn hx hb0 hk0 ew hz
  by_cases hbig : 64 < n
  · obtain rfl : x = false := by
      cases x
      · rfl
      · have := (Hx.out.1 rfl).len
        have := Hn.out
        omega
    have g1 : (64 : Int) < (n : Int) := by omega
    go_enter Try.func9, Try.ntmps9
    go_upto_region 1 with (fail)
    rw [Ew.out]
    try rw [Hz.out]
    go_wp2_with fail
    go_ret
    exact ⟨rfl, Hb0.out⟩
  · have g1 : ¬ (64 : Int) < (n : Int) := by omega
    have Hbig := Lib.hid hbig
    clear hbig
    go_enter Try.func9, Try.ntmps9
    go_upto_region 1 with (fail)
    rw [Ew.out]
    try rw [Hz.out]
    go_wp2_with fail
    go_loopg [5] n (fun gk i wr => ∃ (j : Nat), Hid (gk + j = n) ∧ j ≤ n ∧ i = .int .i64 (j : Int) ∧ Hid (∀ t, t < j → mayOne k (L.getD t fw0) = true) ∧ Hid ((L.take j).Pairwise FwNe) ∧ Hid (Below w0.heap.size w0 wr))
    case atStart => exact ⟨0, rfl, Nat.zero_le _, rfl, Lib.hid (fun t ht => by omega), Lib.hid (by simp), Lib.hid (Below.refl _ _)⟩
    case round =>
      obtain ⟨j, hgk, hj, rfl, hok, hpw, hB⟩ := hrel
      obtain rfl : gk = n - j := by have := hgk.out; omega
      by_cases hjn : j < n
      · obtain ⟨g, pp, hidx, hlt, hfl⟩ := (HA.out.below hB.out).index (c := c) Hn.out hjn
        obtain ⟨f, ef⟩ : ∃ f, L.getD j fw0 = f := ⟨_, rfl⟩
        rw [ef] at hfl
        obtain ⟨c0, c1, c2', c3⟩ := hfl
        obtain ⟨y, ey⟩ : ∃ y, wr.heap.size = y := ⟨_, rfl⟩
        obtain ⟨w1, ew1⟩ : ∃ w1, wr.alloc (.cells #[.int .u8 f.pr, .int .u16 f.po, .int .u32 f.ad, .int .u16 f.tp] 40) = w1 := ⟨_, rfl⟩
        have hBa : Below wr.heap.size wr w1 := by rw [← ew1]; exact (Below.refl _ _).alloc (Nat.le_refl _) _
        have hk1 : w1.heap[y]? = some (.cells #[.int .u8 f.pr, .int .u16 f.po, .int .u32 f.ad, .int .u16 f.tp] 40 (0, 0)) := by rw [← ew1, ← ey]; exact heap_alloc_new wr _
        have HB1 := Lib.hid (below_trans hB.out hBa)
        have HKc := Lib.hid (blk_on Hk0.out HB1.out)
        have HKf := Lib.hid hk1
        obtain ⟨x1, ex1⟩ : ∃ x1, mayOne k f = x1 := ⟨_, rfl⟩
        have i0 : (0 : Int) ≤ (j : Int) := by omega
        have i1 : (j : Int) < (n : Int) := by omega
        have d0 : w1.cell? ⟨y, 0, none⟩ = some (.int .u8 f.pr) := blk_cell hk1 0
        have d1 : w1.cell? ⟨y, 1, none⟩ = some (.int .u16 f.po) := blk_cell hk1 1
        have d2 : w1.cell? ⟨y, 2, none⟩ = some (.int .u32 f.ad) := blk_cell hk1 2
        have d3 : w1.cell? ⟨y, 3, none⟩ = some (.int .u16 f.tp) := blk_cell hk1 3
        have k3 : w1.cell? ⟨z, 3, none⟩ = some (.int .u16 k.lo) := blk_cell HKc.out 3
        have k4 : w1.cell? ⟨z, 4, none⟩ = some (.int .u16 k.hi) := blk_cell HKc.out 4
        have Hjn := Lib.hid hjn
        have Hef := Lib.hid ef
        have Hew := Lib.hid ew1
        have Hey := Lib.hid ey
        have Hex1 := Lib.hid ex1
        clear ef hlt hBa hk1 ew1 ey ex1
        go_upto_region 7 with (fail)
        rw [Hew.out]
        try rw [Hey.out]
        clear c0 c1 c2' c3 hidx
        go_cut [59] (fun v wx => v = .bool (!x1) ∧ Hid (Below w0.heap.size w0 wx) ∧ Hid (Below w1.heap.size w1 wx))
        case first =>
          have HW1 := Lib.hid (Below.refl w1.heap.size w1)
          have e := Hex1.out
          unfold mayOne at e
          by_cases h6 : f.pr = 6
          · have p1 : (f.pr != 6) = false := by simp [h6]
            rw [show (f.pr == 6 || f.pr == 17) = true by simp [h6], Bool.true_and] at e
            clear h6
            by_cases hpo : f.po = 0
            · have b1 : (f.po == 0) = true := by simp [hpo]
              rw [b1] at e
              simp only [Bool.not_false, Bool.not_true, Bool.true_and, Bool.false_and, Bool.and_true, Bool.and_false] at e
              subst e
              clear hpo
              go_wp2_with fail
              go_meet
              exact ⟨rfl, HB1, HW1⟩
            · have b1 : (f.po == 0) = false := by simp [hpo]
              rw [b1] at e
              clear hpo
              by_cases htp : f.tp = 0
              · have b2 : (f.tp == 0) = true := by simp [htp]
                rw [b2] at e
                simp only [Bool.not_false, Bool.not_true, Bool.true_and, Bool.false_and, Bool.and_true, Bool.and_false] at e
                subst e
                clear htp
                go_wp2_with fail
                go_meet
                exact ⟨rfl, HB1, HW1⟩
              · have b2 : (f.tp == 0) = false := by simp [htp]
                rw [b2] at e
                clear htp
                by_cases hlo : k.lo ≤ f.po
                · have b3 : decide (k.lo ≤ f.po) = true := decide_eq_true hlo
                  rw [b3] at e
                  by_cases hhi : f.po ≤ k.hi
                  · have b4 : decide (f.po ≤ k.hi) = true := decide_eq_true hhi
                    rw [b4] at e
                    simp only [Bool.not_false, Bool.not_true, Bool.true_and, Bool.false_and, Bool.and_true, Bool.and_false] at e
                    subst e
                    go_wp2_with fail
                    go_meet
                    exact ⟨rfl, HB1, HW1⟩
                  · have b4 : decide (f.po ≤ k.hi) = false := decide_eq_false hhi
                    rw [b4] at e
                    obtain ⟨iv, ei⟩ : ∃ iv, insB k f.ad = iv := ⟨_, rfl⟩
                    rw [ei] at e
                    simp only [Bool.not_false, Bool.not_true, Bool.true_and, Bool.false_and, Bool.and_true, Bool.and_false] at e
                    subst e
                    have HI := Lib.hid (rinside14_any k f.ad iv w1 ei)
                    clear ei
                    try simp only []
                    repeat (first | go_values | go_skip | ((fail_if_success (with_reducible refine wpList_row 29 (.tmp 2) rfl ?_ ?_ ?_ ?_ ?_ ?_ ?_ ?_ ?_ ?_ ?_ ?_)); (first | go_step | go_upon | go_back)))
                    refine wpList_row 29 (.tmp 2) rfl ?hww z _ _ _ _ HKc.out rfl Try.underlying29 rfl (by kernel_rfl) ?_
                    case hww => kernel_rfl
                    (try simp only [Act.put, List.setIfInBounds_toArray, List.set_cons_zero, List.set_cons_succ])
                    go_wp2_with fail
                    refine HI.out.mono ?_
                    rintro e w2 ⟨rfl, hb2⟩
                    have HB2 := Lib.hid (below_trans HB1.out hb2)
                    have HW2 := Lib.hid hb2
                    clear hb2 HI
                    go_wp2_with fail
                    go_meet
                    exact ⟨rfl, HB2, HW2⟩
                · have b3 : decide (k.lo ≤ f.po) = false := decide_eq_false hlo
                  rw [b3] at e
                  obtain ⟨iv, ei⟩ : ∃ iv, insB k f.ad = iv := ⟨_, rfl⟩
                  rw [ei] at e
                  simp only [Bool.not_false, Bool.not_true, Bool.true_and, Bool.false_and, Bool.and_true, Bool.and_false] at e
                  subst e
                  have HI := Lib.hid (rinside14_any k f.ad iv w1 ei)
                  clear ei
                  try simp only []
                  repeat (first | go_values | go_skip | ((fail_if_success (with_reducible refine wpList_row 29 (.tmp 2) rfl ?_ ?_ ?_ ?_ ?_ ?_ ?_ ?_ ?_ ?_ ?_ ?_)); (first | go_step | go_upon | go_back)))
                  refine wpList_row 29 (.tmp 2) rfl ?hww z _ _ _ _ HKc.out rfl Try.underlying29 rfl (by kernel_rfl) ?_
                  case hww => kernel_rfl
                  (try simp only [Act.put, List.setIfInBounds_toArray, List.set_cons_zero, List.set_cons_succ])
                  go_wp2_with fail
                  refine HI.out.mono ?_
                  rintro e w2 ⟨rfl, hb2⟩
                  have HB2 := Lib.hid (below_trans HB1.out hb2)
                  have HW2 := Lib.hid hb2
                  clear hb2 HI
                  go_wp2_with fail
                  go_meet
                  exact ⟨rfl, HB2, HW2⟩
          · by_cases h7 : f.pr = 17
            · have p1 : (f.pr != 6) = true := by simp [h6]
              have p2 : (f.pr != 17) = false := by simp [h7]
              rw [show (f.pr == 6 || f.pr == 17) = true by simp [h7], Bool.true_and] at e
              clear h6 h7
              by_cases hpo : f.po = 0
              · have b1 : (f.po == 0) = true := by simp [hpo]
                rw [b1] at e
                simp only [Bool.not_false, Bool.not_true, Bool.true_and, Bool.false_and, Bool.and_true, Bool.and_false] at e
                subst e
                clear hpo
                go_wp2_with fail
                go_meet
                exact ⟨rfl, HB1, HW1⟩
              · have b1 : (f.po == 0) = false := by simp [hpo]
                rw [b1] at e
                clear hpo
                by_cases htp : f.tp = 0
                · have b2 : (f.tp == 0) = true := by simp [htp]
                  rw [b2] at e
                  simp only [Bool.not_false, Bool.not_true, Bool.true_and, Bool.false_and, Bool.and_true, Bool.and_false] at e
                  subst e
                  clear htp
                  go_wp2_with fail
                  go_meet
                  exact ⟨rfl, HB1, HW1⟩
                · have b2 : (f.tp == 0) = false := by simp [htp]
                  rw [b2] at e
                  clear htp
                  by_cases hlo : k.lo ≤ f.po
                  · have b3 : decide (k.lo ≤ f.po) = true := decide_eq_true hlo
                    rw [b3] at e
                    by_cases hhi : f.po ≤ k.hi
                    · have b4 : decide (f.po ≤ k.hi) = true := decide_eq_true hhi
                      rw [b4] at e
                      simp only [Bool.not_false, Bool.not_true, Bool.true_and, Bool.false_and, Bool.and_true, Bool.and_false] at e
                      subst e
                      go_wp2_with fail
                      go_meet
                      exact ⟨rfl, HB1, HW1⟩
                    · have b4 : decide (f.po ≤ k.hi) = false := decide_eq_false hhi
                      rw [b4] at e
                      obtain ⟨iv, ei⟩ : ∃ iv, insB k f.ad = iv := ⟨_, rfl⟩
                      rw [ei] at e
                      simp only [Bool.not_false, Bool.not_true, Bool.true_and, Bool.false_and, Bool.and_true, Bool.and_false] at e
                      subst e
                      have HI := Lib.hid (rinside14_any k f.ad iv w1 ei)
                      clear ei
                      try simp only []
                      repeat (first | go_values | go_skip | ((fail_if_success (with_reducible refine wpList_row 29 (.tmp 2) rfl ?_ ?_ ?_ ?_ ?_ ?_ ?_ ?_ ?_ ?_ ?_ ?_)); (first | go_step | go_upon | go_back)))
                      refine wpList_row 29 (.tmp 2) rfl ?hww z _ _ _ _ HKc.out rfl Try.underlying29 rfl (by kernel_rfl) ?_
                      case hww => kernel_rfl
                      (try simp only [Act.put, List.setIfInBounds_toArray, List.set_cons_zero, List.set_cons_succ])
                      go_wp2_with fail
                      refine HI.out.mono ?_
                      rintro e w2 ⟨rfl, hb2⟩
                      have HB2 := Lib.hid (below_trans HB1.out hb2)
                      have HW2 := Lib.hid hb2
                      clear hb2 HI
                      go_wp2_with fail
                      go_meet
                      exact ⟨rfl, HB2, HW2⟩
                  · have b3 : decide (k.lo ≤ f.po) = false := decide_eq_false hlo
                    rw [b3] at e
                    obtain ⟨iv, ei⟩ : ∃ iv, insB k f.ad = iv := ⟨_, rfl⟩
                    rw [ei] at e
                    simp only [Bool.not_false, Bool.not_true, Bool.true_and, Bool.false_and, Bool.and_true, Bool.and_false] at e
                    subst e
                    have HI := Lib.hid (rinside14_any k f.ad iv w1 ei)
                    clear ei
                    try simp only []
                    repeat (first | go_values | go_skip | ((fail_if_success (with_reducible refine wpList_row 29 (.tmp 2) rfl ?_ ?_ ?_ ?_ ?_ ?_ ?_ ?_ ?_ ?_ ?_ ?_)); (first | go_step | go_upon | go_back)))
                    refine wpList_row 29 (.tmp 2) rfl ?hww z _ _ _ _ HKc.out rfl Try.underlying29 rfl (by kernel_rfl) ?_
                    case hww => kernel_rfl
                    (try simp only [Act.put, List.setIfInBounds_toArray, List.set_cons_zero, List.set_cons_succ])
                    go_wp2_with fail
                    refine HI.out.mono ?_
                    rintro e w2 ⟨rfl, hb2⟩
                    have HB2 := Lib.hid (below_trans HB1.out hb2)
                    have HW2 := Lib.hid hb2
                    clear hb2 HI
                    go_wp2_with fail
                    go_meet
                    exact ⟨rfl, HB2, HW2⟩
            · have p1 : (f.pr != 6) = true := by simp [h6]
              have p2 : (f.pr != 17) = true := by simp [h7]
              rw [show (f.pr == 6 || f.pr == 17) = false by simp [h6, h7], Bool.false_and] at e
              subst e
              clear h6 h7
              go_wp2_with fail
              go_meet
              exact ⟨rfl, HB1, HW1⟩
        case rest =>
          obtain ⟨rfl, HBc, HWc⟩ := hcut
          have hfm : f ∈ L := by
            have hjl : j < L.length := by have := Hn.out; have := Hjn.out; omega
            rw [← Hef.out, show L.getD j fw0 = L[j] by simp [List.getD, hjl]]
            exact List.getElem_mem hjl
          have Hfm := Lib.hid hfm
          clear d0 d1 d2 d3 k3 k4 hfm
          have HKy := Lib.hid (blk_on HKf.out HWc.out)
          cases x1 with
          | false =>
            obtain rfl : x = false := by
              cases x
              · rfl
              · have := (Hx.out.1 rfl).each f Hfm.out
                rw [okF, Hex1.out] at this
                cases this
            go_wp2_with fail
            go_ret
            exact ⟨rfl, below_trans Hb0.out HBc.out⟩
          | true =>
            have Hok := Lib.hid (show ∀ t, t < j + 1 → mayOne k (L.getD t fw0) = true by
              intro t ht
              by_cases e : t = j
              · subst e; rw [Hef.out, Hex1.out]
              · exact hok.out t (by omega))
            go_wp2_with fail
            go_loopg [7] j (fun gk i wr => ∃ (q : Nat), Hid (gk + q = j) ∧ q ≤ j ∧ i = .int .i64 (q : Int) ∧ Hid (∀ s, s < q → FwNe (L.getD s fw0) f) ∧ Hid (Below wc.heap.size wc wr))
            case atStart => exact ⟨0, rfl, Nat.zero_le _, rfl, Lib.hid (fun t ht => by omega), Lib.hid (Below.refl _ _)⟩
            case round =>
              obtain ⟨q, hgq, hq, rfl, hno, hBq⟩ := hrel
              have HBr := Lib.hid (below_trans HBc.out hBq.out)
              by_cases hqj : q < j
              · obtain ⟨g2, p2, hidx2, hlt2, hfl2⟩ := (HA.out.below HBr.out).index (c := c) Hn.out (j := q) (by have := Hjn.out; omega)
                obtain ⟨f2, ef2⟩ : ∃ f, L.getD q fw0 = f := ⟨_, rfl⟩
                rw [ef2] at hfl2
                obtain ⟨e0, e1, e2, e3⟩ := hfl2
                have hky := blk_on HKy.out hBq.out
                have d0 : wr.cell? ⟨y, 0, none⟩ = some (.int .u8 f.pr) := blk_cell hky 0
                have d1 : wr.cell? ⟨y, 1, none⟩ = some (.int .u16 f.po) := blk_cell hky 1
                have Hef2 := Lib.hid ef2
                have Hqj := Lib.hid hqj
                have q0 : (0 : Int) ≤ (q : Int) := by omega
                have q1 : (q : Int) < (j : Int) := by omega
                have q2 : (q : Int) < (n : Int) := by omega
                clear ef2 hlt2 hky
                by_cases hp : f2.pr = f.pr
                · have b1 : (f2.pr == f.pr) = true := by simpa using hp
                  by_cases ho : f2.po = f.po
                  · have b2 : (f2.po == f.po) = true := by simpa using ho
                    obtain rfl : x = false := by
                      cases x
                      · rfl
                      · have hne := (Hx.out.1 rfl).ne
                        rw [List.pairwise_iff_getElem] at hne
                        have hjl : j < L.length := by have := Hn.out; have := Hjn.out; omega
                        have hql : q < L.length := by have := Hqj.out; omega
                        have := hne q j hql hjl Hqj.out
                        have ea : L[q] = f2 := by have := Hef2.out; simpa [List.getD, hql] using this
                        have eb : L[j] = f := by have := Hef.out; simpa [List.getD, hjl] using this
                        rw [ea, eb] at this
                        exact absurd ⟨hp, ho⟩ this
                    clear hp ho
                    go_wp2_with fail
                    go_quiet (fail)
                    go_wp2_with fail
                    go_ret
                    exact ⟨rfl, below_drewN (below_trans Hb0.out HBr.out) _⟩
                  · have b2 : (f2.po == f.po) = false := by simpa using ho
                    have Hno := Lib.hid (show ∀ s, s < q + 1 → FwNe (L.getD s fw0) f by
                      intro t ht
                      by_cases e : t = q
                      · subst e; rw [Hef2.out]; exact fun h => ho h.2
                      · exact hno.out t (by omega))
                    clear hp ho
                    go_wp2_with fail
                    go_quiet (fail)
                    go_wp2_with fail
                    go_roundg (gk - 1)
                    case measure => have := hgq.out; have := Hqj.out; omega
                    case rel => exact ⟨q + 1, by have := hgq.out; have := Hqj.out; show gk - 1 + (q + 1) = _; omega, by have := Hqj.out; omega, by go_num, Hno, Lib.hid (below_drewN hBq.out _)⟩
                · have b1 : (f2.pr == f.pr) = false := by simpa using hp
                  have Hno := Lib.hid (show ∀ s, s < q + 1 → FwNe (L.getD s fw0) f by
                    intro t ht
                    by_cases e : t = q
                    · subst e; rw [Hef2.out]; exact fun h => hp h.1
                    · exact hno.out t (by omega))
                  clear hp
                  go_wp2_with fail
                  go_quiet (fail)
                  go_wp2_with fail
                  go_roundg (gk - 1)
                  case measure => have := hgq.out; have := Hqj.out; omega
                  case rel => exact ⟨q + 1, by have := hgq.out; have := Hqj.out; show gk - 1 + (q + 1) = _; omega, by have := Hqj.out; omega, by go_num, Hno, Lib.hid (below_drewN hBq.out _)⟩
              · obtain rfl : q = j := by omega
                have Hpw := Lib.hid (ne_ext (by have := Hn.out; have := Hjn.out; omega) Hef.out hpw.out hno.out)
                go_wp2_with fail
                go_roundg (n - (q + 1))
                case measure => have := Hjn.out; omega
                case rel => exact ⟨q + 1, by have := Hjn.out; show n - (q + 1) + (q + 1) = _; omega, by have := Hjn.out; omega, by go_num, Hok, Hpw, HBr⟩
      · obtain rfl : n = j := by omega
        obtain rfl : x = true := by
          refine Hx.out.2 ⟨by have := Hn.out; have := Hbig.out; omega, okF_all Hn.out hok.out, ?_⟩
          have := hpw.out
          rw [List.take_of_length_le (by have := Hn.out; omega)] at this
          exact this
        go_wp2_with fail
        go_ret
        exact ⟨rfl, below_trans Hb0.out hB.out⟩
end Go.Proofs.Ytknmpfdmjfbpdaa
