/-
  The program's May (package forward).
-/
import Derived.Test.YtknmpfdmjfbpdaaFwByDoor
import Derived.Test.YtknmpfdmjfbpdaaFwMayP
namespace Go.Proofs.Ytknmpfdmjfbpdaa
set_option maxRecDepth 10000
open Go.RowKit
set_option linter.unusedSimpArgs false
set_option linter.unusedVariables false

abbrev okF (k : Cfg) (f : Fw) : Prop := mayOne k f = true
theorem okF_all {k : Cfg} {L : FWL} {n : Nat} (hn : L.length = n) (h : ∀ t, t < n → mayOne k (L.getD t fw0) = true) : ∀ f ∈ L, okF k f := by
  intro f hf
  obtain ⟨t, ht⟩ := List.getElem?_of_mem hf
  obtain ⟨htl, e⟩ := List.getElem?_eq_some_iff.1 ht
  have := h t (by omega)
  rw [show L.getD t fw0 = f by simp [List.getD, ht]] at this
  exact this
set_option maxHeartbeats 1000000 in
theorem may_any (k : Cfg) (A : Option Addr) (n c : Nat) (L : FWL) (x : Bool) (w : World) (h : RdW w A L) (hn : L.length = n) (hl : n ≤ 1000000) (hx : x = true ↔ FwMay (okF k) L) :
    Calls Try.prog 10 #[.agg #[.int .u32 k.ins, .int .u32 k.msk, k.v2, .int .u16 k.lo, .int .u16 k.hi, k.v5, k.v6, k.v7, k.v8, k.v9, k.va, k.vb, k.vc, k.vd, k.ve, k.vf, k.vg, k.vh, k.vi], .slice A n c] w (FwTells (.bool x) w) := by
  obtain ⟨w0, ew⟩ : ∃ w0, w.alloc (.cells #[.int .u32 k.ins, .int .u32 k.msk, k.v2, .int .u16 k.lo, .int .u16 k.hi, k.v5, k.v6, k.v7, k.v8, k.v9, k.va, k.vb, k.vc, k.vd, k.ve, k.vf, k.vg, k.vh, k.vi] 29) = w0 := ⟨_, rfl⟩
  obtain ⟨z, hz⟩ : ∃ z, w.heap.size = z := ⟨_, rfl⟩
  have hb0 : Below w.heap.size w w0 := by rw [← ew]; exact (Below.refl _ _).alloc (Nat.le_refl _) _
  have hk0 : w0.heap[z]? = some (.cells #[.int .u32 k.ins, .int .u32 k.msk, k.v2, .int .u16 k.lo, .int .u16 k.hi, k.v5, k.v6, k.v7, k.v8, k.v9, k.va, k.vb, k.vc, k.vd, k.ve, k.vf, k.vg, k.vh, k.vi] 29 (0, 0)) := by rw [← ew, ← hz]; exact heap_alloc_new w _
  have HA := Lib.hid (h.below hb0)
  have Hn := Lib.hid hn
  have Hx := Lib.hid hx
  have Hb0 := Lib.hid hb0
  have Hk0 := Lib.hid hk0
  have Ew := Lib.hid ew
  have Hz := Lib.hid hz
  clear h hn hx hb0 hk0 ew hz
  by_cases hbig : 64 < n
  · obtain rfl : x = false := by
      cases x
      · rfl
      · have := (Hx.out.1 rfl).len
        have := Hn.out
        omega
    have g1 : (64 : Int) < (n : Int) := by omega
    go_enter Try.func10, Try.ntmps10
    go_upto_region 1 with (fail)
    rw [Ew.out]
    try rw [Hz.out]
    go_wp2_with fail
    go_ret
    exact ⟨rfl, Hb0.out⟩
  · have g1 : ¬ (64 : Int) < (n : Int) := by omega
    have Hbig := Lib.hid hbig
    clear hbig
    go_enter Try.func10, Try.ntmps10
    go_upto_region 1 with (fail)
    rw [Ew.out]
    try rw [Hz.out]
    go_wp2_with fail
    go_loopg [12] n (fun gk i wr => ∃ (j : Nat), Hid (gk + j = n) ∧ j ≤ n ∧ i = .int .i64 (j : Int) ∧ Hid (∀ t, t < j → mayOne k (L.getD t fw0) = true) ∧ Hid (Below w0.heap.size w0 wr))
    case atStart => exact ⟨0, rfl, Nat.zero_le _, rfl, Lib.hid (fun t ht => by omega), Lib.hid (Below.refl _ _)⟩
    case round =>
      obtain ⟨j, hgk, hj, rfl, hok, hB⟩ := hrel
      by_cases hjn : j < n
      · obtain ⟨g, pp, hidx, hlt, hfl⟩ := (HA.out.below hB.out).index (c := c) Hn.out hjn
        obtain ⟨f, ef⟩ : ∃ f, L.getD j fw0 = f := ⟨_, rfl⟩
        rw [ef] at hfl
        obtain ⟨c0, c1, c2', c3⟩ := hfl
        obtain ⟨y, ey⟩ : ∃ y, wr.heap.size = y := ⟨_, rfl⟩
        obtain ⟨w1, ew1⟩ : ∃ w1, wr.alloc (.cells #[.int .u8 f.pr, .int .u16 f.po, .int .u32 f.ad, .int .u16 f.tp] 40) = w1 := ⟨_, rfl⟩
        have hBa : Below wr.heap.size wr w1 := by rw [← ew1]; exact (Below.refl _ _).alloc (Nat.le_refl _) _
        have hk1 : w1.heap[y]? = some (.cells #[.int .u8 f.pr, .int .u16 f.po, .int .u32 f.ad, .int .u16 f.tp] 40 (0, 0)) := by rw [← ew1, ← ey]; exact heap_alloc_new wr _
        have HB1 := Lib.hid (below_trans hB.out hBa)
        have HK := Lib.hid (blk_on Hk0.out HB1.out)
        obtain ⟨x1, ex1⟩ : ∃ x1, mayOne k f = x1 := ⟨_, rfl⟩
        have HC := Lib.hid (may1_any k f x1 w1 ex1)
        have i0 : (0 : Int) ≤ (j : Int) := by omega
        have i1 : (j : Int) < (n : Int) := by omega
        have d0 : w1.cell? ⟨y, 0, none⟩ = some (.int .u8 f.pr) := blk_cell hk1 0
        have d1 : w1.cell? ⟨y, 1, none⟩ = some (.int .u16 f.po) := blk_cell hk1 1
        have d2 : w1.cell? ⟨y, 2, none⟩ = some (.int .u32 f.ad) := blk_cell hk1 2
        have d3 : w1.cell? ⟨y, 3, none⟩ = some (.int .u16 f.tp) := blk_cell hk1 3
        have Hjn := Lib.hid hjn
        have Hef := Lib.hid ef
        have Hew := Lib.hid ew1
        have Hey := Lib.hid ey
        have Hex1 := Lib.hid ex1
        clear ef hlt hBa hk1 ew1 ey ex1
        go_upto_region 6 with (fail)
        rw [Hew.out]
        try rw [Hey.out]
        clear c0 c1 c2' c3
        try simp only []
        repeat (first | (refine wp_load_row 29 (.tmp 2) rfl z _ _ _ _ HK.out rfl Try.underlying29 rfl (by kernel_rfl) ?_; simp only [Act.put, List.setIfInBounds_toArray, List.set_cons_zero, List.set_cons_succ]) | go_values | go_skip | go_guarded | go_step | go_upon | go_back)
        refine HC.out.mono ?_
        rintro e w2 ⟨rfl, hb2⟩
        have HB2 := Lib.hid (below_trans HB1.out hb2)
        clear hb2 d0 d1 d2 d3 HC
        cases x1 with
        | false =>
          obtain rfl : x = false := by
            cases x
            · rfl
            · have := (Hx.out.1 rfl).each f (by
                have hjl : j < L.length := by have := Hn.out; have := Hjn.out; omega
                rw [← Hef.out, show L.getD j fw0 = L[j] by simp [List.getD, hjl]]
                exact List.getElem_mem hjl)
              rw [okF, Hex1.out] at this
              cases this
          go_wp2_with fail
          go_ret
          exact ⟨rfl, below_trans Hb0.out HB2.out⟩
        | true =>
          have Hok := Lib.hid (show ∀ t, t < j + 1 → mayOne k (L.getD t fw0) = true by
            intro t ht
            by_cases e : t = j
            · subst e; rw [Hef.out, Hex1.out]
            · exact hok.out t (by omega))
          go_wp2_with fail
          go_roundg (gk - 1)
          case measure => have := hgk.out; have := Hjn.out; omega
          case rel => exact ⟨j + 1, by have := hgk.out; have := Hjn.out; show gk - 1 + (j + 1) = _; omega, by have := Hjn.out; omega, by go_num, Hok, HB2⟩
      · obtain rfl : n = j := by omega
        have HC := Lib.hid (bydoor_any A n c L wr (HA.out.below hB.out) Hn.out hl)
        go_wp2_with fail
        refine HC.out.mono ?_
        rintro e w2 ⟨b, N, K, R, rfl, hM, hD, hbz, hb2⟩
        have hlen := hM.len 3
        have HB2 := Lib.hid (below_trans Hb0.out (below_trans hB.out hb2))
        have hxx : ((N : Int) == (n : Int)) = x := by
          rw [Bool.eq_iff_iff]
          simp only [beq_iff_eq]
          rw [Hx.out]
          have := Hn.out
          have h1 := hD.num
          rw [List.take_length] at h1
          constructor
          · intro e
            have e2 : N = L.length := by omega
            exact ⟨by have := Hbig.out; omega, okF_all Hn.out hok.out, h1.1 e2⟩
          · intro hm
            have := h1.2 hm.ne
            omega
        clear hM hD hbz hb2
        go_wp2_with fail
        go_ret
        exact ⟨rfl, HB2.out⟩
end Go.Proofs.Ytknmpfdmjfbpdaa
