/-
  The document's own Outward (culvertref14).
-/
import Derived.Test.YtknmpfdmjfbpdaaFwRefAll2
import Derived.Test.YtknmpfdmjfbpdaaFwGoOut
namespace Go.Proofs.Ytknmpfdmjfbpdaa
set_option maxRecDepth 10000
open Go.RowKit
set_option linter.unusedSimpArgs false
set_option linter.unusedVariables false

theorem RdW.index_in {w : World} {A : Option Addr} {L : FWL} (h : RdW w A L) {n c : Nat} (hn : L.length = n) {j : Nat} (hj : j < n) :
    ∃ b p, (∀ W : World, (Instr.indexAt 27 (.slice A n c) (.int .i64 (j : Int))).run Try.prog W = .ok (.pointer (some ⟨b, p, none⟩)) W) ∧ (b < w.heap.size ∧ (Value.slice A n c).ownBlock = some b) ∧ FwAt w b p (L.getD j fw0) := by
  obtain ⟨b, o, rfl, hb, hc⟩ := h.at_ (by omega)
  have k0 : (0 : Int) ≤ (j : Int) := by omega
  have k1 : (j : Int) < (n : Int) := by omega
  exact ⟨b, o + j * 4, fun W => by go_simp, ⟨hb, rfl⟩, hc j (by omega)⟩
set_option maxHeartbeats 1000000 in
theorem rout14_any (A : Option Addr) (n c : Nat) (L : FWL) (x y : Tu) (outer : Int) (b : Bool) (w : World) (h : RdW w A L) (hn : L.length = n) (hl : n ≤ 1000000) (hx : fwOut x outer L = (y, b)) :
    Calls Try.prog 18 #[.slice A n c, .agg #[.int .u8 x.pr, .int .u32 x.sr, .int .u32 x.ds, .int .u16 x.sp, .int .u16 x.dp], .int .u32 outer] w (FwTells (.tuple #[.agg #[.int .u8 y.pr, .int .u32 y.sr, .int .u32 y.ds, .int .u16 y.sp, .int .u16 y.dp], .bool b]) w) := by
  obtain ⟨w0, ew⟩ : ∃ w0, (w.alloc (.cells #[.int .u8 x.pr, .int .u32 x.sr, .int .u32 x.ds, .int .u16 x.sp, .int .u16 x.dp] 31)).alloc (.cells #[.int .u8 0, .int .u32 0, .int .u32 0, .int .u16 0, .int .u16 0] 31) = w0 := ⟨_, rfl⟩
  obtain ⟨z, hz⟩ : ∃ z, w.heap.size = z := ⟨_, rfl⟩
  have hb0 : Below w.heap.size w w0 := by rw [← ew]; exact ((Below.refl _ _).alloc (Nat.le_refl _) _).alloc (by simp) _
  have hk0 : w0.heap[z]? = some (.cells #[.int .u8 x.pr, .int .u32 x.sr, .int .u32 x.ds, .int .u16 x.sp, .int .u16 x.dp] 31 (0, 0)) := by rw [← ew, Below.heap_alloc _ _ _ (by simp [hz]), ← hz]; exact heap_alloc_new w _
  have hk1 : w0.heap[z + 1]? = some (.cells #[.int .u8 0, .int .u32 0, .int .u32 0, .int .u16 0, .int .u16 0] 31 (0, 0)) := by
    rw [← ew, ← hz]; simpa using heap_alloc_new (w.alloc (.cells #[.int .u8 x.pr, .int .u32 x.sr, .int .u32 x.ds, .int .u16 x.sp, .int .u16 x.dp] 31)) (.cells #[.int .u8 0, .int .u32 0, .int .u32 0, .int .u16 0, .int .u16 0] 31)
  have Hall := Lib.hid (rall14_any A n c L w0 (h.below hb0) hn hl)
  have hal : (fwAll L).length = n := by rw [(fwAll_perm L).length_eq]; exact hn
  obtain ⟨M, eM⟩ : ∃ M, fwAll L = M := ⟨_, rfl⟩
  rw [eM] at hal
  unfold fwOut at hx
  rw [eM] at hx Hall
  have Hn := Lib.hid hal
  have Hx := Lib.hid hx
  have Ew := Lib.hid ew
  have Hz := Lib.hid hz
  have Hb0 := Lib.hid hb0
  have HK0 := Lib.hid hk0
  have HK1 := Lib.hid hk1
  clear h hb0 hk0 hk1 hx ew hz hal hn eM
  go_enter Try.func18, Try.ntmps18
  go_upto_region 1 with (fail)
  rw [Ew.out]
  try rw [Hz.out]
  go_wp2_with fail
  refine Hall.out.mono ?_
  rintro e w1 ⟨A1, c1, rfl, hs, hown, hb1⟩
  rw [Hn.out] at hs hown ⊢
  have HA := Lib.hid (RdW.of hs Hn.out)
  have HB0 := Lib.hid hb1
  have Hown := Lib.hid hown
  clear hs hown hb1 Hall
  go_wp2_with fail
  go_loopg [9] n (fun gk i wr => ∃ j : Nat, Hid (gk + j = n) ∧ j ≤ n ∧ i = .int .i64 (j : Int) ∧ Hid (∀ t, t < j → fwLeads x (M.getD t fw0) = false) ∧ Hid (Below w1.heap.size w1 wr))
  case atStart => exact ⟨0, rfl, Nat.zero_le _, rfl, Lib.hid (fun t ht => by omega), Lib.hid (Below.refl _ _)⟩
  case round =>
    obtain ⟨j, hgk, hj, rfl, hno, hB⟩ := hrel
    have HB1 := Lib.hid (below_trans HB0.out hB.out)
    have HK2 := Lib.hid (blk_on HK0.out HB1.out)
    have HK3 := Lib.hid (blk_on HK1.out HB1.out)
    have HB2 := Lib.hid (below_trans Hb0.out HB1.out)
    obtain ⟨b0, b1, b2, b3, b4⟩ := cells5 HK2.out
    by_cases hjn : j < n
    · obtain ⟨g2, pp, hidx, hlt, hfl⟩ := (HA.out.below hB.out).index_in (c := c1) Hn.out hjn
      obtain ⟨f, ef⟩ : ∃ f, M.getD j fw0 = f := ⟨_, rfl⟩
      rw [ef] at hfl
      have Hfl := Lib.hid hfl
      obtain ⟨c0, c1', c2', c3⟩ := hfl
      have i0 : (0 : Int) ≤ (j : Int) := by omega
      have i1 : (j : Int) < (n : Int) := by omega
      have Hjn := Lib.hid hjn
      have Hef := Lib.hid ef
      have Hlt := Lib.hid hlt
      clear ef hlt
      by_cases hp : f.pr = x.pr
      · by_cases hq : f.ad = x.sr
        · by_cases hr : f.tp = x.sp
          · have p1 : (f.pr == x.pr) = true := by simpa using hp
            have p2 : (f.ad == x.sr) = true := by simpa using hq
            have p3 : (f.tp == x.sp) = true := by simpa using hr
            have hfind := find_first (p := fwLeads x) (by have := Hn.out; have := Hjn.out; omega) Hef.out (by unfold fwLeads; exact decide_eq_true ⟨hp, hq, hr⟩) hno.out
            have hx := Hx.out
            rw [hfind] at hx
            simp only [Prod.mk.injEq] at hx
            obtain ⟨rfl, rfl⟩ := hx
            clear hp hq hr hfind
            go_wp2_with fail
            go_quiet (fail)
            go_upto_region 6 with (fail)
            obtain ⟨wd, ewd⟩ : ∃ wd, wr.drewN nq = wd := ⟨_, rfl⟩
            have hk : wd.heap[z]? = some (.cells #[.int .u8 x.pr, .int .u32 x.sr, .int .u32 x.ds, .int .u16 x.sp, .int .u16 x.dp] 31 (0, 0)) := by rw [← ewd]; exact HK2.out
            have hk3 : wd.heap[z + 1]? = some (.cells #[.int .u8 0, .int .u32 0, .int .u32 0, .int .u16 0, .int .u16 0] 31 (0, 0)) := by rw [← ewd]; exact HK3.out
            have hbd : Below w.heap.size w wd := by rw [← ewd]; exact belowN HB2.out _
            have hfd : FwAt wd g2 pp f := by rw [← ewd]; exact Hfl.out.of (fun i => rfl)
            have hgz : g2 ≠ z := by have h1 := Hown.out _ Hlt.out.2; have h2 := lt_of_block HK0.out; omega
            rw [ewd]
            clear ewd b0 b1 b2 b3 b4 c0 c1' c2' c3
            have q2 : wd.cell? ⟨z, 1, none⟩ = some (.int .u32 x.sr) := blk_cell hk 1
            have fq := fun i => blk_free hk i
            obtain ⟨v1, ev1⟩ : ∃ v, wd.setCell ⟨z, 1, none⟩ (.int .u32 outer) = v := ⟨_, rfl⟩
            have k1 : v1.heap[z]? = some (.cells #[.int .u8 x.pr, .int .u32 outer, .int .u32 x.ds, .int .u16 x.sp, .int .u16 x.dp] 31 (0, 0)) := by rw [← ev1]; have := heap_setCell_at hk 1 (.int .u32 outer); simpa using this
            have k3 : v1.heap[z + 1]? = some (.cells #[.int .u8 0, .int .u32 0, .int .u32 0, .int .u16 0, .int .u16 0] 31 (0, 0)) := by rw [← ev1]; exact keep_blk hk3 (by omega) _
            have f1 : v1.cell? ⟨g2, pp + 1, none⟩ = some (.int .u16 f.po) := by rw [← ev1]; exact keep_cell hfd.c1 (fun e => hgz e.symm) _
            have fy := fun i => blk_free k1 i
            have q4 : v1.cell? ⟨z, 3, none⟩ = some (.int .u16 x.sp) := blk_cell k1 3
            obtain ⟨v2, ev2⟩ : ∃ v, v1.setCell ⟨z, 3, none⟩ (.int .u16 f.po) = v := ⟨_, rfl⟩
            have m1 : v2.heap[z]? = some (.cells #[.int .u8 x.pr, .int .u32 outer, .int .u32 x.ds, .int .u16 f.po, .int .u16 x.dp] 31 (0, 0)) := by rw [← ev2]; have := heap_setCell_at k1 3 (.int .u16 f.po); simpa using this
            have m3 : v2.heap[z + 1]? = some (.cells #[.int .u8 0, .int .u32 0, .int .u32 0, .int .u16 0, .int .u16 0] 31 (0, 0)) := by rw [← ev2]; exact keep_blk k3 (by omega) _
            have HB4 := Lib.hid (show Below w.heap.size w v2 by rw [← ev2, ← ev1]; exact set_below (set_below hbd (by rw [Hz.out]; exact Nat.le_refl _) _) (by rw [Hz.out]; exact Nat.le_refl _) _)
            have HM3 := Lib.hid m3
            have HM1 := Lib.hid m1
            have Ev1 := Lib.hid ev1
            have Ev2 := Lib.hid ev2
            clear hk hk3 hbd hfd hgz k1 k3 m1 m3 ev1 ev2
            go_upto_region 7 with (fail)
            rw [Ev1.out]
            clear q2 fq
            go_upto_region 8 with (fail)
            rw [Ev2.out]
            clear q4 fy f1
            have fz1 := fun i => blk_free HM3.out i
            obtain ⟨n0, n1, n2, n3, n4⟩ := cells5 HM1.out
            obtain ⟨r0, r1, r2, r3, r4⟩ := cells5 HM3.out
            go_wp2_with fail
            exact bodyPost_ret (v := .tuple #[.agg #[.int .u8 x.pr, .int .u32 outer, .int .u32 x.ds, .int .u16 f.po, .int .u16 x.dp], .bool true]) (results_row_tmp rfl _ _ (z + 1) _ _ _ _ _ rfl rfl (set5_blk HM3.out _ _ _ _ _) Try.underlying31 rfl (by kernel_rfl)) rfl ⟨rfl, set5_below HB4.out (by rw [Hz.out]; omega) _ _ _ _ _⟩
          · have p1 : (f.pr == x.pr) = true := by simpa using hp
            have p2 : (f.ad == x.sr) = true := by simpa using hq
            have p3 : (f.tp == x.sp) = false := by simpa using hr
            have Hno2 := Lib.hid (show ∀ t, t < j + 1 → fwLeads x (M.getD t fw0) = false by
              intro t ht
              by_cases e : t = j
              · subst e; rw [Hef.out]; unfold fwLeads; exact decide_eq_false (fun h => by obtain ⟨h1, h2, h3⟩ := h; first | exact hp h1 | exact hq h2 | exact hr h3)
              · exact hno.out t (by omega))
            clear hp hq hr
            go_wp2_with fail
            go_quiet (fail)
            go_wp2_with fail
            go_roundg (gk - 1)
            case measure => have := hgk.out; have := Hjn.out; omega
            case rel => exact ⟨j + 1, by have := hgk.out; have := Hjn.out; show gk - 1 + (j + 1) = _; omega, by have := Hjn.out; omega, by go_num, Hno2, Lib.hid (belowN hB.out _)⟩
        · have p1 : (f.pr == x.pr) = true := by simpa using hp
          have p2 : (f.ad == x.sr) = false := by simpa using hq
          have Hno2 := Lib.hid (show ∀ t, t < j + 1 → fwLeads x (M.getD t fw0) = false by
            intro t ht
            by_cases e : t = j
            · subst e; rw [Hef.out]; unfold fwLeads; exact decide_eq_false (fun h => by obtain ⟨h1, h2, h3⟩ := h; first | exact hp h1 | exact hq h2 | exact hr h3)
            · exact hno.out t (by omega))
          clear hp hq
          go_wp2_with fail
          go_quiet (fail)
          go_wp2_with fail
          go_roundg (gk - 1)
          case measure => have := hgk.out; have := Hjn.out; omega
          case rel => exact ⟨j + 1, by have := hgk.out; have := Hjn.out; show gk - 1 + (j + 1) = _; omega, by have := Hjn.out; omega, by go_num, Hno2, Lib.hid (belowN hB.out _)⟩
      · have p1 : (f.pr == x.pr) = false := by simpa using hp
        have Hno2 := Lib.hid (show ∀ t, t < j + 1 → fwLeads x (M.getD t fw0) = false by
          intro t ht
          by_cases e : t = j
          · subst e; rw [Hef.out]; unfold fwLeads; exact decide_eq_false (fun h => by obtain ⟨h1, h2, h3⟩ := h; first | exact hp h1 | exact hq h2 | exact hr h3)
          · exact hno.out t (by omega))
        clear hp
        go_wp2_with fail
        go_quiet (fail)
        go_wp2_with fail
        go_roundg (gk - 1)
        case measure => have := hgk.out; have := Hjn.out; omega
        case rel => exact ⟨j + 1, by have := hgk.out; have := Hjn.out; show gk - 1 + (j + 1) = _; omega, by have := Hjn.out; omega, by go_num, Hno2, Lib.hid (belowN hB.out _)⟩
    · obtain rfl : n = j := by omega
      have hx := Hx.out
      rw [find_nothing (p := fwLeads x) (by rw [Hn.out]; exact hno.out)] at hx
      simp only [Prod.mk.injEq] at hx
      obtain ⟨rfl, rfl⟩ := hx
      obtain ⟨e0, e1, e2, e3, e4⟩ := cells5 HK3.out
      have fz1 := fun i => blk_free HK3.out i
      go_wp2_with fail
      exact bodyPost_ret (v := .tuple #[.agg #[.int .u8 x.pr, .int .u32 x.sr, .int .u32 x.ds, .int .u16 x.sp, .int .u16 x.dp], .bool false]) (results_row_tmp rfl _ _ (z + 1) _ _ _ _ _ rfl rfl (set5_blk HK3.out _ _ _ _ _) Try.underlying31 rfl (by kernel_rfl)) rfl ⟨rfl, set5_below HB2.out (by rw [Hz.out]; omega) _ _ _ _ _⟩
end Go.Proofs.Ytknmpfdmjfbpdaa
