/-
  PoolApart holds: a copy has the same, and lives apart, for any ends, any calls, wherever it is copied.
-/
import Derived.Test.YtlifldionfoddaaPoolZ
import Derived.Test.YtlifldionfoddaaPoolOpen
import Derived.Deep.CutRange
import Derived.Deep.DeepCutAuto
import Derived.Deep.LoopGhost
import Derived.BigRegion
import Derived.BigQuiet
namespace Go.Proofs.Ytlifldionfoddaa.poolApart
set_option maxRecDepth 10000
open Go.ChangeShapes Go.WideShapes Go.ChangeAt Go.RowKit
set_option linter.unusedVariables false
set_option linter.unusedSimpArgs false

theorem ends_set {w : World} {z : Nat} {a b c : Value} {T : TypeId} (h : w.heap[z]? = some (.cells #[a, b, c] T (0, 0))) (x y t : Value) :
    (((w.setCell ⟨z, 0, none⟩ x).setCell ⟨z, 1, none⟩ y).setCell ⟨z, 2, none⟩ t).heap[z]? = some (.cells #[x, y, t] T (0, 0)) ∧ But (fun k => k = z) w (((w.setCell ⟨z, 0, none⟩ x).setCell ⟨z, 1, none⟩ y).setCell ⟨z, 2, none⟩ t) := by
  refine ⟨?_, (((But.refl (fun k => k = z) w).setCell (p := ⟨z, 0, none⟩) rfl _).setCell (p := ⟨z, 1, none⟩) rfl _).setCell (p := ⟨z, 2, none⟩) rfl _⟩
  have := heap_setCell_at (heap_setCell_at (heap_setCell_at h 0 x) 1 y) 2 t
  simpa using this
/-- One pool, or it and a copy that lies apart. -/
def Mode (Z : Nat → Prop) (w : World) (g gq : Nat) (s : AP) : Prop := (gq = g ∧ PZ Z w g s) ∨ TwoZ Z w g gq s s
theorem Mode.below {Z : Nat → Prop} {w w' : World} {g gq : Nat} {s : AP} (h : Mode Z w g gq s) (hb : Below w.heap.size w w') : Mode Z w' g gq s :=
  h.imp (fun h => ⟨h.1, h.2.below hb⟩) (fun h => h.below hb)
theorem Mode.more {Z Z' : Nat → Prop} {w : World} {g gq : Nat} {s : AP} (h : Mode Z w g gq s) (hZ : ∀ k, k < w.heap.size → Z' k → Z k) : Mode Z' w g gq s :=
  h.imp (fun h => ⟨h.1, h.2.more hZ⟩) (fun h => h.more hZ)
theorem Mode.p {Z : Nat → Prop} {w : World} {g gq : Nat} {s : AP} (h : Mode Z w g gq s) : PZ Z w g s := by
  rcases h with h | h
  · exact h.2
  · exact h.one
theorem Mode.q {Z : Nat → Prop} {w : World} {g gq : Nat} {s : AP} (h : Mode Z w g gq s) : PZ Z w gq s := by
  rcases h with ⟨rfl, h⟩ | h
  · exact h
  · exact h.symm.one
def ZA (B zA : Nat) : Nat → Prop := fun k => k < B ∨ k = zA
theorem za_but {B zA : Nat} {w w' : World} (h : But (fun k => ¬ ZA B zA k) w w') (hB : B ≤ w.heap.size) : Below B w w' := h.below (fun k hk => by unfold ZA at hk; omega) hB
theorem za_act {B zA : Nat} {w w' : World} {o : Obj} (h : But (fun k => ¬ ZA B zA k) w w') (hb : w.heap[zA]? = some o) : w'.heap[zA]? = some o := h.blk hb (fun hk => hk (.inr rfl))
set_option maxHeartbeats 4000000 in
theorem walk (w : World) (v : Value) (hv : PEndsAt w v) (va : Value) (hva : ActsAt w va) (m : Int) (wm : (Lit.int .u8 m).wf = true) :
    Calls Try.prog 5 #[v, va, .int .u8 m] w fun e w' => e = .returned (.bool true) ∧ Below w.heap.size w w' := by
  obtain ⟨lo, hi, rest, rfl, hlo, hhi, hrest⟩ := hv
  obtain ⟨A, n, c, rfl, hnc, hcm, hrd⟩ := hva
  have hm := bounds_u8 wm
  clear wm
  obtain ⟨H, eH⟩ : ∃ H, fitH lo hi = H := ⟨_, rfl⟩
  have hHb := fitH_bd hlo hhi
  rw [eH] at hHb
  have Hfit := Lib.hid (fun W => fit_any lo hi rest W hlo hhi)
  unfold FitIs at Hfit
  rw [eH] at Hfit
  clear eH
  have Hrd := Lib.hid hrd
  obtain ⟨z, hz⟩ : ∃ z, w.heap.size = z := ⟨_, rfl⟩
  obtain ⟨w0, ew0⟩ : ∃ w0, w.alloc (.cells #[.int .u16 lo, .int .u16 hi, .int .u64 rest] 25) = w0 := ⟨_, rfl⟩
  have HB0 := Lib.hid (show Below w.heap.size w w0 by rw [← ew0]; exact (Below.refl _ _).alloc (Nat.le_refl _) _)
  have hk0 : w0.heap[z]? = some (.cells #[.int .u16 lo, .int .u16 hi, .int .u64 rest] 25 (0, 0)) := by rw [← ew0, ← hz]; exact heap_alloc_new w _
  have HK0 := Lib.hid hk0
  have d0 := blk_cell hk0 0
  have d1 := blk_cell hk0 1
  have d2 := blk_cell hk0 2
  simp at d0 d1 d2
  clear hk0 hrd
  go_enter Try.func5, Try.ntmps5
  go_wp2_with fail
  refine (Hfit.out w0).mono ?_
  rintro e w1 ⟨rfl, hb1⟩
  have hk1 := blk_on HK0.out hb1
  have c0 := blk_cell hk1 0
  have c1 := blk_cell hk1 1
  have c2 := blk_cell hk1 2
  simp at c0 c1 c2
  have cf := blk_free hk1
  clear d0 d1 d2
  go_upto_region 2 with (fail)
  obtain ⟨hk2, hb2⟩ := ends_set hk1 (.int .u16 lo) (.int .u16 H) (.int .u64 rest)
  obtain ⟨w2, ew2⟩ : ∃ w2, ((w1.setCell ⟨z, 0, none⟩ (.int .u16 lo)).setCell ⟨z, 1, none⟩ (.int .u16 H)).setCell ⟨z, 2, none⟩ (.int .u64 rest) = w2 := ⟨_, rfl⟩
  rw [ew2] at hk2 hb2 ⊢
  have HB2 := Lib.hid (show Below w.heap.size w w2 from (HB0.out.trans (hb1.mono HB0.out.size)).trans (hb2.below (fun k hk => by omega) (HB0.out.trans (hb1.mono HB0.out.size)).size))
  have HK2 := Lib.hid hk2
  have e0 := blk_cell hk2 0
  have e1 := blk_cell hk2 1
  have e2 := blk_cell hk2 2
  simp at e0 e1 e2
  clear ew2 hk1 hk2 hb2 hb1 c0 c1 c2 cf HB0 HK0
  cases hbad : badA lo H rest with
  | true =>
    have hbd := hbad
    unfold badA at hbd
    simp only [Bool.or_eq_true, decide_eq_true_eq] at hbd
    have Hn := Lib.hid (new_bad lo H rest w2 hlo hHb hrest hbad)
    clear hbad
    by_cases ha : lo = 0
    · have ha2 : (lo == 0) = true := by simpa using ha
      clear hbd ha
      go_wp2_with fail
      refine Hn.out.mono ?_
      rintro e w3 ⟨rfl, hb3⟩
      have HB3 := Lib.hid (HB2.out.trans (hb3.mono HB2.out.size))
      have HK3 := Lib.hid (blk_on HK2.out hb3)
      clear hb3 e0 e1 e2
      go_wp2_with fail
      refine (poolwake_any w3).mono ?_
      rintro e w4 ⟨rfl, hb4⟩
      have HB4 := Lib.hid (HB3.out.trans (hb4.mono HB3.out.size))
      have HK4 := blk_on HK3.out hb4
      have x0 := blk_cell HK4 0
      have x1 := blk_cell HK4 1
      have x2 := blk_cell HK4 2
      simp at x0 x1 x2
      clear hb4 HK4
      go_wp2_with fail
      go_ret
      exact ⟨rfl, HB4.out⟩
    · have ha2 : (lo == 0) = false := by simpa using ha
      by_cases hx : H < lo
      · have hb2 : decide (H < lo) = true := decide_eq_true hx
        clear hbd ha
        go_wp2_with fail
        refine Hn.out.mono ?_
        rintro e w3 ⟨rfl, hb3⟩
        have HB3 := Lib.hid (HB2.out.trans (hb3.mono HB2.out.size))
        have HK3 := Lib.hid (blk_on HK2.out hb3)
        clear hb3 e0 e1 e2
        go_wp2_with fail
        refine (poolwake_any w3).mono ?_
        rintro e w4 ⟨rfl, hb4⟩
        have HB4 := Lib.hid (HB3.out.trans (hb4.mono HB3.out.size))
        have HK4 := blk_on HK3.out hb4
        have x0 := blk_cell HK4 0
        have x1 := blk_cell HK4 1
        have x2 := blk_cell HK4 2
        simp at x0 x1 x2
        clear hb4 HK4
        go_wp2_with fail
        go_ret
        exact ⟨rfl, HB4.out⟩
      · have hb2 : decide (H < lo) = false := decide_eq_false hx
        have hc : bigT < rest := by rcases hbd with h | h | h; exact absurd h ha; exact absurd h hx; exact h
        unfold bigT at hc
        have hc2 : decide (1099511627776 < rest) = true := decide_eq_true hc
        clear hbd ha
        go_wp2_with fail
        refine Hn.out.mono ?_
        rintro e w3 ⟨rfl, hb3⟩
        have HB3 := Lib.hid (HB2.out.trans (hb3.mono HB2.out.size))
        have HK3 := Lib.hid (blk_on HK2.out hb3)
        clear hb3 e0 e1 e2
        go_wp2_with fail
        refine (poolwake_any w3).mono ?_
        rintro e w4 ⟨rfl, hb4⟩
        have HB4 := Lib.hid (HB3.out.trans (hb4.mono HB3.out.size))
        have HK4 := blk_on HK3.out hb4
        have x0 := blk_cell HK4 0
        have x1 := blk_cell HK4 1
        have x2 := blk_cell HK4 2
        simp at x0 x1 x2
        clear hb4 HK4
        go_wp2_with fail
        go_ret
        exact ⟨rfl, HB4.out⟩
  | false =>
    obtain ⟨s0, es0⟩ : ∃ s0, newA lo H rest = s0 := ⟨_, rfl⟩
    have Hnew := Lib.hid (new_own lo H rest s0 w2 hlo hHb hrest hbad es0)
    clear hbad es0
    go_wp2_with fail
    refine Hnew.out.mono ?_
    rintro e w3 ⟨g, rfl, hp, hb3⟩
    obtain ⟨B, eB⟩ : ∃ B, w2.heap.size = B := ⟨_, rfl⟩
    have hwB : w.heap.size ≤ B := by rw [← eB]; exact HB2.out.size
    rw [eB] at hp hb3
    have HM3 := Lib.hid (show Mode (fun k => k < B) w3 g g s0 from .inl ⟨rfl, by obtain ⟨S, h1, h2⟩ := hp; exact ⟨S, h1, fun k hk hz => by have := h2 k hk; omega⟩⟩)
    have HS3 := Lib.hid (show B ≤ w3.heap.size by rw [← eB]; exact hb3.size)
    have HB3 := Lib.hid (HB2.out.trans (hb3.mono hwB))
    clear hp hb3 Hnew e0 e1 e2 HB2 HK2 eB
    go_wp2_with fail
    go_loopg [9, 53] n (fun gk q9 i wr => ∃ (j gq : Nat) (s : AP), Hid (gk + j = n) ∧ j ≤ n ∧ j ≤ 60 ∧ i = .int .i64 (j : Int) ∧ q9 = .pointer (some ⟨gq, 0, none⟩) ∧ Hid (Mode (fun k => k < B) wr g gq s) ∧ Hid (Below w.heap.size w wr) ∧ Hid (B ≤ wr.heap.size))
    case atStart => exact ⟨0, g, s0, rfl, Nat.zero_le _, by omega, rfl, rfl, HM3, HB3, HS3⟩
    case round =>
      obtain ⟨j, gq, s, hgk, hj, hj60, rfl, rfl, HM, HB, HS⟩ := hrel
      by_cases hjn : j < n
      · obtain ⟨b, pp, kd, pt, t, hidx, hbl, hc0, hc1, hc2, hpt, ht⟩ := (Hrd.out.below HB.out).index (c := c) hjn
        have i0 : (0 : Int) ≤ (j : Int) := by omega
        have i1 : (j : Int) < (n : Int) := by omega
        obtain ⟨zA, ezA⟩ : ∃ zA, wr.heap.size = zA := ⟨_, rfl⟩
        obtain ⟨wa, ewa⟩ : ∃ wa, wr.alloc (.cells #[.int .i64 kd, .int .u16 pt, .int .u64 t] 36) = wa := ⟨_, rfl⟩
        have hba : Below wr.heap.size wr wa := by rw [← ewa]; exact (Below.refl _ _).alloc (Nat.le_refl _) _
        have HKa := Lib.hid (show wa.heap[zA]? = some (.cells #[.int .i64 kd, .int .u16 pt, .int .u64 t] 36 (0, 0)) by rw [← ewa, ← ezA]; exact heap_alloc_new wr _)
        have HMa := Lib.hid ((HM.out.more (Z' := ZA B zA) (fun k hk hz => hz.elim id (fun h => absurd hk (by omega)))).below hba)
        have HBa := Lib.hid (HB.out.trans (hba.mono HB.out.size))
        have HSa := Lib.hid (Nat.le_trans HS.out hba.size)
        have HSx := Lib.hid HS.out
        clear hba HM HB HS
        go_upto_region 9 with (fail)
        clear ewa
        by_cases h60 : j = 60
        · subst h60
          go_wp2_with fail
          refine (poolwake_any wa).mono ?_
          rintro e w4 ⟨rfl, hb4⟩
          have HB4 := Lib.hid (HBa.out.trans (hb4.mono HBa.out.size))
          clear hb4
          go_wp2_with fail
          go_ret
          exact ⟨rfl, HB4.out⟩
        · have h60b : ((j : Int) == 60) = false := by simp; omega
          have hzAB : B ≤ zA := by rw [← ezA]; exact HSx.out
          have hzA : zA < wa.heap.size := lt_of_block HKa.out
          have hZ : ∀ W : World, wa.heap.size ≤ W.heap.size → ∀ k, ZA B zA k → k < W.heap.size := fun W hW k hk => by
            have := HSa.out
            rcases hk with hk | hk <;> omega
          have HZ := Lib.hid hZ
          clear hZ ezA hidx hc0 hc1 hc2 i0 i1 hbl
          go_upto_if 64 with (fail)
          go_cut [9] (fun s9 wx => ∃ gq', s9 = .pointer (some ⟨gq', 0, none⟩) ∧ Hid (Mode (ZA B zA) wx g gq' s) ∧ Hid (Below wa.heap.size wa wx))
          case first =>
            by_cases hx : m % 60 ≤ (j : Int)
            · have hxb : decide (m % 60 ≤ (j : Int)) = true := decide_eq_true hx
              rcases id HMa.out with ⟨rfl, h1⟩ | h2
              · have heq := eql_same ⟨gq, 0, none⟩ wa
                have Hc := Lib.hid (copy_z _ gq s wa h1 (HZ.out wa (Nat.le_refl _)))
                clear h1
                go_wp2_with fail
                refine Hc.out.mono ?_
                rintro e wb ⟨g2, rfl, htwo, -, hbb⟩
                have HT := Lib.hid htwo
                have HBb := Lib.hid hbb
                clear htwo hbb Hc heq
                go_wp2_with fail
                refine (copy_z _ gq s wb HT.out.one (HZ.out wb HBb.out.size)).mono ?_
                rintro e wc ⟨g3, rfl, -, hr, hbc⟩
                have HTc := Lib.hid (HT.out.below hbc)
                have HBc := Lib.hid hbc
                have HRc := Lib.hid hr
                have HBac := Lib.hid (HBb.out.trans (hbc.mono HBb.out.size))
                have a2 := blk_cell (blk_on HKa.out HBac.out) 2
                simp at a2
                clear hr hbc
                go_wp2_with fail
                refine (take_z (fun k => k < wb.heap.size) g3 s _ t _ _ wc HRc.out (fun k hk => Nat.lt_of_lt_of_le hk HBc.out.size) ht rfl rfl rfl).mono ?_
                rintro e wd ⟨rfl, hr, hbd⟩
                have HBd := Lib.hid (HBc.out.trans (hbd.below (fun k hk => Nat.le_of_not_lt hk) HBc.out.size))
                have HRd := Lib.hid hr
                have HBad := Lib.hid (HBb.out.trans (HBd.out.mono HBb.out.size))
                have hKd := blk_on HKa.out HBad.out
                have b1 := blk_cell hKd 1
                have b2 := blk_cell hKd 2
                simp at b1 b2
                clear hr hbd a2 hKd
                go_wp2_with fail
                refine (give_z (fun k => k < wb.heap.size) g3 _ _ pt t _ wd HRd.out (fun k hk => Nat.lt_of_lt_of_le hk HBd.out.size) hpt ht rfl rfl).mono ?_
                rintro e we ⟨rfl, -, hbe⟩
                have HBe := Lib.hid (HBd.out.trans (hbe.below (fun k hk => Nat.le_of_not_lt hk) HBd.out.size))
                clear hbe b1 b2
                go_wp2_with fail
                go_meet
                case rel => exact ⟨g2, rfl, Lib.hid (.inr (HT.out.below HBe.out)), Lib.hid (HBb.out.trans (HBe.out.mono HBb.out.size))⟩
              · have heq := h2.eql.1
                have HT := Lib.hid h2
                obtain ⟨wb, ewb⟩ : ∃ wb, wa = wb := ⟨_, rfl⟩
                have HBb := Lib.hid (show Below wa.heap.size wa wb by rw [← ewb]; exact Below.refl _ _)
                rw [ewb] at heq HT
                clear h2
                try rw [ewb]
                go_wp2_with fail
                refine (copy_z _ g s wb HT.out.one (HZ.out wb HBb.out.size)).mono ?_
                rintro e wc ⟨g3, rfl, -, hr, hbc⟩
                have HTc := Lib.hid (HT.out.below hbc)
                have HBc := Lib.hid hbc
                have HRc := Lib.hid hr
                have HBac := Lib.hid (HBb.out.trans (hbc.mono HBb.out.size))
                have a2 := blk_cell (blk_on HKa.out HBac.out) 2
                simp at a2
                clear hr hbc
                go_wp2_with fail
                refine (take_z (fun k => k < wb.heap.size) g3 s _ t _ _ wc HRc.out (fun k hk => Nat.lt_of_lt_of_le hk HBc.out.size) ht rfl rfl rfl).mono ?_
                rintro e wd ⟨rfl, hr, hbd⟩
                have HBd := Lib.hid (HBc.out.trans (hbd.below (fun k hk => Nat.le_of_not_lt hk) HBc.out.size))
                have HRd := Lib.hid hr
                have HBad := Lib.hid (HBb.out.trans (HBd.out.mono HBb.out.size))
                have hKd := blk_on HKa.out HBad.out
                have b1 := blk_cell hKd 1
                have b2 := blk_cell hKd 2
                simp at b1 b2
                clear hr hbd a2 hKd
                go_wp2_with fail
                refine (give_z (fun k => k < wb.heap.size) g3 _ _ pt t _ wd HRd.out (fun k hk => Nat.lt_of_lt_of_le hk HBd.out.size) hpt ht rfl rfl).mono ?_
                rintro e we ⟨rfl, -, hbe⟩
                have HBe := Lib.hid (HBd.out.trans (hbe.below (fun k hk => Nat.le_of_not_lt hk) HBd.out.size))
                clear hbe b1 b2
                go_wp2_with fail
                go_meet
                case rel => exact ⟨gq, rfl, Lib.hid (.inr (HT.out.below HBe.out)), Lib.hid (HBb.out.trans (HBe.out.mono HBb.out.size))⟩
            · have hxb : decide (m % 60 ≤ (j : Int)) = false := decide_eq_false hx
              go_wp2_with fail
              go_meet
              case rel => exact ⟨gq, rfl, HMa, Lib.hid (Below.refl _ _)⟩
          case rest =>
            obtain ⟨gq', rfl, HMc, HBc⟩ := hcut
            have HKc := Lib.hid (blk_on HKa.out HBc.out)
            have HBwc := Lib.hid (HBa.out.trans (HBc.out.mono HBa.out.size))
            have HSc := Lib.hid (Nat.le_trans HSa.out HBc.out.size)
            have HZc := Lib.hid HBc.out.size
            have a0 := blk_cell HKc.out 0
            have a1 := blk_cell HKc.out 1
            have a2 := blk_cell HKc.out 2
            simp at a0 a1 a2
            clear HMa HBc HKa HBa
            go_upto_if 84 with (fail)
            go_cut [] (fun wx => ∃ s', Hid (Mode (ZA B zA) wx g gq' s') ∧ Hid (Below w.heap.size w wx) ∧ Hid (wx.heap[zA]? = some (.cells #[.int .i64 kd, .int .u16 pt, .int .u64 t] 36 (0, 0))) ∧ Hid (wa.heap.size ≤ wx.heap.size))
            case first =>
              by_cases hkd : kd = 1
              · have hkb : (kd == 1) = true := by simpa using hkd
                obtain ⟨x, ex⟩ : ∃ x, giveE s pt t = x := ⟨_, rfl⟩
                obtain ⟨s', es'⟩ : ∃ s', giveA s pt t = s' := ⟨_, rfl⟩
                have hxx : (x != x) = false := by simp
                clear hkd
                rcases id HMc.out with ⟨rfl, h1⟩ | h2
                · have Hg := Lib.hid (give_z _ gq' s s' pt t x wc h1 (HZ.out wc HZc.out) hpt ht ex es')
                  clear h1
                  go_wp2_with fail
                  refine Hg.out.mono ?_
                  rintro e wd ⟨rfl, hp, hb⟩
                  have heq := neq_same ⟨gq', 0, none⟩ wd
                  have HM4 := Lib.hid (show Mode (ZA B zA) wd gq' gq' s' from .inl ⟨rfl, hp⟩)
                  have HB4 := Lib.hid (HBwc.out.trans ((za_but hb HSc.out).mono hwB))
                  have HK4 := Lib.hid (za_act hb HKc.out)
                  have HZ4 := Lib.hid (Nat.le_trans HZc.out hb.size)
                  clear hp hb Hg
                  go_wp2_with fail
                  go_meet
                  case rel => exact ⟨s', HM4, HB4, HK4, HZ4⟩
                · have Hg := Lib.hid (give_two _ g gq' s s s' pt t x wc h2 (HZ.out wc HZc.out) hpt ht ex es')
                  clear h2
                  go_wp2_with fail
                  refine Hg.out.mono ?_
                  rintro e wd ⟨rfl, hp, hb⟩
                  have heq := hp.eql.2
                  have HB4 := Lib.hid (HBwc.out.trans ((za_but hb HSc.out).mono hwB))
                  have HS4 := Lib.hid (Nat.le_trans HSc.out hb.size)
                  have HK4 := Lib.hid (za_act hb HKc.out)
                  have HZ4 := Lib.hid (Nat.le_trans HZc.out hb.size)
                  have Hg2 := Lib.hid (give_two _ gq' g s s' s' pt t x wd hp.symm (HZ.out wd HZ4.out) hpt ht ex es')
                  have b1 := blk_cell HK4.out 1
                  have b2 := blk_cell HK4.out 2
                  simp at b1 b2
                  clear hp hb Hg a0 a1 a2
                  go_wp2_with fail
                  refine Hg2.out.mono ?_
                  rintro e we ⟨rfl, hp, hb⟩
                  have HM5 := Lib.hid (show Mode (ZA B zA) we g gq' s' from .inr hp.symm)
                  have HB5 := Lib.hid (HB4.out.trans ((za_but hb HS4.out).mono hwB))
                  have HK5 := Lib.hid (za_act hb HK4.out)
                  have HZ5 := Lib.hid (Nat.le_trans HZ4.out hb.size)
                  clear hp hb Hg2 b1 b2
                  go_wp2_with fail
                  go_meet
                  case rel => exact ⟨s', HM5, HB5, HK5, HZ5⟩
              · have hkb : (kd == 1) = false := by simpa using hkd
                obtain ⟨x, ex⟩ : ∃ x, takeE s t = x := ⟨_, rfl⟩
                obtain ⟨y, ey⟩ : ∃ y, takeP s t = y := ⟨_, rfl⟩
                obtain ⟨s', es'⟩ : ∃ s', takeA s t = s' := ⟨_, rfl⟩
                have hxx : (x != x) = false := by simp
                have hyy : (y != y) = false := by simp
                clear hkd
                rcases id HMc.out with ⟨rfl, h1⟩ | h2
                · have Hg := Lib.hid (take_z _ gq' s s' t y x wc h1 (HZ.out wc HZc.out) ht ey ex es')
                  clear h1
                  go_wp2_with fail
                  refine Hg.out.mono ?_
                  rintro e wd ⟨rfl, hp, hb⟩
                  have heq := neq_same ⟨gq', 0, none⟩ wd
                  have HM4 := Lib.hid (show Mode (ZA B zA) wd gq' gq' s' from .inl ⟨rfl, hp⟩)
                  have HB4 := Lib.hid (HBwc.out.trans ((za_but hb HSc.out).mono hwB))
                  have HK4 := Lib.hid (za_act hb HKc.out)
                  have HZ4 := Lib.hid (Nat.le_trans HZc.out hb.size)
                  clear hp hb Hg
                  go_wp2_with fail
                  go_meet
                  case rel => exact ⟨s', HM4, HB4, HK4, HZ4⟩
                · have Hg := Lib.hid (take_two _ g gq' s s s' t y x wc h2 (HZ.out wc HZc.out) ht ey ex es')
                  clear h2
                  go_wp2_with fail
                  refine Hg.out.mono ?_
                  rintro e wd ⟨rfl, hp, hb⟩
                  have heq := hp.eql.2
                  have HB4 := Lib.hid (HBwc.out.trans ((za_but hb HSc.out).mono hwB))
                  have HS4 := Lib.hid (Nat.le_trans HSc.out hb.size)
                  have HK4 := Lib.hid (za_act hb HKc.out)
                  have HZ4 := Lib.hid (Nat.le_trans HZc.out hb.size)
                  have Hg2 := Lib.hid (take_two _ gq' g s s' s' t y x wd hp.symm (HZ.out wd HZ4.out) ht ey ex es')
                  have b2 := blk_cell HK4.out 2
                  simp at b2
                  clear hp hb Hg a0 a1 a2
                  go_wp2_with fail
                  refine Hg2.out.mono ?_
                  rintro e we ⟨rfl, hp, hb⟩
                  have HM5 := Lib.hid (show Mode (ZA B zA) we g gq' s' from .inr hp.symm)
                  have HB5 := Lib.hid (HB4.out.trans ((za_but hb HS4.out).mono hwB))
                  have HK5 := Lib.hid (za_act hb HK4.out)
                  have HZ5 := Lib.hid (Nat.le_trans HZ4.out hb.size)
                  clear hp hb Hg2 b2
                  go_wp2_with fail
                  go_meet
                  case rel => exact ⟨s', HM5, HB5, HK5, HZ5⟩
            case rest =>
              obtain ⟨s', HMd, HBd, HKd, HZd⟩ := hcut
              have f1 := blk_cell HKd.out 1
              simp at f1
              have Hc1 := Lib.hid (fun k => count_q _ g s' (wc.drewN k) (HMd.out.p.below (below_drewN (Below.refl _ _) k)))
              have Hc2 := Lib.hid (fun k => count_q _ gq' s' (wc.drewN k) (HMd.out.q.below (below_drewN (Below.refl _ _) k)))
              have Hc3 := Lib.hid (fun k => taken_q _ g s' pt (wc.drewN k) (HMd.out.p.below (below_drewN (Below.refl _ _) k)) hpt)
              have Hc4 := Lib.hid (fun k => taken_q _ gq' s' pt (wc.drewN k) (HMd.out.q.below (below_drewN (Below.refl _ _) k)) hpt)
              obtain ⟨cn, ecn⟩ : ∃ cn, ((countA s' : Nat) : Int) = cn := ⟨_, rfl⟩
              obtain ⟨tk, etk⟩ : ∃ tk, takenA s' pt = tk := ⟨_, rfl⟩
              rw [ecn] at Hc1 Hc2
              rw [etk] at Hc3 Hc4
              have hcc : (cn != cn) = false := by simp
              have htt : (!(tk == tk)) = false := by simp
              clear ecn etk a0 a1 a2
              go_upto_region 25 with (fail)
              go_quiet (first | (with_reducible exact Calls.quiet_of (Hc1.out _)) | (with_reducible exact Calls.quiet_of (Hc2.out _)) | (with_reducible exact Calls.quiet_of (Hc3.out _)) | (with_reducible exact Calls.quiet_of (Hc4.out _)))
              go_wp2_with fail
              go_roundg (gk - 1)
              case measure => have := hgk.out; omega
              case rel => exact ⟨j + 1, gq', s', by have := hgk.out; show gk - 1 + (j + 1) = _; omega, by omega, by omega, by go_num, rfl, Lib.hid ((HMd.out.more (Z' := fun k => k < B) (fun k _ hk => .inl hk)).below (below_drewN (Below.refl _ _) nq)), Lib.hid (below_drewN HBd.out nq), Lib.hid (show B ≤ (wc.drewN nq).heap.size from Nat.le_trans HSa.out HZd.out)⟩
      · obtain rfl : n = j := by omega
        go_wp2_with fail
        refine (poolwake_any wr).mono ?_
        rintro e w4 ⟨rfl, hb4⟩
        have HB4 := Lib.hid (HB.out.trans (hb4.mono HB.out.size))
        clear hb4
        go_wp2_with fail
        go_ret
        exact ⟨rfl, HB4.out⟩
theorem own : ownKnob Try.prog.godebug = none := by kernel_rfl
theorem laidOut : laidOutB Try.prog = true := by kernel_rfl

set_option maxRecDepth 100000 in
theorem lifted (os : Os) (started : os.Started) (H : Type) (enc : TypeId × Value → H) :
    ReturnsInHanded {} Try.checked os 5 .any (Rows.poolApartSpec.pre6 enc Try.prog Try.f5 Rows.poolApartRow.domain false) (Rows.poolApartSpec.post enc Try.prog Try.f5 false true false false) := by
  refine returnsInHanded_of_change (C := Try.checked) own started (by kernel_rfl) Try.func5
    (ChangeSpec.witness6 (enc := enc) (C := Try.checked) false ⟨#[], #[(.agg #[.int .u16 0, .int .u16 0, .int .u64 0]), (.slice none 0 0), .int .u8 0], []⟩ 8 (by kernel_rfl) (by kernel_rfl) (by kernel_rfl) (by kernel_rfl)) ?_
  intro W base args ds gs before hval0 hW hcnd _
  have hval : ∀ (j : Nat) t v, Try.f5.params[j]? = some t → args[j]? = some v → Value.okWide Try.prog W .any base t v := hval0
  have hW' := hW
  obtain ⟨p, q, hA0, hV, rfl, hfz, hnd⟩ := hW
  have hA : DataW.TrodAll enc Try.prog W 0 (fun _ => true) true Try.f5.params.toList args.toList ds p := hA0
  rw [Try.params5] at hA hval
  obtain ⟨v0, vs0, d0, ds0, p0, q0, hargs, rfl, rfl, h0, r0⟩ := trodAll_cons hA
  obtain ⟨v1, vs1, d1, ds1, p1, q1, rfl, rfl, rfl, h1, r1⟩ := trodAll_cons r0
  obtain ⟨v2, vs2, d2, ds2, p2, q2, rfl, rfl, rfl, h2, r2⟩ := trodAll_cons r1
  obtain ⟨rfl, rfl, rfl⟩ := trodAll_nil r2
  obtain rfl : args = #[v0, v1, v2] := by cases args; simp_all
  obtain ⟨rfl, rfl⟩ := trodVars_none hV
  have k0 := pends_open (hval 0 25 v0 rfl rfl) h0
  have lt0 : ∀ x ∈ p0, x.block < W.heap.size := by obtain ⟨m, hm⟩ := h0; exact DataW.trod_lt m _ _ _ hm
  have k1 := acts_open (hval 1 26 v1 rfl rfl) h1
  have lt1 : ∀ x ∈ p1, x.block < W.heap.size := by obtain ⟨m, hm⟩ := h1; exact DataW.trod_lt m _ _ _ hm
  obtain ⟨a2, rfl, rfl, rfl, w2⟩ := open_int Try.underlying5 (hval 2 5 v2 rfl rfl) h2
  clear hA0 hval0
  refine (walk W v0 k0 v1 k1 a2 w2).mono fun e W' ⟨he, bel⟩ => ?_
  subst he
  exact ⟨_, rfl, _, _, _, [], _, [], hW', trodAll_mk1 (shut_bool Try.underlying4 _), (trodAll_cons_mk (Below.trod laidOut (by kernel_rfl) (of_decide_eq_true (by kernel_rfl)) h0 bel lt0) (trodAll_cons_mk (Below.trod laidOut (by kernel_rfl) (of_decide_eq_true (by kernel_rfl)) h1 bel lt1) (trodAll_cons_mk (shut_int Try.underlying5 w2) trodAll_mk0))), rfl, bel.frame _, fun h => by cases h⟩

theorem over : Rows.poolApartRow.holds Try.pinned (OpenSpec.ofChange Rows.poolApartSpec) :=
  OpenClaim.holds_of_wide 5 Try.f5 rfl rfl rfl rfl rfl rfl rfl ⟨rfl, rfl, rfl, rfl, rfl⟩ rfl rfl rfl rfl rfl (by kernel_rfl) Try.func5 (by kernel_rfl)
    (of_decide_eq_true (by kernel_rfl)) (by unfold Func.isWrapper; first | (rw [if_pos (by decide +kernel)]; kernel_rfl) | (rw [if_neg (by decide +kernel)]; exact ⟨rfl, rfl⟩))
    (fun os started H enc _ => lifted os started H enc)

/-- The statement. -/
theorem proved : Rows.PoolApartSaid := over
#print axioms proved
end Go.Proofs.Ytlifldionfoddaa.poolApart
