/-
  PoolOnce holds: no port is told while it is taken, nor before its rest is over; if none is told, none is free; taken, free and at rest are all, for any ends, any calls.
-/
import Derived.Test.YtlifldionfoddaaPoolZ
import Derived.Test.YtlifldionfoddaaPoolOpen
import Derived.Test.YtlifldionfoddaaPoolOnceP
import Derived.Deep.CutRange
import Derived.Deep.LoopGhost
import Derived.BigRegion
namespace Go.Proofs.Ytlifldionfoddaa.poolOnce
set_option maxRecDepth 10000
open Go.ChangeShapes Go.WideShapes Go.ChangeAt Go.RowKit
open Go.ChangeMaps (setBlock)
set_option linter.unusedVariables false
set_option linter.unusedSimpArgs false

theorem ends_set {w : World} {z : Nat} {a b c : Value} {T : TypeId} (h : w.heap[z]? = some (.cells #[a, b, c] T (0, 0))) (x y t : Value) :
    (((w.setCell ⟨z, 0, none⟩ x).setCell ⟨z, 1, none⟩ y).setCell ⟨z, 2, none⟩ t).heap[z]? = some (.cells #[x, y, t] T (0, 0)) ∧ But (fun k => k = z) w (((w.setCell ⟨z, 0, none⟩ x).setCell ⟨z, 1, none⟩ y).setCell ⟨z, 2, none⟩ t) := by
  refine ⟨?_, (((But.refl (fun k => k = z) w).setCell (p := ⟨z, 0, none⟩) rfl _).setCell (p := ⟨z, 1, none⟩) rfl _).setCell (p := ⟨z, 2, none⟩) rfl _⟩
  have := heap_setCell_at (heap_setCell_at (heap_setCell_at h 0 x) 1 y) 2 t
  simpa using this
def ZO (B b1 b2 : Nat) : Nat → Prop := fun k => k < B ∨ (k = b1 ∨ k = b2)
structure OnceAt (w wr : World) (B b1 b2 z g : Nat) (lo H r2 : Int) (n0 : Nat) (sp s : AP) (now : Int) (K : Int → Prop) : Prop where
  hl : s.lo = lo
  hn : s.n = n0
  hr : s.rest = r2
  pool : PZ (ZO B b1 b2) wr g sp
  m1 : MapP wr b1 (KT s) (fun _ => .int .i64 1)
  m2 : MapP wr b2 K (untilV s)
  be : Beside s now K
  box : wr.heap[z]? = some (.cells #[.int .u16 lo, .int .u16 H, .int .u64 r2] 25 (0, 0))
  bel : Below w.heap.size w wr
  hB : B ≤ wr.heap.size
  lows : w.heap.size ≤ B ∧ z < B ∧ B ≤ b1 ∧ B ≤ b2 ∧ b1 ≠ b2
section
variable {w wr w' : World} {B b1 b2 z g : Nat} {lo H r2 : Int} {n0 : Nat} {sp s : AP} {now : Int} {K : Int → Prop}
theorem OnceAt.below (h : OnceAt w wr B b1 b2 z g lo H r2 n0 sp s now K) (hb : Below wr.heap.size wr w') : OnceAt w w' B b1 b2 z g lo H r2 n0 sp s now K :=
  ⟨h.hl, h.hn, h.hr, h.pool.below hb, h.m1.but (But.of (S := fun _ => False) hb) (fun x => x), h.m2.but (But.of (S := fun _ => False) hb) (fun x => x), h.be, blk_on h.box hb, h.bel.trans (hb.mono h.bel.size), Nat.le_trans h.hB hb.size, h.lows⟩
theorem OnceAt.later (h : OnceAt w wr B b1 b2 z g lo H r2 n0 sp s now K) {t : Int} (ht : now ≤ t) : OnceAt w wr B b1 b2 z g lo H r2 n0 sp s t K :=
  ⟨h.hl, h.hn, h.hr, h.pool, h.m1, h.m2, h.be.later ht, h.box, h.bel, h.hB, h.lows⟩
theorem OnceAt.low (h : OnceAt w wr B b1 b2 z g lo H r2 n0 sp s now K) : ∀ k, ZO B b1 b2 k → k < wr.heap.size := by
  intro k hk
  have h1 := h.m1.lt; have h2 := h.m2.lt; have h3 := h.hB
  rcases hk with hk | hk | hk <;> omega
/-- The pool's own call: the maps stay. -/
theorem OnceAt.called (h : OnceAt w wr B b1 b2 z g lo H r2 n0 sp s now K) {sp' : AP} {v : Value} {e : Ending} (hd : ZDoes (ZO B b1 b2) g sp' v wr e w') : OnceAt w w' B b1 b2 z g lo H r2 n0 sp' s now K := by
  obtain ⟨_, hp, hb⟩ := hd
  have hl := h.lows
  exact ⟨h.hl, h.hn, h.hr, hp, h.m1.but hb (fun x => x (.inr (.inl rfl))), h.m2.but hb (fun x => x (.inr (.inr rfl))), h.be, hb.blk h.box (fun x => x (.inl hl.2.1)), h.bel.trans (hb.below (fun k hk => by unfold ZO at hk; omega) h.bel.size), Nat.le_trans h.hB hb.size, hl⟩
/-- The clock has come to now. -/
theorem OnceAt.at_ (h : OnceAt w wr B b1 b2 z g lo H r2 n0 (atA s now) s now K) : OnceAt w wr B b1 b2 z g lo H r2 n0 (atA s now) (atA s now) now K :=
  ⟨h.hl, h.hn, h.hr, h.pool, h.m1, h.m2, h.be.at_, h.box, h.bel, h.hB, h.lows⟩
/-- A port is taken out of the first map, and its rest laid into the second one. -/
theorem OnceAt.gave (h0 : 0 ≤ now) (hr : 0 ≤ r2) {i : Nat} (hi : i < s.n) (ht : s.tk i = true) (h : OnceAt w wr B b1 b2 z g lo H r2 n0 (giveI (atA s now) i) s now K) (ty : TypeId) :
    ∃ wd we, (Builtin.delete_ #[33, 22] ty #[.map (some b1), .int .u16 (lo + (i : Int))]).run Try.prog wr = .ok (.tuple #[]) wd ∧ wd.heap[z]? = some (.cells #[.int .u16 lo, .int .u16 H, .int .u64 r2] 25 (0, 0)) ∧
      (Instr.mapUpdate 34 (.map (some b2)) (.int .u16 (lo + (i : Int))) (.int .u64 (now + r2))).run Try.prog wd = .ok () we ∧ OnceAt w we B b1 b2 z g lo H r2 n0 (giveI (atA s now) i) (giveI (atA s now) i) now (fun a => a = s.lo + (i : Int) ∨ K a) := by
  have hl := h.lows
  have hlo := h.hl
  obtain ⟨wd, hrd, hmd, hbd⟩ := h.m1.del_i (e := lo + (i : Int)) ⟨i, hi, ht, by rw [hlo]⟩ ty
  have hbd2 : MapP wd b2 K (untilV s) := h.m2.but hbd (fun e => hl.2.2.2.2 e.symm)
  obtain ⟨we, hre, hme, hbe⟩ := hbd2.put_u (lo + (i : Int)) (.int .u64 (now + r2))
  have hzd := hbd.blk h.box (show ¬ z = b1 by omega)
  have hall : But (fun k => k = b1 ∨ k = b2) wr we := (hbd.mono (fun k _ hk => .inl hk)).trans (hbe.mono (fun k _ hk => .inr hk))
  refine ⟨wd, we, hrd, hzd, hre, ⟨hlo, h.hn, h.hr, h.pool.but hall (fun k hk => .inr hk), ?_, ?_, h.be.give h0 (by rw [h.hr]; exact hr) hi, hbe.blk hzd (show ¬ z = b2 by omega), h.bel.trans (hall.below (fun k hk => by omega) h.bel.size), Nat.le_trans h.hB hall.size, hl⟩⟩
  · refine (hmd.but hbe (show ¬ b1 = b2 from hl.2.2.2.2)).congr (fun a => ?_) (fun _ _ => rfl)
    rw [← hlo]
    exact give_kt s now i a
  · refine hme.congr (fun a => by rw [hlo]) (fun a ha => ?_)
    have := give_until s h.be.le i a (by
      rcases ha with rfl | ha
      · exact .inl (by rw [hlo])
      · obtain ⟨j, _, hj⟩ := h.be.key a ha
        exact .inr ⟨j, hj⟩)
    rw [hlo, h.hr] at this
    exact this
/-- A port is laid into the first map. -/
theorem OnceAt.took {i : Nat} (hi : i < s.n) (h : OnceAt w wr B b1 b2 z g lo H r2 n0 (takeI s i) s now K) :
    ∃ we, (Instr.mapUpdate 33 (.map (some b1)) (.int .u16 (lo + (i : Int))) (.int .i64 1)).run Try.prog wr = .ok () we ∧ OnceAt w we B b1 b2 z g lo H r2 n0 (takeI s i) (takeI s i) now K := by
  have hl := h.lows
  have hlo := h.hl
  obtain ⟨we, hre, hme, hbe⟩ := h.m1.put_i (lo + (i : Int)) (.int .i64 1)
  refine ⟨we, hre, ⟨hlo, h.hn, h.hr, h.pool.but hbe (fun k hk => .inr (.inl hk)), ?_, h.m2.but hbe (fun e => hl.2.2.2.2 e.symm), h.be.take i, hbe.blk h.box (show ¬ z = b1 by omega), h.bel.trans (hbe.below (fun k hk => by omega) h.bel.size), Nat.le_trans h.hB hbe.size, hl⟩⟩
  refine hme.congr (fun a => ?_) (fun a _ => ?_)
  · rw [← hlo]; exact take_kt s i hi a
  · split <;> rfl
end
theorem entries_le {s : AP} {now : Int} {w : World} {b : Nat} {K : Int → Prop} {R : Int → Value} {es : Array MapEntry} {clock : Nat} (hb : Beside s now K) (hm : MapN w b K R es clock) : es.size ≤ s.n := by
  have h := entries_cnt (lo := s.lo) (n := s.n) (p := fun i => @decide (K (s.lo + (i : Int))) (Classical.propDecidable _)) es.toList hm.st.2.2 (fun x hx => by
    obtain ⟨e, hK, hk, _⟩ := hm.ent x hx
    obtain ⟨i, hi, rfl⟩ := hb.key e hK
    exact ⟨i, hk, hi, by simpa using hK⟩) (fun i hi hp => hm.key _ (by simpa using hp))
  have h2 := cnt_le s.n (fun i => @decide (K (s.lo + (i : Int))) (Classical.propDecidable _))
  rw [← h] at h2
  simpa using h2
theorem seenC_le (s : AP) (now : Int) (es : Array MapEntry) (seen : Array Nat) : seenC s now es seen ≤ es.size := by
  unfold seenC
  have := List.countP_le_length (p := fun x => seen.contains x.born && restE s now x) (l := es.toList)
  simpa using this
set_option maxHeartbeats 4000000 in
theorem walk (w : World) (v : Value) (hv : PEndsAt w v) (va : Value) (hva : ActsAt w va) :
    Calls Try.prog 3 #[v, va] w fun e w' => e = .returned (.bool true) ∧ Below w.heap.size w w' := by
  obtain ⟨lo, hi, rest, rfl, hlo, hhi, hrest⟩ := hv
  obtain ⟨A, n, c, rfl, hnc, hcm, hrd⟩ := hva
  obtain ⟨H, eH⟩ : ∃ H, fitH lo hi = H := ⟨_, rfl⟩
  have hHb := fitH_bd hlo hhi
  have hH40 := fitH_40 (lo := lo) (hi := hi)
  rw [eH] at hHb hH40
  have Hfit := Lib.hid (fun W => fit_any lo hi rest W hlo hhi)
  unfold FitIs at Hfit
  rw [eH] at Hfit
  clear eH
  have Hrd := Lib.hid hrd
  obtain ⟨r2, er2⟩ : ∃ r2, rest % 1001 = r2 := ⟨_, rfl⟩
  have hr2 : 0 ≤ r2 ∧ r2 ≤ 1000 := by omega
  obtain ⟨z, hz⟩ : ∃ z, w.heap.size = z := ⟨_, rfl⟩
  obtain ⟨w0, ew0⟩ : ∃ w0, w.alloc (.cells #[.int .u16 lo, .int .u16 hi, .int .u64 rest] 25) = w0 := ⟨_, rfl⟩
  have HB0 := Lib.hid (show Below w.heap.size w w0 by rw [← ew0]; exact (Below.refl _ _).alloc (Nat.le_refl _) _)
  have hk0 : w0.heap[z]? = some (.cells #[.int .u16 lo, .int .u16 hi, .int .u64 rest] 25 (0, 0)) := by rw [← ew0, ← hz]; exact heap_alloc_new w _
  have HK0 := Lib.hid hk0
  have d0 := blk_cell hk0 0
  have d1 := blk_cell hk0 1
  have d2 := blk_cell hk0 2
  simp at d0 d1 d2
  clear hk0 hrd
  go_enter Try.func3, Try.ntmps3
  go_wp2_with fail
  refine (Hfit.out w0).mono ?_
  rintro e w1 ⟨rfl, hb1⟩
  have hk1 := blk_on HK0.out hb1
  have c0 := blk_cell hk1 0
  have c1 := blk_cell hk1 1
  have c2 := blk_cell hk1 2
  simp at c0 c1 c2
  have cf := blk_free hk1
  clear d0 d1 d2
  go_upto_region 3 with (fail)
  obtain ⟨hk2, hb2⟩ := ends_set hk1 (.int .u16 lo) (.int .u16 H) (.int .u64 rest)
  have hk3 := heap_setCell_at hk2 2 (.int .u64 r2)
  have hb3 := hb2.setCell (p := ⟨z, 2, none⟩) rfl (.int .u64 r2)
  obtain ⟨w2, ew2⟩ : ∃ w2, (((w1.setCell ⟨z, 0, none⟩ (.int .u16 lo)).setCell ⟨z, 1, none⟩ (.int .u16 H)).setCell ⟨z, 2, none⟩ (.int .u64 rest)).setCell ⟨z, 2, none⟩ (.int .u64 r2) = w2 := ⟨_, rfl⟩
  rw [ew2] at hk3 hb3 ⊢
  simp only [List.setIfInBounds_toArray, List.set_cons_succ, List.set_cons_zero] at hk3
  have HB2 := Lib.hid (show Below w.heap.size w w2 from (HB0.out.trans (hb1.mono HB0.out.size)).trans (hb3.below (fun k hk => by omega) (HB0.out.trans (hb1.mono HB0.out.size)).size))
  have HK2 := Lib.hid hk3
  have e0 := blk_cell hk3 0
  have e1 := blk_cell hk3 1
  have e2 := blk_cell hk3 2
  simp at e0 e1 e2
  clear ew2 hk1 hk2 hb2 hk3 hb3 hb1 c0 c1 c2 cf HB0 HK0
  cases hbad : badA lo H r2 with
  | true =>
    have hbd := hbad
    unfold badA at hbd
    simp only [Bool.or_eq_true, decide_eq_true_eq] at hbd
    have Hn := Lib.hid (new_bad lo H r2 w2 hlo hHb (by omega) hbad)
    clear hbad
    by_cases ha : lo = 0
    · have ha2 : (lo == 0) = true := by simpa using ha
      clear hbd ha
      go_wp2_with fail
      refine Hn.out.mono ?_
      rintro e w3 ⟨rfl, hb3⟩
      have HB3 := Lib.hid (HB2.out.trans (hb3.mono HB2.out.size))
      have HK3 := Lib.hid (blk_on HK2.out hb3)
      clear hb3 e0 e1 e2
      go_wp2_with fail
      refine (poolwake_any w3).mono ?_
      rintro e w4 ⟨rfl, hb4⟩
      have HB4 := Lib.hid (HB3.out.trans (hb4.mono HB3.out.size))
      have HK4 := blk_on HK3.out hb4
      have x0 := blk_cell HK4 0
      have x1 := blk_cell HK4 1
      simp at x0 x1
      clear hb4 HK4
      go_wp2_with fail
      go_ret
      exact ⟨rfl, HB4.out⟩
    · have ha2 : (lo == 0) = false := by simpa using ha
      have hx : H < lo := by
        rcases hbd with h | h | h
        · exact absurd h ha
        · exact h
        · unfold bigT at h; omega
      have hb2 : decide (H < lo) = true := decide_eq_true hx
      clear hbd ha
      go_wp2_with fail
      refine Hn.out.mono ?_
      rintro e w3 ⟨rfl, hb3⟩
      have HB3 := Lib.hid (HB2.out.trans (hb3.mono HB2.out.size))
      have HK3 := Lib.hid (blk_on HK2.out hb3)
      clear hb3 e0 e1 e2
      go_wp2_with fail
      refine (poolwake_any w3).mono ?_
      rintro e w4 ⟨rfl, hb4⟩
      have HB4 := Lib.hid (HB3.out.trans (hb4.mono HB3.out.size))
      have HK4 := blk_on HK3.out hb4
      have x0 := blk_cell HK4 0
      have x1 := blk_cell HK4 1
      simp at x0 x1
      clear hb4 HK4
      go_wp2_with fail
      go_ret
      exact ⟨rfl, HB4.out⟩
  | false =>
    have hbd := hbad
    unfold badA at hbd
    simp only [Bool.or_eq_false_iff, decide_eq_false_iff_not] at hbd
    obtain ⟨n0, hn0⟩ : ∃ n0 : Nat, H - lo + 1 = n0 := ⟨(H - lo + 1).toNat, by omega⟩
    obtain ⟨s0, es0⟩ : ∃ s0, newA lo H r2 = s0 := ⟨_, rfl⟩
    have Hnew := Lib.hid (new_own lo H r2 s0 w2 hlo hHb (by omega) hbad es0)
    have hs0 : s0.lo = lo ∧ s0.n = n0 ∧ s0.rest = r2 ∧ s0.now = 0 ∧ (∀ i, s0.tk i = false) ∧ ∀ i, s0.un i = 0 := by
      rw [← es0]
      exact ⟨rfl, by show (H - lo + 1).toNat = n0; omega, rfl, rfl, fun _ => rfl, fun _ => rfl⟩
    clear hbad es0
    go_wp2_with fail
    refine Hnew.out.mono ?_
    rintro e w3 ⟨g, rfl, hp, hb3⟩
    obtain ⟨B, eB⟩ : ∃ B, w2.heap.size = B := ⟨_, rfl⟩
    have hwB : w.heap.size ≤ B := by rw [← eB]; exact HB2.out.size
    have hzB : z < B := by rw [← eB]; exact lt_of_block HK2.out
    obtain ⟨b1, eb1⟩ : ∃ b1, w3.heap.size = b1 := ⟨_, rfl⟩
    obtain ⟨w4, ew4⟩ : ∃ w4, w3.alloc (.map #[] 0) = w4 := ⟨_, rfl⟩
    obtain ⟨w5, ew5⟩ : ∃ w5, w4.alloc (.map #[] 0) = w5 := ⟨_, rfl⟩
    have hm1 := run_makeMap_plain (P := Try.prog) w3 33
    have hm2 := run_makeMap_plain (P := Try.prog) w4 34
    have hz4 : w4.heap.size = b1 + 1 := by rw [← ew4, ← eb1]; simp
    rw [eb1, ew4] at hm1
    rw [hz4, ew5] at hm2
    have HO5 := Lib.hid (show OnceAt w w5 B b1 (b1 + 1) z g lo H r2 n0 s0 s0 0 (fun _ => False) by
      have hB3 : B ≤ b1 := by rw [← eB, ← eb1]; exact hb3.size
      have hb35 : Below w3.heap.size w3 w5 := by rw [← ew5, ← ew4]; exact ((Below.refl _ _).alloc (Nat.le_refl _) _).alloc (by simp) _
      have hb45 : But (fun _ => False) w4 w5 := by rw [← ew5]; exact (But.refl _ _).alloc _
      have hp3 : PZ (ZO B b1 (b1 + 1)) w3 g s0 := by
        obtain ⟨S, h1, h2⟩ := hp
        refine ⟨S, h1, fun k hk hz => ?_⟩
        have h3 := h2 k hk
        have h4 := h1.lt k hk
        rcases hz with hz | hz | hz <;> omega
      refine ⟨hs0.1, hs0.2.1, hs0.2.2.1, hp3.below hb35, ?_, ?_, ⟨by rw [hs0.2.2.2.1]; exact Int.le_refl _, fun i _ => by rw [hs0.2.2.2.2.2]; exact Int.le_refl _, fun i _ _ => hs0.2.2.2.2.2 i, fun e he => he.elim⟩, blk_on (blk_on HK2.out hb3) hb35, HB2.out.trans ((hb3.trans (hb35.mono hb3.size)).mono HB2.out.size), ?_, ?_⟩
      · have h1 := MapP.made w3 (fun _ => .int .i64 1) b1 eb1
        rw [ew4] at h1
        refine (h1.but hb45 (fun x => x)).congr (fun e => ⟨fun x => x.elim, fun ⟨i, _, ht, _⟩ => by rw [hs0.2.2.2.2.1] at ht; cases ht⟩) (fun _ _ => rfl)
      · have h1 := MapP.made w4 (untilV s0) (b1 + 1) hz4
        rw [ew5] at h1
        exact h1
      · have := hb35.size; omega
      · exact ⟨hwB, hzB, hB3, by omega, by omega⟩)
    clear hp hb3 Hnew e0 e1 e2 HB2 HK2 eB eb1 ew4 ew5 hz4 hs0
    obtain ⟨b2, eb2⟩ : ∃ b2, b1 + 1 = b2 := ⟨_, rfl⟩
    rw [eb2] at HO5 hm2
    go_wp2_with fail
    clear hm1 hm2
    go_loopg [9, 55] n (fun gk t9 i wr => ∃ (j : Nat) (s : AP) (now : Int) (K : Int → Prop), Hid (gk + j = n) ∧ j ≤ n ∧ j ≤ 200 ∧ i = .int .i64 (j : Int) ∧ t9 = .int .u64 now ∧ (0 ≤ now ∧ now ≤ 1000 * (j : Int)) ∧ Hid (OnceAt w wr B b1 b2 z g lo H r2 n0 s s now K))
    case atStart => exact ⟨0, s0, 0, _, rfl, Nat.zero_le _, by omega, rfl, rfl, ⟨Int.le_refl _, by omega⟩, HO5⟩
    case round =>
      obtain ⟨j, s, now, K, hgk, hj, hj200, rfl, rfl, hnow, HO⟩ := hrel
      by_cases hjn : j < n
      · obtain ⟨b, pp, kd, pt, t, hidx, hbl, hc0, hc1, hc2, hpt, ht⟩ := (Hrd.out.below HO.out.bel).index (c := c) hjn
        have i0 : (0 : Int) ≤ (j : Int) := by omega
        have i1 : (j : Int) < (n : Int) := by omega
        obtain ⟨zA, ezA⟩ : ∃ zA, wr.heap.size = zA := ⟨_, rfl⟩
        obtain ⟨wa, ewa⟩ : ∃ wa, wr.alloc (.cells #[.int .i64 kd, .int .u16 pt, .int .u64 t] 36) = wa := ⟨_, rfl⟩
        have hba : Below wr.heap.size wr wa := by rw [← ewa]; exact (Below.refl _ _).alloc (Nat.le_refl _) _
        have HKa := Lib.hid (show wa.heap[zA]? = some (.cells #[.int .i64 kd, .int .u16 pt, .int .u64 t] 36 (0, 0)) by rw [← ewa, ← ezA]; exact heap_alloc_new wr _)
        have htm := Int.emod_nonneg t (show (1000 : Int) ≠ 0 by omega)
        have htm2 := Int.emod_lt_of_pos t (show (0 : Int) < 1000 by omega)
        obtain ⟨nw, enw⟩ : ∃ nw, now + t % 1000 = nw := ⟨_, rfl⟩
        have hnw : 0 ≤ nw ∧ nw ≤ 1000 * ((j + 1 : Nat) : Int) := by omega
        have qn : IntKind.u64.wrap (now + t % 1000) = nw := by rw [enw]; simp [IntKind.wrap, IntKind.bits, IntKind.signed]; omega
        have HOa := Lib.hid ((HO.out.below hba).later (t := nw) (by omega))
        clear hba HO
        go_upto_region 11 with (fail)
        clear ewa ezA hidx hc0 hc1 hc2 i0 i1 hbl
        by_cases h200 : j = 200
        · subst h200
          go_wp2_with fail
          refine (poolwake_any wa).mono ?_
          rintro e w6 ⟨rfl, hb6⟩
          have HB6 := Lib.hid ((HOa.out.below hb6).bel)
          clear hb6
          go_wp2_with fail
          go_ret
          exact ⟨rfl, HB6.out⟩
        · have h200b : ((j : Int) == 200) = false := by simp; omega
          have a0 := blk_cell HKa.out 0
          have a1 := blk_cell HKa.out 1
          have a2 := blk_cell HKa.out 2
          have z0 := blk_cell HOa.out.box 0
          simp at a0 a1 a2 z0
          by_cases hkd : kd = 1
          · have hkb : (kd == 1) = true := by simpa using hkd
            obtain ⟨p, ep⟩ : ∃ p, IntKind.u16.wrap (lo + pt % 40) = p := ⟨_, rfl⟩
            have hpb : 0 ≤ p ∧ p < 65536 := by rw [← ep]; simp [IntKind.wrap, IntKind.bits, IntKind.signed]; omega
            have htk := kt_taken s p
            clear hkd
            cases htp : takenA s p with
            | true =>
              obtain ⟨i, hin, hti, hpi⟩ := htk.2 htp
              have hlo' := HOa.out.hl
              rw [hlo'] at hpi
              have hgE : giveE s p nw = 0 := by unfold giveE; rw [if_neg (by unfold bigT; omega), if_pos htp]
              have hgA : giveA s p nw = giveI (atA s nw) i := by
                unfold giveA
                rw [if_neg (by unfold bigT; omega), if_pos htp, hlo', show (p - lo).toNat = i by omega]
              have Hg := Lib.hid (give_z _ g s _ p nw 0 wa HOa.out.pool HOa.out.low hpb (by omega) hgE hgA)
              have Hpi := Lib.hid hpi
              clear hgE hgA htp htk hpi
              go_wp2_with fail
              refine Hg.out.mono ?_
              rintro e w6 hd
              obtain ⟨rfl, hd1, hd2⟩ := id hd
              have HO6 := Lib.hid (HOa.out.called hd)
              have hlk := HO6.out.m1.look_i (e := p) ⟨i, hin, hti, by rw [hlo']; exact Hpi.out⟩
              obtain ⟨wd, we, hr1, hz1, hr2', HO7⟩ := HO6.out.gave hnw.1 hr2.1 hin hti 0
              rw [← Hpi.out] at hr1 hr2'
              have zz2 := blk_cell hz1 2
              simp at zz2
              have q7 : IntKind.u64.wrap (nw + r2) = nw + r2 := by simp [IntKind.wrap, IntKind.bits, IntKind.signed]; omega
              have HO8 := Lib.hid HO7
              clear hd hd1 hd2 Hg HO7 hz1 a0 a1 a2 z0
              go_wp2_with fail
              go_roundg (gk - 1)
              case measure => have := hgk.out; omega
              case rel => exact ⟨j + 1, _, nw, _, by have := hgk.out; show gk - 1 + (j + 1) = _; omega, by omega, by omega, by go_num, rfl, hnw, HO8⟩
            | false =>
              have hno : ¬ KT s p := fun h => by rw [htk.1 h] at htp; cases htp
              have hgE : giveE s p nw = 6 := by unfold giveE; rw [if_neg (by unfold bigT; omega), htp]; rfl
              have hgA : giveA s p nw = s := by unfold giveA; rw [if_neg (by unfold bigT; omega), htp]; rfl
              have Hg := Lib.hid (give_z _ g s _ p nw 6 wa HOa.out.pool HOa.out.low hpb (by omega) hgE hgA)
              clear hgE hgA htp htk
              go_wp2_with fail
              refine Hg.out.mono ?_
              rintro e w6 hd
              obtain ⟨rfl, hd1, hd2⟩ := id hd
              have HO6 := Lib.hid (HOa.out.called hd)
              have hlk := HO6.out.m1.look_no_i hno
              clear hd hd1 hd2 Hg a0 a1 a2 z0 hno
              go_wp2_with fail
              go_roundg (gk - 1)
              case measure => have := hgk.out; omega
              case rel => exact ⟨j + 1, _, nw, _, by have := hgk.out; show gk - 1 + (j + 1) = _; omega, by omega, by omega, by go_num, rfl, hnw, HO6⟩
          · have hkb : (kd == 1) = false := by simpa using hkd
            clear hkd
            obtain ⟨s1, es1⟩ : ∃ s1, atA s nw = s1 := ⟨_, rfl⟩
            have hs1now : s1.now = nw := by rw [← es1]; exact atA_le HOa.out.be.le
            have hs1n : s1.n = n0 := by rw [← es1]; exact HOa.out.hn
            have hs1lo : s1.lo = lo := by rw [← es1]; exact HOa.out.hl
            have hbT : nw ≤ bigT := by unfold bigT; omega
            obtain ⟨ft1, ft2, ft3⟩ := free_take hs1now hbT
            obtain ⟨F, eF⟩ : ∃ F, cnt s1.n (freeAt s1) = F := ⟨_, rfl⟩
            have hthree := three s1 nw hs1now
            rw [eF] at ft1 ft3 hthree
            have hfx : freeN s nw = F ∧ freeA s nw = s1 := by
              unfold freeN freeA
              rw [if_neg (by omega), if_neg (by omega), es1]
              exact ⟨by rw [← eF, ← es1]; rfl, rfl⟩
            have Hf := Lib.hid (free_z _ g s s1 nw F wa HOa.out.pool HOa.out.low (by omega) hfx.1 hfx.2)
            have HF3 := Lib.hid ft3
            have Hthree := Lib.hid hthree
            have Hs1now := Lib.hid hs1now
            have Hs1n := Lib.hid hs1n
            have Hs1lo := Lib.hid hs1lo
            clear ft1 ft2 ft3 eF hfx hthree hs1now hs1n hs1lo
            go_wp2_with fail
            refine Hf.out.mono ?_
            rintro e w6 hd
            obtain ⟨rfl, hd1, hd2⟩ := id hd
            have HO6 := Lib.hid (show OnceAt w w6 B b1 b2 z g lo H r2 n0 s1 s1 nw K by
              have h1 := HOa.out.called hd
              rw [← es1] at h1 ⊢
              exact h1.at_)
            obtain ⟨es, clock, hM⟩ := HO6.out.m2
            have HMN := Lib.hid hM
            have hrange := run_range_map (P := Try.prog) w6 34 22 23 b2 es clock Try.underlying34 hM.at_
            obtain ⟨r, er⟩ : ∃ r, w6.heap.size = r := ⟨_, rfl⟩
            obtain ⟨w7, ew7⟩ : ∃ w7, w6.alloc (.mapIter (some b2) clock #[] clock) = w7 := ⟨_, rfl⟩
            have HB67 := Lib.hid (show Below w6.heap.size w6 w7 by rw [← ew7]; exact (Below.refl _ _).alloc (Nat.le_refl _) _)
            have HI7 := Lib.hid (show w7.heap[r]? = some (.mapIter (some b2) clock #[] clock) by rw [← ew7, ← er]; exact heap_alloc_new w6 _)
            have hrl : w6.heap.size ≤ r := by omega
            rw [er, ew7] at hrange
            clear hd hd1 hd2 Hf hM ew7 er a0 a1 a2 z0 es1 HOa
            go_wp2_with fail
            clear hrange
            have hgk' := Lib.hid hgk.out
            clear hgk
            have Hesn := Lib.hid (show es.size ≤ n0 by have := entries_le HO6.out.be HMN.out; rw [Hs1n.out] at this; exact this)
            go_loopg [15] (leftOf es #[]).size (fun gi c wr2 => ∃ seen, Hid ((leftOf es seen).size = gi) ∧ c = .int .i64 ((seenC s1 nw es seen : Nat) : Int) ∧ Hid (Below w6.heap.size w6 wr2) ∧ Hid (wr2.heap[r]? = some (.mapIter (some b2) clock seen clock)))
            case atStart => exact ⟨#[], rfl, by rw [seenC_none]; rfl, HB67, HI7⟩
            case round =>
              obtain ⟨seen, hgi, rfl, HBr, HIr⟩ := hrel
              have hMr := HMN.out.but (But.of (S := fun _ => False) HBr.out) (fun x => x)
              rcases run_next_at (P := Try.prog) wr 0 r b2 clock clock seen es clock HIr.out hMr.at_ hMr.st.1 (Nat.le_refl _) with ⟨h0, hrun⟩ | ⟨x, hx, wn0, hw, hrun⟩
              · have hall := seenC_all hnw.1 HO6.out.be HMN.out h0
                obtain ⟨Q, eQ⟩ : ∃ Q, cnt s1.n (restQ2 s1 nw) = Q := ⟨_, rfl⟩
                obtain ⟨T, eT⟩ : ∃ T, countA s1 = T := ⟨_, rfl⟩
                have hthree := Hthree.out
                have eT' : cnt s1.n s1.tk = T := eT
                rw [eQ, eT', Hs1n.out] at hthree
                rw [eQ] at hall
                rw [hall]
                have HOr := Lib.hid (HO6.out.below HBr.out)
                have Hct := Lib.hid (count_z _ g s1 T wr HOr.out.pool HOr.out.low eT)
                clear hMr h0 hall eQ eT'
                go_wp2_with fail
                refine Hct.out.mono ?_
                rintro e w8 hd
                obtain ⟨rfl, hd1, hd2⟩ := id hd
                have HO8 := Lib.hid (HOr.out.called hd)
                obtain ⟨es1, clock1, hM1⟩ := HO8.out.m1
                have hlen := hM1.len_i 3
                rw [taken_size hM1, eT] at hlen
                have y0 := blk_cell HO8.out.box 0
                have y1 := blk_cell HO8.out.box 1
                simp at y0 y1
                have p1 : IntKind.i64.wrap ((F : Int) + (Q : Int)) = (F : Int) + (Q : Int) := wrap_i64s _ (by omega) (by omega)
                have p2 : IntKind.i64.wrap ((F : Int) + (Q : Int) + (T : Int)) = (n0 : Int) := by rw [wrap_i64s _ (by omega) (by omega)]; omega
                have p3 : IntKind.i64.wrap H = H := wrap_i64s _ (by omega) (by omega)
                have p4 : IntKind.i64.wrap lo = lo := wrap_i64s _ (by omega) (by omega)
                have p5 : IntKind.i64.wrap (H - lo) = H - lo := wrap_i64s _ (by omega) (by omega)
                have p6 : IntKind.i64.wrap (H - lo + 1) = (n0 : Int) := by rw [wrap_i64s _ (by omega) (by omega)]; exact hn0
                have Hn0 := Lib.hid hn0
                clear hd hd1 hd2 Hct hM1 eT hthree hn0
                rcases HF3.out with ⟨f0, f1, f2, f3⟩ | ⟨i, hin, hti, hui, f0, f1, f2, f3⟩
                · have g1 : decide (0 < F) = false := decide_eq_false (by omega)
                  have g2 : decide ((0 : Int) < (F : Int)) = false := decide_eq_false (by omega)
                  clear f0
                  have Ht := Lib.hid (take_z _ g s1 s1 nw 0 7 w8 HO8.out.pool HO8.out.low (by omega) f2 f1 f3)
                  clear f1 f2 f3
                  go_wp2_with fail
                  refine Ht.out.mono ?_
                  rintro e w9 hd
                  obtain ⟨rfl, hd1, hd2⟩ := id hd
                  have HO9 := Lib.hid (HO8.out.called hd)
                  clear hd hd1 hd2 Ht hlen y0 y1
                  go_wp2_with fail
                  go_roundg (n - (j + 1))
                  case measure => have := hgk'.out; omega
                  case rel => exact ⟨j + 1, s1, nw, K, Lib.hid (by omega), by omega, by omega, by go_num, rfl, hnw, HO9⟩
                · have g1 : decide (0 < F) = true := decide_eq_true (by omega)
                  have g2 : decide ((0 : Int) < (F : Int)) = true := decide_eq_true (by omega)
                  have Ht := Lib.hid (take_z _ g s1 (takeI s1 i) nw _ 0 w8 HO8.out.pool HO8.out.low (by omega) f2 f1 f3)
                  have hlo1 := Hs1lo.out
                  have hn1 := Hs1n.out
                  have hin0 : i < n0 := by omega
                  have hn00 := Hn0.out
                  rw [hlo1] at Ht
                  have hn2 : (takeI s1 i).lo = lo := hlo1
                  have htaken : takenA (takeI s1 i) (lo + (i : Int)) = true := by
                    rw [← hn2, takenA_at]
                    show (decide (i < s1.n) && (decide (i = i) || s1.tk i)) = true
                    simp [hin]
                  have Htaken := Lib.hid htaken
                  have g3 : decide (lo + (i : Int) < lo) = false := decide_eq_false (by omega)
                  have g4 : decide (H < lo + (i : Int)) = false := decide_eq_false (by omega)
                  have hib : 0 ≤ lo + (i : Int) ∧ lo + (i : Int) < 65536 := by omega
                  clear f0 f1 f2 f3 hn2 htaken
                  go_wp2_with fail
                  refine Ht.out.mono ?_
                  rintro e w9 hd
                  obtain ⟨rfl, hd1, hd2⟩ := id hd
                  have HO9 := Lib.hid (HO8.out.called hd)
                  have hlk1 := HO9.out.m1.look_no_i (e := lo + (i : Int)) (fun ⟨i', _, ht', he'⟩ => by
                    have : i' = i := by omega
                    rw [this, hti] at ht'
                    cases ht')
                  obtain ⟨u, hlk2, hu⟩ : ∃ u, (Instr.lookup 34 (.map (some b2)) (.int .u16 (lo + (i : Int))) false).run Try.prog w9 = .ok (.int .u64 u) w9 ∧ decide (nw < u) = false := by
                    rcases Classical.em (K (lo + (i : Int))) with hK | hK
                    · have h1 := HO9.out.m2.look_u hK
                      refine ⟨_, h1, decide_eq_false ?_⟩
                      rw [← hlo1, show (s1.lo + (i : Int) - s1.lo).toNat = i by omega]
                      omega
                    · exact ⟨0, HO9.out.m2.look_no_u hK, decide_eq_false (by omega)⟩
                  have zz0 := blk_cell HO9.out.box 0
                  have zz1 := blk_cell HO9.out.box 1
                  simp at zz0 zz1
                  have Htk := Lib.hid (taken_z _ g (takeI s1 i) (lo + (i : Int)) true w9 HO9.out.pool HO9.out.low hib Htaken.out)
                  have Hin := Lib.hid hin
                  clear hd hd1 hd2 Ht hlen y0 y1 hti hui hin hn1 hn00 hlo1
                  go_wp2_with fail
                  refine Htk.out.mono ?_
                  rintro e w10 hd
                  obtain ⟨rfl, hd1, hd2⟩ := id hd
                  have HO10 := Lib.hid (HO9.out.called hd)
                  obtain ⟨w11, hr11, HO11⟩ := HO10.out.took Hin.out
                  have HO12 := Lib.hid HO11
                  clear hd hd1 hd2 Htk hlk1 hlk2 zz0 zz1 HO11
                  go_wp2_with fail
                  go_roundg (n - (j + 1))
                  case measure => have := hgk'.out; omega
                  case rel => exact ⟨j + 1, takeI s1 i, nw, K, Lib.hid (by omega), by omega, by omega, by go_num, rfl, hnw, HO12⟩
              · obtain ⟨hxe, hxb⟩ := mem_left hx
                have Hsh := Lib.hid (left_shrinks es seen x hx)
                obtain ⟨e, hKe, hke, hve⟩ := HMN.out.ent x hxe
                obtain ⟨i, hin, hei⟩ := HO6.out.be.key e hKe
                have Hpush := Lib.hid (seenC_push s1 nw es seen HMN.out.st.2.1 hxe hxb)
                have Hrest := Lib.hid (restE_at s1 nw hin (by rw [hke, hei]) (by rw [hve, hei]))
                have hnb : But (fun k => k = r) wr (setBlock wn0 r (.mapIter (some b2) clock (seen.push x.born) clock)) := by
                  rcases hw with rfl | rfl
                  · exact setN_but _ _ _
                  · exact (But.refl (fun k => k = r) wr).drew.trans (setN_but _ _ _)
                have hrn : (setBlock wn0 r (.mapIter (some b2) clock (seen.push x.born) clock)).heap[r]? = some (.mapIter (some b2) clock (seen.push x.born) clock) := by
                  rcases hw with rfl | rfl
                  · exact setN_at _ HIr.out
                  · exact setN_at (w := wr.drew) _ HIr.out
                obtain ⟨wn, ewn⟩ : ∃ wn, setBlock wn0 r (.mapIter (some b2) clock (seen.push x.born) clock) = wn := ⟨_, rfl⟩
                rw [ewn] at hrun hnb hrn
                have hBn : Below w6.heap.size w6 wn := HBr.out.trans (hnb.below (fun k hk => by omega) HBr.out.size)
                have HOn := Lib.hid (HO6.out.below hBn)
                have hent := run_entry_at (P := Try.prog) wn r b2 clock seen es clock x hrn (HMN.out.but (But.of (S := fun _ => False) hBn) (fun x => x)).at_ hxe hMr.st.2.1
                obtain ⟨tv, etv⟩ : ∃ tv, s1.un i = tv := ⟨_, rfl⟩
                have hval : untilV s1 e = .int .u64 tv := by
                  rw [hei]
                  unfold untilV
                  rw [show (s1.lo + (i : Int) - s1.lo).toNat = i by omega, etv]
                rw [hke, hve, hval] at hrun hent
                have HBn := Lib.hid hBn
                have HIn := Lib.hid hrn
                have hRt : restE s1 nw x = (!s1.tk i && decide (nw < tv)) := by rw [Hrest.out]; unfold restQ2; rw [etv]
                have hsz := seenC_le s1 nw es seen
                have hes := Hesn.out
                obtain ⟨cn, ecn⟩ : ∃ cn, seenC s1 nw es seen = cn := ⟨_, rfl⟩
                rw [ecn] at Hpush hsz ⊢
                have qc : IntKind.i64.wrap ((cn : Int) + 1) = (cn : Int) + 1 := wrap_i64s _ (by omega) (by omega)
                clear hMr hx hw hnb hrn ewn hBn hve hval etv ecn Hrest hes hsz
                by_cases hti : s1.tk i = true
                · have hlk := HOn.out.m1.look_i (e := e) ⟨i, hin, hti, hei⟩
                  have Hcn := Lib.hid (show seenC s1 nw es (seen.push x.born) = cn by rw [Hpush.out, hRt, hti]; simp)
                  clear hRt hti hei hKe hke hxe hxb
                  go_wp2_with fail
                  go_roundg (leftOf es (seen.push x.born)).size
                  case measure => have := Hsh.out; have := hgi.out; omega
                  case rel => exact ⟨_, Lib.hid rfl, by rw [Hcn.out], HBn, HIn⟩
                · have hlk := HOn.out.m1.look_no_i (e := e) (fun ⟨i', _, ht', he'⟩ => hti (by
                    have : i' = i := by omega
                    rw [← this]; exact ht'))
                  have htf : s1.tk i = false := by simpa using hti
                  by_cases htv : nw < tv
                  · have htvb : decide (nw < tv) = true := decide_eq_true htv
                    have Hcn := Lib.hid (show seenC s1 nw es (seen.push x.born) = cn + 1 by rw [Hpush.out, hRt, htf, htvb]; simp)
                    clear hRt hti htf hei hKe hke hxe hxb
                    go_wp2_with fail
                    go_roundg (leftOf es (seen.push x.born)).size
                    case measure => have := Hsh.out; have := hgi.out; omega
                    case rel => exact ⟨_, Lib.hid rfl, by rw [Hcn.out]; go_num, HBn, HIn⟩
                  · have htvb : decide (nw < tv) = false := decide_eq_false htv
                    have Hcn := Lib.hid (show seenC s1 nw es (seen.push x.born) = cn by rw [Hpush.out, hRt, htf, htvb]; simp)
                    clear hRt hti htf hei hKe hke hxe hxb
                    go_wp2_with fail
                    go_roundg (leftOf es (seen.push x.born)).size
                    case measure => have := Hsh.out; have := hgi.out; omega
                    case rel => exact ⟨_, Lib.hid rfl, by rw [Hcn.out], HBn, HIn⟩
      · obtain rfl : n = j := by omega
        go_wp2_with fail
        refine (poolwake_any wr).mono ?_
        rintro e w6 ⟨rfl, hb6⟩
        have HB6 := Lib.hid ((HO.out.below hb6).bel)
        clear hb6
        go_wp2_with fail
        go_ret
        exact ⟨rfl, HB6.out⟩
theorem own : ownKnob Try.prog.godebug = none := by kernel_rfl
theorem laidOut : laidOutB Try.prog = true := by kernel_rfl

set_option maxRecDepth 100000 in
theorem lifted (os : Os) (started : os.Started) (H : Type) (enc : TypeId × Value → H) :
    ReturnsInHanded {} Try.checked os 3 .any (Rows.poolOnceSpec.pre6 enc Try.prog Try.f3 Rows.poolOnceRow.domain false) (Rows.poolOnceSpec.post enc Try.prog Try.f3 false true false false) := by
  refine returnsInHanded_of_change (C := Try.checked) own started (by kernel_rfl) Try.func3
    (ChangeSpec.witness6 (enc := enc) (C := Try.checked) false ⟨#[], #[(.agg #[.int .u16 0, .int .u16 0, .int .u64 0]), (.slice none 0 0)], []⟩ 8 (by kernel_rfl) (by kernel_rfl) (by kernel_rfl) (by kernel_rfl)) ?_
  intro W base args ds gs before hval0 hW hcnd _
  have hval : ∀ (j : Nat) t v, Try.f3.params[j]? = some t → args[j]? = some v → Value.okWide Try.prog W .any base t v := hval0
  have hW' := hW
  obtain ⟨p, q, hA0, hV, rfl, hfz, hnd⟩ := hW
  have hA : DataW.TrodAll enc Try.prog W 0 (fun _ => true) true Try.f3.params.toList args.toList ds p := hA0
  rw [Try.params3] at hA hval
  obtain ⟨v0, vs0, d0, ds0, p0, q0, hargs, rfl, rfl, h0, r0⟩ := trodAll_cons hA
  obtain ⟨v1, vs1, d1, ds1, p1, q1, rfl, rfl, rfl, h1, r1⟩ := trodAll_cons r0
  obtain ⟨rfl, rfl, rfl⟩ := trodAll_nil r1
  obtain rfl : args = #[v0, v1] := by cases args; simp_all
  obtain ⟨rfl, rfl⟩ := trodVars_none hV
  have k0 := pends_open (hval 0 25 v0 rfl rfl) h0
  have lt0 : ∀ x ∈ p0, x.block < W.heap.size := by obtain ⟨m, hm⟩ := h0; exact DataW.trod_lt m _ _ _ hm
  have k1 := acts_open (hval 1 26 v1 rfl rfl) h1
  have lt1 : ∀ x ∈ p1, x.block < W.heap.size := by obtain ⟨m, hm⟩ := h1; exact DataW.trod_lt m _ _ _ hm
  clear hA0 hval0
  refine (walk W v0 k0 v1 k1).mono fun e W' ⟨he, bel⟩ => ?_
  subst he
  exact ⟨_, rfl, _, _, _, [], _, [], hW', trodAll_mk1 (shut_bool Try.underlying4 _), (trodAll_cons_mk (Below.trod laidOut (by kernel_rfl) (of_decide_eq_true (by kernel_rfl)) h0 bel lt0) (trodAll_cons_mk (Below.trod laidOut (by kernel_rfl) (of_decide_eq_true (by kernel_rfl)) h1 bel lt1) trodAll_mk0)), rfl, bel.frame _, fun h => by cases h⟩

theorem over : Rows.poolOnceRow.holds Try.pinned (OpenSpec.ofChange Rows.poolOnceSpec) :=
  OpenClaim.holds_of_wide 3 Try.f3 rfl rfl rfl rfl rfl rfl rfl ⟨rfl, rfl, rfl, rfl, rfl⟩ rfl rfl rfl rfl rfl (by kernel_rfl) Try.func3 (by kernel_rfl)
    (of_decide_eq_true (by kernel_rfl)) (by unfold Func.isWrapper; first | (rw [if_pos (by decide +kernel)]; kernel_rfl) | (rw [if_neg (by decide +kernel)]; exact ⟨rfl, rfl⟩))
    (fun os started H enc _ => lifted os started H enc)

/-- The statement. -/
theorem proved : Rows.PoolOnceSaid := over
#print axioms proved
end Go.Proofs.Ytlifldionfoddaa.poolOnce
