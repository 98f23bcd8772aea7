/-
  PoolLeast holds: the port that is told is the least one that is free, for any ends, any number of ports taken, any one given back.
-/
import Derived.Test.YtlifldionfoddaaPoolWakes
import Derived.Test.YtlifldionfoddaaPoolOpen
import Derived.Test.YtlifldionfoddaaPoolStates
import Derived.Deep.CutRange
import Derived.Deep.LoopGhost
import Derived.BigRegion
namespace Go.Proofs.Ytlifldionfoddaa.poolLeast
set_option maxRecDepth 10000
open Go.ChangeShapes Go.WideShapes Go.ChangeAt Go.RowKit
set_option linter.unusedVariables false
set_option linter.unusedSimpArgs false

theorem own_set {B : Nat} {w : World} {g z j : Nat} {s : AP} {v : Value} (h : POwn B w g s) (hz : z < B) : POwn B (w.setCell ⟨z, j, none⟩ v) g s := by
  obtain ⟨S, hp, hS⟩ := h
  exact ⟨S, hp.but ((But.refl (fun k => k = z) w).setCell rfl _) (fun k hk e => by have := hS k hk; omega), hS⟩
theorem ends_set {w : World} {z : Nat} {a b c : Value} {T : TypeId} (h : w.heap[z]? = some (.cells #[a, b, c] T (0, 0))) (x y t : Value) :
    (((w.setCell ⟨z, 0, none⟩ x).setCell ⟨z, 1, none⟩ y).setCell ⟨z, 2, none⟩ t).heap[z]? = some (.cells #[x, y, t] T (0, 0)) ∧ But (fun k => k = z) w (((w.setCell ⟨z, 0, none⟩ x).setCell ⟨z, 1, none⟩ y).setCell ⟨z, 2, none⟩ t) := by
  refine ⟨?_, (((But.refl (fun k => k = z) w).setCell (p := ⟨z, 0, none⟩) rfl _).setCell (p := ⟨z, 1, none⟩) rfl _).setCell (p := ⟨z, 2, none⟩) rfl _⟩
  have := heap_setCell_at (heap_setCell_at (heap_setCell_at h 0 x) 1 y) 2 t
  simpa using this
set_option maxHeartbeats 2000000 in
theorem walk (w : World) (v : Value) (hv : PEndsAt w v) (n : Int) (wn : (Lit.int .u8 n).wf = true) (m : Int) (wm : (Lit.int .u8 m).wf = true) :
    Calls Try.prog 4 #[v, .int .u8 n, .int .u8 m] w fun e w' => e = .returned (.bool true) ∧ Below w.heap.size w w' := by
  obtain ⟨lo, hi, rest, rfl, hlo, hhi, hrest⟩ := hv
  have hn := bounds_u8 wn
  have hm := bounds_u8 wm
  clear wn wm
  obtain ⟨H, eH⟩ : ∃ H, fitH lo hi = H := ⟨_, rfl⟩
  have hHb := fitH_bd hlo hhi
  have hH40 := fitH_40 (lo := lo) (hi := hi)
  rw [eH] at hHb hH40
  have Hfit := Lib.hid (fun W => fit_any lo hi rest W hlo hhi)
  unfold FitIs at Hfit
  rw [eH] at Hfit
  clear eH
  obtain ⟨z, hz⟩ : ∃ z, w.heap.size = z := ⟨_, rfl⟩
  obtain ⟨w0, ew0⟩ : ∃ w0, w.alloc (.cells #[.int .u16 lo, .int .u16 hi, .int .u64 rest] 25) = w0 := ⟨_, rfl⟩
  have HB0 := Lib.hid (show Below w.heap.size w w0 by rw [← ew0]; exact (Below.refl _ _).alloc (Nat.le_refl _) _)
  have hk0 : w0.heap[z]? = some (.cells #[.int .u16 lo, .int .u16 hi, .int .u64 rest] 25 (0, 0)) := by rw [← ew0, ← hz]; exact heap_alloc_new w _
  have HK0 := Lib.hid hk0
  have d0 := blk_cell hk0 0
  have d1 := blk_cell hk0 1
  have d2 := blk_cell hk0 2
  simp at d0 d1 d2
  clear hk0
  go_enter Try.func4, Try.ntmps4
  go_wp2_with fail
  refine (Hfit.out w0).mono ?_
  rintro e w1 ⟨rfl, hb1⟩
  have hk1 := blk_on HK0.out hb1
  have c0 := blk_cell hk1 0
  have c1 := blk_cell hk1 1
  have c2 := blk_cell hk1 2
  simp at c0 c1 c2
  have cf := blk_free hk1
  clear d0 d1 d2
  go_upto_region 3 with (fail)
  obtain ⟨hk2, hb2⟩ := ends_set hk1 (.int .u16 lo) (.int .u16 H) (.int .u64 rest)
  have hk3 := heap_setCell_at hk2 2 (.int .u64 0)
  have hb3 := hb2.setCell (p := ⟨z, 2, none⟩) rfl (.int .u64 0)
  obtain ⟨w2, ew2⟩ : ∃ w2, (((w1.setCell ⟨z, 0, none⟩ (.int .u16 lo)).setCell ⟨z, 1, none⟩ (.int .u16 H)).setCell ⟨z, 2, none⟩ (.int .u64 rest)).setCell ⟨z, 2, none⟩ (.int .u64 0) = w2 := ⟨_, rfl⟩
  rw [ew2] at hk3 hb3 ⊢
  simp only [List.setIfInBounds_toArray, List.set_cons_succ, List.set_cons_zero] at hk3
  have HB2 := Lib.hid (show Below w.heap.size w w2 from (HB0.out.trans (hb1.mono HB0.out.size)).trans (hb3.below (fun k hk => by omega) (HB0.out.trans (hb1.mono HB0.out.size)).size))
  have HK2 := Lib.hid hk3
  have e0 := blk_cell hk3 0
  have e1 := blk_cell hk3 1
  simp at e0 e1
  clear ew2 hk1 hk2 hb2 hk3 hb3 hb1 c0 c1 c2 cf HB0 HK0
  cases hbad : badA lo H 0 with
  | true =>
    go_wp2_with fail
    refine (new_bad lo H 0 w2 hlo hHb (by decide) hbad).mono ?_
    rintro e w3 ⟨rfl, hb3⟩
    have HB3 := Lib.hid (HB2.out.trans (hb3.mono HB2.out.size))
    clear hb3 hbad
    go_wp2_with fail
    refine (poolwake_any w3).mono ?_
    rintro e w4 ⟨rfl, hb4⟩
    have HB4 := Lib.hid (HB3.out.trans (hb4.mono HB3.out.size))
    clear hb4
    go_wp2_with fail
    go_ret
    exact ⟨rfl, HB4.out⟩
  | false =>
    have hbd := hbad
    unfold badA at hbd
    simp only [Bool.or_eq_false_iff, decide_eq_false_iff_not] at hbd
    obtain ⟨n0, hn0⟩ : ∃ n0 : Nat, H - lo + 1 = n0 := ⟨(H - lo + 1).toNat, by omega⟩
    have hnw := new_stL lo H n0 hn0
    have Hnew := Lib.hid (new_own lo H 0 (stL lo n0 0) w2 hlo hHb (by decide) hbad hnw)
    clear hbad hnw
    go_wp2_with fail
    refine Hnew.out.mono ?_
    rintro e w3 ⟨g, rfl, hp, hb3⟩
    have HP := Lib.hid hp
    have HB3 := Lib.hid hb3
    have HK3 := Lib.hid (blk_on HK2.out hb3)
    have x0 := blk_cell HK3.out 0
    have x1 := blk_cell HK3.out 1
    simp at x0 x1
    have q1 : IntKind.i64.wrap H = H := wrap_i64s _ (by omega) (by omega)
    have q2 : IntKind.i64.wrap lo = lo := wrap_i64s _ (by omega) (by omega)
    have q3 : IntKind.i64.wrap (H - lo) = H - lo := wrap_i64s _ (by omega) (by omega)
    have q4 : IntKind.i64.wrap (H - lo + 1) = (n0 : Int) := by rw [wrap_i64s _ (by omega) (by omega)]; exact hn0
    clear hp hb3 Hnew e0 e1
    have hmod := Int.emod_nonneg n (show (n0 : Int) ≠ 0 by omega)
    have hmod2 := Int.emod_lt_of_pos n (show (0 : Int) < (n0 : Int) by omega)
    obtain ⟨k, hk⟩ : ∃ k : Nat, 1 + n % (n0 : Int) = k := ⟨(1 + n % (n0 : Int)).toNat, by omega⟩
    have hk64 : wrap64 (1 + n % (n0 : Int)) = (k : Int) := by
      unfold wrap64
      omega
    have hkn : k ≤ n0 ∧ 1 ≤ k := by omega
    have hmb := Int.emod_nonneg m (show (k : Int) ≠ 0 by omega)
    have hmb2 := Int.emod_lt_of_pos m (show (0 : Int) < (k : Int) by omega)
    obtain ⟨b, hb⟩ : ∃ b : Nat, m % (k : Int) = b := ⟨(m % (k : Int)).toNat, by omega⟩
    have hbk : b < k := by omega
    have hlow := hlo.1
    have hHlo : lo + (n0 : Int) ≤ 65536 := by omega
    have n0z : ¬ (n0 : Int) = 0 := by omega
    have kz : ¬ (k : Int) = 0 := by omega
    clear hmod hmod2 hmb hmb2 hk
    obtain ⟨B, eB⟩ : ∃ B, w2.heap.size = B := ⟨_, rfl⟩
    have hzB : z < B := by rw [← eB]; exact lt_of_block HK2.out
    have hwB : w.heap.size ≤ B := by rw [← eB]; exact HB2.out.size
    rw [eB] at HP HB3
    have HS3 := Lib.hid HB3.out.size
    rw [eB] at HS3
    have HB2' := Lib.hid (HB2.out.trans (HB3.out.mono hwB))
    clear HB2 HB3 HK2
    go_wp2_with fail
    try simp only [hk64]
    clear x0 x1
    go_loopg [45] k (fun gk i wr => ∃ j : Nat, Hid (gk + j = k) ∧ j ≤ k ∧ i = .int .i64 (j : Int) ∧ Hid (POwn B wr g (stL lo n0 j)) ∧ Hid (wr.heap[z]? = some (.cells #[.int .u16 lo, .int .u16 H, .int .u64 0] 25 (0, 0))) ∧ Hid (Below w.heap.size w wr) ∧ Hid (B ≤ wr.heap.size))
    case atStart => exact ⟨0, rfl, Nat.zero_le _, rfl, HP, HK3, HB2', HS3⟩
    case round =>
      obtain ⟨j, hgk, hj, rfl, HPj, HKj, HBj, HSj⟩ := hrel
      by_cases hjk : j < k
      · obtain ⟨t1, t2, t3⟩ := take_stL lo n0 j (by omega)
        have Ht := Lib.hid (take_own B g (stL lo n0 j) (stL lo n0 (j + 1)) 3 (lo + (j : Int)) 0 wr HPj.out HSj.out (by decide) t1 t2 t3)
        have q5 : IntKind.u16.wrap (j : Int) = (j : Int) := by (simp [IntKind.wrap, IntKind.bits, IntKind.signed] <;> omega)
        have q6 : IntKind.u16.wrap (lo + (j : Int)) = lo + (j : Int) := by (simp [IntKind.wrap, IntKind.bits, IntKind.signed] <;> omega)
        have i0 : (0 : Int) ≤ (j : Int) := by omega
        have i1 : (j : Int) < (k : Int) := by omega
        clear t1 t2 t3
        go_wp2_with fail
        refine Ht.out.mono ?_
        rintro e w4 ⟨rfl, hp, hb4⟩
        have HP4 := Lib.hid hp
        have HB4 := Lib.hid (HBj.out.trans (hb4.mono hwB))
        have HS4 := Lib.hid (Nat.le_trans HSj.out hb4.size)
        have HK4 := Lib.hid (show w4.heap[z]? = _ from (hb4.block z hzB).trans HKj.out)
        have y0 := blk_cell HK4.out 0
        simp at y0
        clear hp hb4
        go_wp2_with fail
        clear y0
        go_roundg (gk - 1)
        case measure => have := hgk.out; omega
        case rel => exact ⟨j + 1, by have := hgk.out; show gk - 1 + (j + 1) = _; omega, by omega, by go_num, HP4, HK4, HB4, HS4⟩
      · obtain rfl : k = j := by omega
        obtain ⟨g1, g2⟩ := give_stL lo n0 k b hkn.1 hbk
        obtain ⟨g3, g4⟩ := give_stG lo n0 k b
        obtain ⟨g5, g6, g7⟩ := take_stG lo n0 k b hkn.1 hbk
        have Hg1 := Lib.hid (fun W h h2 => give_own B g (stL lo n0 k) (stG lo n0 k b) (lo + (b : Int)) 1 0 W h h2 (by omega) (by decide) g1 g2)
        have Hg2 := Lib.hid (fun W h h2 => give_own B g (stG lo n0 k b) (stG lo n0 k b) (lo + (b : Int)) 1 6 W h h2 (by omega) (by decide) g3 g4)
        have Hg3 := Lib.hid (fun W h h2 => take_own B g (stG lo n0 k b) (takeA (stG lo n0 k b) 0) 0 (lo + (b : Int)) 0 W h h2 (by decide) g5 g6 rfl)
        have Hg4 := Lib.hid (fun W h h2 => count_own B g (takeA (stG lo n0 k b) 0) k W h h2 g7)
        clear g1 g2 g3 g4 g5 g6 g7
        have y0 := blk_cell HKj.out 0
        simp at y0
        have q5 : IntKind.u16.wrap (b : Int) = (b : Int) := by (simp [IntKind.wrap, IntKind.bits, IntKind.signed] <;> omega)
        have q6 : IntKind.u16.wrap (lo + (b : Int)) = lo + (b : Int) := by (simp [IntKind.wrap, IntKind.bits, IntKind.signed] <;> omega)
        have i1 : ¬ (k : Int) < (k : Int) := by omega
        go_wp2_with fail
        go_quiet (fail)
        have HP0 := Lib.hid (HPj.out.below (below_drewN (Below.refl _ _) nq))
        have HB0 := Lib.hid (below_drewN HBj.out nq)
        have HS0 := Lib.hid (show B ≤ (wr.drewN nq).heap.size from HSj.out)
        obtain ⟨w5, ew5⟩ : ∃ w5, wr.drewN nq = w5 := ⟨_, rfl⟩
        rw [ew5] at HP0 HB0 HS0 ⊢
        clear ew5 HPj HBj HSj HKj y0
        go_wp2_with fail
        refine (Hg1.out _ HP0.out HS0.out).mono ?_
        rintro e w6 ⟨rfl, hp6, hb6⟩
        have HP6 := Lib.hid hp6
        have HB6 := Lib.hid (HB0.out.trans (hb6.mono hwB))
        have HS6 := Lib.hid (Nat.le_trans HS0.out hb6.size)
        clear hp6 hb6 HP0 HB0 HS0
        go_wp2_with fail
        refine (Hg2.out _ HP6.out HS6.out).mono ?_
        rintro e w7 ⟨rfl, hp7, hb7⟩
        have HP7 := Lib.hid hp7
        have HB7 := Lib.hid (HB6.out.trans (hb7.mono hwB))
        have HS7 := Lib.hid (Nat.le_trans HS6.out hb7.size)
        clear hp7 hb7 HP6 HB6 HS6
        go_wp2_with fail
        refine (Hg3.out _ HP7.out HS7.out).mono ?_
        rintro e w8 ⟨rfl, hp8, hb8⟩
        have HP8 := Lib.hid hp8
        have HB8 := Lib.hid (HB7.out.trans (hb8.mono hwB))
        have HS8 := Lib.hid (Nat.le_trans HS7.out hb8.size)
        clear hp8 hb8 HP7 HB7 HS7
        go_wp2_with fail
        refine (poolwake_any w8).mono ?_
        rintro e w9 ⟨rfl, hb9⟩
        have HP9 := Lib.hid (HP8.out.below hb9)
        have HB9 := Lib.hid (HB8.out.trans (hb9.mono HB8.out.size))
        have HS9 := Lib.hid (Nat.le_trans HS8.out hb9.size)
        clear hb9 HP8 HB8 HS8
        go_wp2_with fail
        refine (Hg4.out _ HP9.out HS9.out).mono ?_
        rintro e w10 ⟨rfl, hp10, hb10⟩
        have HB10 := Lib.hid (HB9.out.trans (hb10.mono hwB))
        clear hp10 hb10 HP9 HB9 HS9
        go_wp2_with fail
        go_ret
        exact ⟨rfl, HB10.out⟩
theorem own : ownKnob Try.prog.godebug = none := by kernel_rfl
theorem laidOut : laidOutB Try.prog = true := by kernel_rfl

set_option maxRecDepth 100000 in
theorem lifted (os : Os) (started : os.Started) (H : Type) (enc : TypeId × Value → H) :
    ReturnsInHanded {} Try.checked os 4 .any (Rows.poolLeastSpec.pre6 enc Try.prog Try.f4 Rows.poolLeastRow.domain false) (Rows.poolLeastSpec.post enc Try.prog Try.f4 false true false false) := by
  refine returnsInHanded_of_change (C := Try.checked) own started (by kernel_rfl) Try.func4
    (ChangeSpec.witness6 (enc := enc) (C := Try.checked) false ⟨#[], #[(.agg #[.int .u16 0, .int .u16 0, .int .u64 0]), .int .u8 0, .int .u8 0], []⟩ 8 (by kernel_rfl) (by kernel_rfl) (by kernel_rfl) (by kernel_rfl)) ?_
  intro W base args ds gs before hval0 hW hcnd _
  have hval : ∀ (j : Nat) t v, Try.f4.params[j]? = some t → args[j]? = some v → Value.okWide Try.prog W .any base t v := hval0
  have hW' := hW
  obtain ⟨p, q, hA0, hV, rfl, hfz, hnd⟩ := hW
  have hA : DataW.TrodAll enc Try.prog W 0 (fun _ => true) true Try.f4.params.toList args.toList ds p := hA0
  rw [Try.params4] at hA hval
  obtain ⟨v0, vs0, d0, ds0, p0, q0, hargs, rfl, rfl, h0, r0⟩ := trodAll_cons hA
  obtain ⟨v1, vs1, d1, ds1, p1, q1, rfl, rfl, rfl, h1, r1⟩ := trodAll_cons r0
  obtain ⟨v2, vs2, d2, ds2, p2, q2, rfl, rfl, rfl, h2, r2⟩ := trodAll_cons r1
  obtain ⟨rfl, rfl, rfl⟩ := trodAll_nil r2
  obtain rfl : args = #[v0, v1, v2] := by cases args; simp_all
  obtain ⟨rfl, rfl⟩ := trodVars_none hV
  have k0 := pends_open (hval 0 25 v0 rfl rfl) h0
  have lt0 : ∀ x ∈ p0, x.block < W.heap.size := by obtain ⟨m, hm⟩ := h0; exact DataW.trod_lt m _ _ _ hm
  obtain ⟨a1, rfl, rfl, rfl, w1⟩ := open_int Try.underlying5 (hval 1 5 v1 rfl rfl) h1
  obtain ⟨a2, rfl, rfl, rfl, w2⟩ := open_int Try.underlying5 (hval 2 5 v2 rfl rfl) h2
  clear hA0 hval0
  refine (walk W v0 k0 a1 w1 a2 w2).mono fun e W' ⟨he, bel⟩ => ?_
  subst he
  exact ⟨_, rfl, _, _, _, [], _, [], hW', trodAll_mk1 (shut_bool Try.underlying4 _), (trodAll_cons_mk (Below.trod laidOut (by kernel_rfl) (of_decide_eq_true (by kernel_rfl)) h0 bel lt0) (trodAll_cons_mk (shut_int Try.underlying5 w1) (trodAll_cons_mk (shut_int Try.underlying5 w2) trodAll_mk0))), rfl, bel.frame _, fun h => by cases h⟩

theorem over : Rows.poolLeastRow.holds Try.pinned (OpenSpec.ofChange Rows.poolLeastSpec) :=
  OpenClaim.holds_of_wide 4 Try.f4 rfl rfl rfl rfl rfl rfl rfl ⟨rfl, rfl, rfl, rfl, rfl⟩ rfl rfl rfl rfl rfl (by kernel_rfl) Try.func4 (by kernel_rfl)
    (of_decide_eq_true (by kernel_rfl)) (by unfold Func.isWrapper; first | (rw [if_pos (by decide +kernel)]; kernel_rfl) | (rw [if_neg (by decide +kernel)]; exact ⟨rfl, rfl⟩))
    (fun os started H enc _ => lifted os started H enc)

/-- The statement. -/
theorem proved : Rows.PoolLeastSaid := over
#print axioms proved
end Go.Proofs.Ytlifldionfoddaa.poolLeast
