/-
  Texts laid together: NatGo, SumOpen, Head, Fields.
-/
import Derived.Test.YtheknmihnkennaaGreatZB36
import Derived.Test.YtheknmihnkennaaGreatZB33
import Derived.Test.YtheknmihnkennaaGreatZB02
import Derived.SizedLaws
import Derived.Lib.SmallJoins

/-
  Package nat's Rewrite does what the laws ask of it (RwF).
-/
namespace Go.Proofs.YtheknmihnkennaaGreat
set_option maxRecDepth 10000
open Go.RowKit
set_option linter.unusedSimpArgs false
set_option linter.unusedVariables false

/-- What an error leaves. -/
theorem rw_none {l L : List Int} {t : Tu} {hop : Bool} {m : Nat} {x k : Int} (hL : rwT l t hop = L) (hm : L.length = m) (hx : errRw l t hop = x) (he : errRw l t hop = k) (h0 : k ≠ 0) : L = [] ∧ m = 0 ∧ x = k := by
  have e : rwT l t hop = [] := by unfold rwT; rw [if_neg (by omega)]
  rw [e] at hL
  subst hL
  exact ⟨rfl, by simpa using hm.symm, by omega⟩
theorem row_at {w : World} {g : Nat} {C : Array Value} {T : TypeId} {t : Tu} (h : w.heap[g]? = some (.cells #[.int .u8 t.pr, .int .u32 t.sr, .int .u32 t.ds, .int .u16 t.sp, .int .u16 t.dp] T (0, 0))) : w.cell? ⟨g, 0, none⟩ = some (.int .u8 t.pr) ∧ w.cell? ⟨g, 1, none⟩ = some (.int .u32 t.sr) ∧ w.cell? ⟨g, 2, none⟩ = some (.int .u32 t.ds) ∧ w.cell? ⟨g, 3, none⟩ = some (.int .u16 t.sp) ∧ w.cell? ⟨g, 4, none⟩ = some (.int .u16 t.dp) := by
  refine ⟨?_, ?_, ?_, ?_, ?_⟩ <;> (rw [blk_cell h]; rfl)
set_option maxHeartbeats 4000000 in
theorem rwf : RwF := by
  intro A n c l t hop w L m x hc hn hA hT hL hm hx
  have hby := hA.byte
  have hlen := hA.len
  obtain ⟨w0, ew⟩ : ∃ w0, w.alloc (.cells #[.int .u8 t.pr, .int .u32 t.sr, .int .u32 t.ds, .int .u16 t.sp, .int .u16 t.dp] 45) = w0 := ⟨_, rfl⟩
  obtain ⟨z0, hz⟩ : ∃ z, w.heap.size = z := ⟨_, rfl⟩
  have hb0 : Below w.heap.size w w0 := by rw [← ew]; exact (Below.refl _ _).alloc (Nat.le_refl _) _
  have hk0 : w0.heap[z0]? = some (.cells #[.int .u8 t.pr, .int .u32 t.sr, .int .u32 t.ds, .int .u16 t.sp, .int .u16 t.dp] 45 (0, 0)) := by rw [← ew, ← hz]; exact heap_alloc_new w _
  have HA0 := Lib.hid (hA.below hb0)
  have HA := Lib.hid hA
  have HB0 := Lib.hid hb0
  have HZ0 := Lib.hid hk0
  have Ew := Lib.hid ew
  have Hz := Lib.hid hz
  have Hby := Lib.hid hby
  have Hlen := Lib.hid hlen
  have HT := Lib.hid hT
  have HL := Lib.hid hL
  have Hm := Lib.hid hm
  have Hx := Lib.hid hx
  have Hn := Lib.hid hn
  have Hc := Lib.hid hc
  clear hb0 hk0 ew hz hA hT hL hm hx hn hc
  by_cases he : errAll l = 0
  · obtain ⟨p, ep⟩ : ∃ p, pkOfB l = p := ⟨_, rfl⟩
    have hp1 := parse9_ok A n c l w0 Hc.out (by have := Hn.out; omega) HA0.out he
    rw [ep] at hp1
    have hph : p.h = hdOf l := by rw [← ep]; exact pkOfB_h l
    have htt : p.h.tt = l.getD 8 0 := by rw [hph]; rfl
    have hpr : p.h.pr = l.getD 9 0 := by rw [hph]; rfl
    obtain ⟨ho1, ho2, hl9⟩ := pk_opts hby he
    obtain ⟨a0, rfl⟩ : ∃ a0, A = some a0 := by
      obtain ⟨b, o, e, _⟩ := HA.out.at_ (by omega)
      exact ⟨_, e⟩
    have hrow := pk_row hby he hlen Hn.out
    rw [← hpr] at hrow
    rw [← hph] at ho1 ho2
    have hb8 := getD_mem l hby 8
    have hb9 := getD_mem l hby 9
    rw [← htt] at hb8
    rw [← hpr] at hb9
    have HR := Lib.hid hrow
    have Hl9 := Lib.hid (show 9 < n by omega)
    have Hpb := Lib.hid (And.intro hb8 hb9)
    have Hp1 := Lib.hid hp1
    have He0 := Lib.hid he
    have Hp8 := Lib.hid htt
    have Hp9 := Lib.hid hpr
    have Hpk := Lib.hid ep
    have Hoo := Lib.hid (And.intro ho1 ho2)
    have Hpr := Lib.hid hrow.is_
    clear hrow hb8 hb9 hpr htt hph ep hp1 hlen he hby ho1 ho2 hl9
    go_enter Tryz.func11, Tryz.ntmps11
    go_upto_region 1 with (fail)
    rw [Ew.out]
    try rw [Hz.out]
    clear Ew
    go_wp2_with fail
    refine Hp1.out.mono ?_
    rintro e w1 ⟨a, rfl, hp, hnO, hof, hb1⟩
    obtain ⟨z, ez⟩ : ∃ z, w1.heap.size = z := ⟨_, rfl⟩
    obtain ⟨w2, ew2⟩ : ∃ v, w1.alloc (.cells #[.int .u8 p.h.to, .int .u16 p.h.id, .bool p.h.df, .int .u8 p.h.tt, .int .u8 p.h.pr, .int .u32 p.h.sr, .int .u32 p.h.ds, .slice a.AH a.nH a.cH, .int .u16 p.s.sp, .int .u16 p.s.dp, .int .u32 p.s.sq, .int .u32 p.s.ak, .int .u8 p.s.fl, .int .u16 p.s.wn, .int .u16 p.s.ug, .slice a.AO a.nO a.cO, .slice a.AD a.nD a.cD, .int .u16 p.u.sp, .int .u16 p.u.dp, .slice a.AU a.nU a.cU, .int .u8 p.m.ty, .int .u8 p.m.cd, .int .u32 p.m.rs, .slice a.AM a.nM a.cM] 35) = v := ⟨_, rfl⟩
    have hba : Below w1.heap.size w1 w2 := by rw [← ew2]; exact (Below.refl _ _).alloc (Nat.le_refl _) _
    have HK2 := Lib.hid (show w2.heap[z]? = some (.cells #[.int .u8 p.h.to, .int .u16 p.h.id, .bool p.h.df, .int .u8 p.h.tt, .int .u8 p.h.pr, .int .u32 p.h.sr, .int .u32 p.h.ds, .slice a.AH a.nH a.cH, .int .u16 p.s.sp, .int .u16 p.s.dp, .int .u32 p.s.sq, .int .u32 p.s.ak, .int .u8 p.s.fl, .int .u16 p.s.wn, .int .u16 p.s.ug, .slice a.AO a.nO a.cO, .slice a.AD a.nD a.cD, .int .u16 p.u.sp, .int .u16 p.u.dp, .slice a.AU a.nU a.cU, .int .u8 p.m.ty, .int .u8 p.m.cd, .int .u32 p.m.rs, .slice a.AM a.nM a.cM] 35 (0, 0)) by rw [← ew2, ← ez]; exact heap_alloc_new w1 _)
    have HZ2 := Lib.hid (blk_on HZ0.out (below_trans hb1 hba))
    have HB2 := Lib.hid (below_trans HB0.out (below_trans hb1 hba))
    have Hop := Lib.hid (show 20 + (a.nH : Int) = 2 * (hdW l : Int) ∧ a.nH ≤ 1000 by rw [← hp.hr.len]; exact Hoo.out)
    have Hrs := Lib.hid hp.mn.rs
    have Ew2 := Lib.hid ew2
    have Ez := Lib.hid ez
    clear ew2 ez hba hp hnO hof hb1 Hp1
    go_upto_region 2 with (refine wp_store_new 35 (.tmp 8) (.tmp 19) rfl rfl w1 _ _ rfl rfl (by kernel_rfl) rfl (by simp [Value.oneCell']) ?_)
    rw [Ew2.out]
    try rw [Ez.out]
    clear Ew2 Ez
    obtain ⟨u, eu⟩ : ∃ u, tupT p = u := ⟨_, rfl⟩
    obtain ⟨b, eb⟩ : ∃ b, isT p = b := ⟨_, rfl⟩
    have Hu := Lib.hid eu
    have HI := Lib.hid eb
    clear eu eb
    go_upto_region 4 with (fail)
    try simp only []
    repeat (first | go_values | go_skip | ((fail_if_success (with_reducible refine wpList_row 35 (.tmp 8) rfl ?_ ?_ ?_ ?_ ?_ ?_ ?_ ?_ ?_ ?_ ?_ ?_)); (first | go_step | go_upon | go_back)))
    refine wpList_row 35 (.tmp 8) rfl ?hww z _ _ _ _ HK2.out rfl Tryz.underlying35 rfl (by kernel_rfl) ?_
    case hww => kernel_rfl
    (try simp only [Act.put, List.setIfInBounds_toArray, List.set_cons_zero, List.set_cons_succ])
    go_wp2_with fail
    refine (tof_any p a w2 u b Hrs.out Hu.out HI.out).mono ?_
    rintro e w3 ⟨rfl, hb3⟩
    obtain ⟨y, ey⟩ : ∃ z, w3.heap.size = z := ⟨_, rfl⟩
    obtain ⟨w4, ew4⟩ : ∃ v, w3.alloc (.cells #[.int .u8 u.pr, .int .u32 u.sr, .int .u32 u.ds, .int .u16 u.sp, .int .u16 u.dp] 45) = v := ⟨_, rfl⟩
    have hba : Below w3.heap.size w3 w4 := by rw [← ew4]; exact (Below.refl _ _).alloc (Nat.le_refl _) _
    have hky : w4.heap[y]? = some (.cells #[.int .u8 u.pr, .int .u32 u.sr, .int .u32 u.ds, .int .u16 u.sp, .int .u16 u.dp] 45 (0, 0)) := by rw [← ew4, ← ey]; exact heap_alloc_new w3 _
    have HK4 := Lib.hid (blk_on HK2.out (below_trans hb3 hba))
    have HZ4 := Lib.hid (blk_on HZ2.out (below_trans hb3 hba))
    have HB4 := Lib.hid (below_trans HB2.out (below_trans hb3 hba))
    have y0 := (row_at (C := #[]) hky).1
    have Ew4 := Lib.hid ew4
    have Ey := Lib.hid ey
    clear ew4 ey hba hb3 hky
    go_upto_region 5 with (fail)
    rw [Ew4.out]
    try rw [Ey.out]
    clear Ew4 Ey
    obtain ⟨k0, k1, k2, k3, k4, k5, k6, k7, -⟩ := cells24 HK4.out
    obtain ⟨j0, j1, j2, j3, j4⟩ := row_at (C := #[]) HZ4.out
    cases b with
    | false =>
      have He := Lib.hid (show errRw l t hop = 22 by unfold errRw; rw [if_neg (fun h => h He0.out), if_pos (by rw [Hpk.out]; exact HI.out)])
      obtain ⟨ec, eec⟩ : ∃ c, (u.pr == 1) = c := ⟨_, rfl⟩
      go_wp2_with fail
      go_ret2
      obtain ⟨rfl, rfl, rfl⟩ := rw_none HL.out Hm.out Hx.out He.out (by decide)
      exact ⟨none, 0, rfl, OwnB.nil _ _, HB4.out⟩
    | true =>
      have hup : u.pr = p.h.pr := by
        rw [← Hu.out]
        have hi := HI.out
        unfold isT at hi
        unfold tupT
        by_cases h6 : p.h.pr = 6
        · rw [if_pos h6]
        · by_cases h17 : p.h.pr = 17
          · rw [if_neg h6, if_pos h17]
          · have h1 : p.h.pr = 1 ∧ echoM p.m.ty p.m.cd = true := by simpa [h6, h17] using hi
            rw [if_neg h6, if_neg h17, if_pos h1]
      rw [hup] at y0
      have Hup := Lib.hid hup
      clear hup
      by_cases h1 : p.h.pr = 1
      · have q1 : (p.h.pr == 1) = true := by simpa using h1
        have HE := Lib.hid (show l.getD 9 0 = 1 by rw [← Hp9.out]; exact h1)
        by_cases h2 : t.pr = p.h.pr
        · have q2 : (t.pr != p.h.pr) = false := by simpa using h2
          by_cases h3 : t.dp = 0
          · have q4 : (t.dp != 0) = false := by simpa using h3
            have Hno := Lib.hid (show ¬ (t.pr ≠ l.getD 9 0 ∨ (t.pr = 1 ∧ t.dp ≠ 0)) by rw [← Hp9.out]; omega)
            clear h1 h2 h3
            cases hop with
            | false =>
              have He := Lib.hid (show errRw l t false = 0 by unfold errRw; rw [if_neg (fun h => h He0.out), if_neg (by rw [Hpk.out, HI.out]; simp), if_neg Hno.out, if_neg (by simp)])
              have Hh8 := Lib.hid (show false = true → 1 < l.getD 8 0 from fun h => by cases h)
              have HLe0 := Lib.hid (show rwB l (rwK l t false) = L by rw [← HL.out]; unfold rwT; rw [if_pos He.out])
              have HMw := Lib.hid (rw_may (b := l) (t := t) (hop := false) Hby.out HT.out (fun h => Hh8.out h))
              have hkeys := may_keys Hby.out He0.out HMw.out
              rw [Hlen.out] at hkeys
              have HKy := Lib.hid hkeys
              clear hkeys
              have Hf := Lib.hid (show fldW l = fldP p.h.pr (hdW l) by rw [Hp9.out]; rfl)
              go_wp2_with fail
              refine (bclone_any a0 n c l _ (Nat.le_trans Hn.out (by decide)) (HA.out.below HB4.out)).mono ?_
              rintro e w5 ⟨A5, c5, rfl, hc5, hcm, ho5, hb5⟩
              obtain ⟨g, rfl, hgB, hgl⟩ := ho5.addr (by have := Hl9.out; omega)
              have Hg := Lib.hid (And.intro hgB hgl)
              have HO5 := Lib.hid ho5
              have HB5 := Lib.hid (below_trans HB4.out hb5)
              have HKt := Lib.hid (show ∀ w', But (fun k => k = g) w5 w' → w'.heap[z]? = some (.cells #[.int .u8 p.h.to, .int .u16 p.h.id, .bool p.h.df, .int .u8 p.h.tt, .int .u8 p.h.pr, .int .u32 p.h.sr, .int .u32 p.h.ds, .slice a.AH a.nH a.cH, .int .u16 p.s.sp, .int .u16 p.s.dp, .int .u32 p.s.sq, .int .u32 p.s.ak, .int .u8 p.s.fl, .int .u16 p.s.wn, .int .u16 p.s.ug, .slice a.AO a.nO a.cO, .slice a.AD a.nD a.cD, .int .u16 p.u.sp, .int .u16 p.u.dp, .slice a.AU a.nU a.cU, .int .u8 p.m.ty, .int .u8 p.m.cd, .int .u32 p.m.rs, .slice a.AM a.nM a.cM] 35 (0, 0)) ∧ w'.heap[z0]? = some (.cells #[.int .u8 t.pr, .int .u32 t.sr, .int .u32 t.ds, .int .u16 t.sp, .int .u16 t.dp] 45 (0, 0)) from
                fun w' hb => ⟨hb.blk (blk_on HK4.out hb5) (by have := lt_of_block HK4.out; omega), hb.blk (blk_on HZ4.out hb5) (by have := lt_of_block HZ4.out; omega)⟩)
              have Hn2 := Lib.hid (show w.heap.size ≤ w4.heap.size from HB4.out.size)
              have HBt := Lib.hid (But.refl (fun k => k = g) w5)
              clear hgB hgl ho5 hb5 hc5 hcm k0 k1 k2 k3 k4 k5 k6 k7 j0 j1 j2 j3 j4
              obtain ⟨k0, k1, k2, k3, k4, k5, k6, k7, -⟩ := cells24 (HKt.out _ HBt.out).1
              go_wp2_with fail
              refine (changing_any p.h a.AH a.nH a.cH n c5 g (hdW l) _ Hg.out.2 Hop.out.1 Hop.out.2 (Nat.le_trans Hn.out (by decide)) Hpr.out).mono ?_
              rintro e w6 ⟨pb, pf, rfl, hch, hb6⟩
              have HC := Lib.hid hch
              have HBt := Lib.hid (But.of (S := fun k => k = g) hb6)
              have HO := Lib.hid (HO5.out.on hb6)
              clear hch hb6
              clear k0 k1 k2 k3 k4 k5 k6 k7
              obtain ⟨j0, j1, j2, j3, j4⟩ := row_at (C := #[]) (HKt.out _ HBt.out).2
              obtain ⟨s1, es1⟩ : ∃ y, t.sr / 65536 = y := ⟨_, rfl⟩
              obtain ⟨s2, es2⟩ : ∃ y, t.sr % 65536 = y := ⟨_, rfl⟩
              obtain ⟨s3, es3⟩ : ∃ y, t.ds / 65536 = y := ⟨_, rfl⟩
              obtain ⟨s4, es4⟩ : ∃ y, t.ds % 65536 = y := ⟨_, rfl⟩
              obtain ⟨M1, eM1⟩ : ∃ M, chW p.h.pr (hdW l) (fldP p.h.pr (hdW l)) l 6 s1 = M := ⟨_, rfl⟩
              obtain ⟨M2, eM2⟩ : ∃ M, chW p.h.pr (hdW l) (fldP p.h.pr (hdW l)) M1 7 s2 = M := ⟨_, rfl⟩
              obtain ⟨M3, eM3⟩ : ∃ M, chW p.h.pr (hdW l) (fldP p.h.pr (hdW l)) M2 8 s3 = M := ⟨_, rfl⟩
              obtain ⟨M4, eM4⟩ : ∃ M, chW p.h.pr (hdW l) (fldP p.h.pr (hdW l)) M3 9 s4 = M := ⟨_, rfl⟩
              have HS := Lib.hid (show U16 s1 ∧ U16 s2 ∧ U16 s3 ∧ U16 s4 by have := HT.out.sr; have := HT.out.ds; exact ⟨⟨by omega, by omega⟩, ⟨by omega, by omega⟩, ⟨by omega, by omega⟩, ⟨by omega, by omega⟩⟩)
              have HFb := Lib.hid (show 20 ≤ n ∧ 9 < fldP p.h.pr (hdW l) by have := HR.out.lay.h10; have := HR.out.lay.hF; have := HR.out.lay.len; have := HR.out.len; exact ⟨by omega, by omega⟩)
              have HR1 := Lib.hid (show RowW p.h.pr (hdW l) n M1 by rw [← eM1]; exact HR.out.step HS.out.1 (by decide) (by have := HFb.out; omega) (by have := HFb.out; omega))
              have HR2 := Lib.hid (show RowW p.h.pr (hdW l) n M2 by rw [← eM2]; exact HR1.out.step HS.out.2.1 (by decide) (by have := HFb.out; omega) (by have := HFb.out; omega))
              have HR3 := Lib.hid (show RowW p.h.pr (hdW l) n M3 by rw [← eM3]; exact HR2.out.step HS.out.2.2.1 (by decide) (by have := HFb.out; omega) (by have := HFb.out; omega))
              have HR4 := Lib.hid (show RowW p.h.pr (hdW l) n M4 by rw [← eM4]; exact HR3.out.step HS.out.2.2.2 (by decide) (by have := HFb.out; omega) (by have := HFb.out; omega))
              have ES := Lib.hid (show (t.sr / 65536 = s1 ∧ t.sr % 65536 = s2) ∧ t.ds / 65536 = s3 ∧ t.ds % 65536 = s4 from ⟨⟨es1, es2⟩, es3, es4⟩)
              have EM := Lib.hid (show (chW p.h.pr (hdW l) (fldP p.h.pr (hdW l)) l 6 s1 = M1 ∧ chW p.h.pr (hdW l) (fldP p.h.pr (hdW l)) M1 7 s2 = M2) ∧ chW p.h.pr (hdW l) (fldP p.h.pr (hdW l)) M2 8 s3 = M3 ∧ chW p.h.pr (hdW l) (fldP p.h.pr (hdW l)) M3 9 s4 = M4 from ⟨⟨eM1, eM2⟩, eM3, eM4⟩)
              clear es1 es2 es3 es4 eM1 eM2 eM3 eM4
              go_wp2_with fail
              refine (changelong_any w4.heap.size g n c5 pb pf (hdW l) p.h.pr l M1 M2 12 t.sr s1 s2 6 _ HC.out HR.out HO.out rfl (by decide) (by have := HFb.out; omega) HT.out.sr (by decide) (by have := HFb.out; omega) ES.out.1.1 ES.out.1.2 EM.out.1.1 EM.out.1.2).mono ?_
              rintro e w7 ⟨rfl, ho7, hb7⟩
              have HC := Lib.hid (HC.out.but hb7)
              have HO := Lib.hid ho7
              have HBt := Lib.hid (HBt.out.trans hb7)
              clear ho7 hb7 j0 j1 j2 j3 j4
              obtain ⟨j0, j1, j2, j3, j4⟩ := row_at (C := #[]) (HKt.out _ HBt.out).2
              go_wp2_with fail
              refine (changelong_any w4.heap.size g n c5 pb pf (hdW l) p.h.pr M2 M3 M4 16 t.ds s3 s4 8 _ HC.out HR2.out HO.out rfl (by decide) (by have := HFb.out; omega) HT.out.ds (by decide) (by have := HFb.out; omega) ES.out.2.1 ES.out.2.2 EM.out.2.1 EM.out.2.2).mono ?_
              rintro e w8 ⟨rfl, ho8, hb8⟩
              have HC := Lib.hid (HC.out.but hb8)
              have HO := Lib.hid ho8
              have HBt := Lib.hid (HBt.out.trans hb8)
              clear ho8 hb8 j0 j1 j2 j3 j4
              obtain ⟨k0, k1, k2, k3, k4, k5, k6, k7, -⟩ := cells24 (HKt.out _ HBt.out).1
              go_wp2_with fail
              refine (header_any p.h a.AH a.nH a.cH _ Hop.out.2).mono ?_
              rintro e w9 ⟨rfl, hb9⟩
              have HC := Lib.hid (HC.out.but (But.of hb9))
              have HO := Lib.hid (HO.out.on hb9)
              have HBt := Lib.hid (HBt.out.trans (But.of (S := fun k => k = g) hb9))
              clear hb9
              clear k0 k1 k2 k3 k4 k5 k6 k7
              have hah : IntKind.i64.wrap (20 + (a.nH : Int)) = 20 + (a.nH : Int) := IntWalk.i64_in _ (by have := Hop.out.2; omega)
              have hah0 : IntKind.i64.wrap (20 + (a.nH : Int) + 0) = 20 + (a.nH : Int) := by rw [Int.add_zero]; exact hah
              have hah2 : IntKind.i64.wrap (20 + (a.nH : Int) + 2) = 20 + (a.nH : Int) + 2 := IntWalk.i64_in _ (by have := Hop.out.2; omega)
              have hah4 : IntKind.i64.wrap (20 + (a.nH : Int) + 4) = 20 + (a.nH : Int) + 4 := IntWalk.i64_in _ (by have := Hop.out.2; omega)
              obtain ⟨j0, j1, j2, j3, j4⟩ := row_at (C := #[]) (HKt.out _ HBt.out).2
              have HkE := Lib.hid (HKy.out (hdW l + 2, t.sp) (by unfold rwK portK; rw [if_pos HE.out]; simp))
              obtain ⟨M6, eM6⟩ : ∃ M, chW p.h.pr (hdW l) (fldP p.h.pr (hdW l)) M4 (hdW l + 2) t.sp = M := ⟨_, rfl⟩
              have HR6 := Lib.hid (show RowW p.h.pr (hdW l) n M6 by rw [← eM6]; exact HR4.out.step HkE.out.2.2.2 HkE.out.1 (by rw [← Hf.out]; exact HkE.out.2.1) HkE.out.2.2.1)
              have EM6 := Lib.hid (show (portK l t).foldl (fun b q => chW p.h.pr (hdW l) (fldP p.h.pr (hdW l)) b q.1 q.2) M4 = M6 by unfold portK; rw [if_pos HE.out, ← eM6]; rfl)
              go_wp2_with fail
              refine (chg_told w4.heap.size g n c5 pb pf (hdW l) p.h.pr M4 M6 (20 + (a.nH : Int) + 4) t.sp (hdW l + 2) _ HC.out HR4.out HO.out (by have := Hop.out.1; omega) HkE.out.2.2.1 HkE.out.2.2.2 eM6).mono ?_
              rintro e w10 ⟨rfl, ho10, hb10⟩
              have HC := Lib.hid (HC.out.but hb10)
              have HO := Lib.hid ho10
              have HBt := Lib.hid (HBt.out.trans hb10)
              clear ho10 hb10 j0 j1 j2 j3 j4 eM6
              have HLe := Lib.hid (show M6 = L by
                rw [← HLe0.out, ← EM6.out]
                unfold rwB rwK rwW
                rw [Hf.out, ← Hp9.out, if_neg (by simp), List.append_nil, List.foldl_append]
                simp only [List.foldl_cons, List.foldl_nil]
                rw [ES.out.1.1, ES.out.1.2, ES.out.2.1, ES.out.2.2, EM.out.1.1, EM.out.1.2, EM.out.2.1, EM.out.2.2])
              go_wp2_with fail
              go_ret2
              have hlm : n = m := by rw [← Hm.out, ← HLe.out]; exact HR6.out.len.symm
              refine ⟨some ⟨g, 0, none⟩, c5, ?_, ?_, ?_⟩
              · show Ending.returned (.tuple #[.slice (some ⟨g, 0, none⟩) n c5, .int .i64 0]) = _
                rw [hlm, ← Hx.out, He.out]
              · rw [← hlm, ← HLe.out]; exact HO.out.mono Hn2.out
              · exact HB5.out.trans (HBt.out.below (fun k hk => by subst hk; have := Hg.out; have := Hn2.out; omega) HB5.out.size)
            | true =>
              by_cases ht1 : p.h.tt = 1
              · have q3 : (p.h.tt == 1) = true := by simpa using ht1
                have He := Lib.hid (show errRw l t true = 23 by unfold errRw; rw [if_neg (fun h => h He0.out), if_neg (by rw [Hpk.out, HI.out]; simp), if_neg Hno.out, if_pos ⟨rfl, by rw [← Hp8.out]; exact ht1⟩])
                clear ht1
                go_wp2_with fail
                go_ret2
                obtain ⟨rfl, rfl, rfl⟩ := rw_none HL.out Hm.out Hx.out He.out (by decide)
                exact ⟨none, 0, rfl, OwnB.nil _ _, HB4.out⟩
              · have q3 : (p.h.tt == 1) = false := by simpa using ht1
                have He := Lib.hid (show errRw l t true = 0 by unfold errRw; rw [if_neg (fun h => h He0.out), if_neg (by rw [Hpk.out, HI.out]; simp), if_neg Hno.out, if_neg (fun h => ht1 (by rw [Hp8.out]; exact h.2))])
                have Hh8 := Lib.hid (show true = true → 1 < l.getD 8 0 from fun _ => by have := ttl_pos Hby.out He0.out; have := Hp8.out; omega)
                have HLe0 := Lib.hid (show rwB l (rwK l t true) = L by rw [← HL.out]; unfold rwT; rw [if_pos He.out])
                clear ht1
                have HMw := Lib.hid (rw_may (b := l) (t := t) (hop := true) Hby.out HT.out (fun h => Hh8.out h))
                have hkeys := may_keys Hby.out He0.out HMw.out
                rw [Hlen.out] at hkeys
                have HKy := Lib.hid hkeys
                clear hkeys
                have Hf := Lib.hid (show fldW l = fldP p.h.pr (hdW l) by rw [Hp9.out]; rfl)
                go_wp2_with fail
                refine (bclone_any a0 n c l _ (Nat.le_trans Hn.out (by decide)) (HA.out.below HB4.out)).mono ?_
                rintro e w5 ⟨A5, c5, rfl, hc5, hcm, ho5, hb5⟩
                obtain ⟨g, rfl, hgB, hgl⟩ := ho5.addr (by have := Hl9.out; omega)
                have Hg := Lib.hid (And.intro hgB hgl)
                have HO5 := Lib.hid ho5
                have HB5 := Lib.hid (below_trans HB4.out hb5)
                have HKt := Lib.hid (show ∀ w', But (fun k => k = g) w5 w' → w'.heap[z]? = some (.cells #[.int .u8 p.h.to, .int .u16 p.h.id, .bool p.h.df, .int .u8 p.h.tt, .int .u8 p.h.pr, .int .u32 p.h.sr, .int .u32 p.h.ds, .slice a.AH a.nH a.cH, .int .u16 p.s.sp, .int .u16 p.s.dp, .int .u32 p.s.sq, .int .u32 p.s.ak, .int .u8 p.s.fl, .int .u16 p.s.wn, .int .u16 p.s.ug, .slice a.AO a.nO a.cO, .slice a.AD a.nD a.cD, .int .u16 p.u.sp, .int .u16 p.u.dp, .slice a.AU a.nU a.cU, .int .u8 p.m.ty, .int .u8 p.m.cd, .int .u32 p.m.rs, .slice a.AM a.nM a.cM] 35 (0, 0)) ∧ w'.heap[z0]? = some (.cells #[.int .u8 t.pr, .int .u32 t.sr, .int .u32 t.ds, .int .u16 t.sp, .int .u16 t.dp] 45 (0, 0)) from
                  fun w' hb => ⟨hb.blk (blk_on HK4.out hb5) (by have := lt_of_block HK4.out; omega), hb.blk (blk_on HZ4.out hb5) (by have := lt_of_block HZ4.out; omega)⟩)
                have Hn2 := Lib.hid (show w.heap.size ≤ w4.heap.size from HB4.out.size)
                have HBt := Lib.hid (But.refl (fun k => k = g) w5)
                clear hgB hgl ho5 hb5 hc5 hcm k0 k1 k2 k3 k4 k5 k6 k7 j0 j1 j2 j3 j4
                obtain ⟨k0, k1, k2, k3, k4, k5, k6, k7, -⟩ := cells24 (HKt.out _ HBt.out).1
                go_wp2_with fail
                refine (changing_any p.h a.AH a.nH a.cH n c5 g (hdW l) _ Hg.out.2 Hop.out.1 Hop.out.2 (Nat.le_trans Hn.out (by decide)) Hpr.out).mono ?_
                rintro e w6 ⟨pb, pf, rfl, hch, hb6⟩
                have HC := Lib.hid hch
                have HBt := Lib.hid (But.of (S := fun k => k = g) hb6)
                have HO := Lib.hid (HO5.out.on hb6)
                clear hch hb6
                clear k0 k1 k2 k3 k4 k5 k6 k7
                obtain ⟨j0, j1, j2, j3, j4⟩ := row_at (C := #[]) (HKt.out _ HBt.out).2
                obtain ⟨s1, es1⟩ : ∃ y, t.sr / 65536 = y := ⟨_, rfl⟩
                obtain ⟨s2, es2⟩ : ∃ y, t.sr % 65536 = y := ⟨_, rfl⟩
                obtain ⟨s3, es3⟩ : ∃ y, t.ds / 65536 = y := ⟨_, rfl⟩
                obtain ⟨s4, es4⟩ : ∃ y, t.ds % 65536 = y := ⟨_, rfl⟩
                obtain ⟨M1, eM1⟩ : ∃ M, chW p.h.pr (hdW l) (fldP p.h.pr (hdW l)) l 6 s1 = M := ⟨_, rfl⟩
                obtain ⟨M2, eM2⟩ : ∃ M, chW p.h.pr (hdW l) (fldP p.h.pr (hdW l)) M1 7 s2 = M := ⟨_, rfl⟩
                obtain ⟨M3, eM3⟩ : ∃ M, chW p.h.pr (hdW l) (fldP p.h.pr (hdW l)) M2 8 s3 = M := ⟨_, rfl⟩
                obtain ⟨M4, eM4⟩ : ∃ M, chW p.h.pr (hdW l) (fldP p.h.pr (hdW l)) M3 9 s4 = M := ⟨_, rfl⟩
                have HS := Lib.hid (show U16 s1 ∧ U16 s2 ∧ U16 s3 ∧ U16 s4 by have := HT.out.sr; have := HT.out.ds; exact ⟨⟨by omega, by omega⟩, ⟨by omega, by omega⟩, ⟨by omega, by omega⟩, ⟨by omega, by omega⟩⟩)
                have HFb := Lib.hid (show 20 ≤ n ∧ 9 < fldP p.h.pr (hdW l) by have := HR.out.lay.h10; have := HR.out.lay.hF; have := HR.out.lay.len; have := HR.out.len; exact ⟨by omega, by omega⟩)
                have HR1 := Lib.hid (show RowW p.h.pr (hdW l) n M1 by rw [← eM1]; exact HR.out.step HS.out.1 (by decide) (by have := HFb.out; omega) (by have := HFb.out; omega))
                have HR2 := Lib.hid (show RowW p.h.pr (hdW l) n M2 by rw [← eM2]; exact HR1.out.step HS.out.2.1 (by decide) (by have := HFb.out; omega) (by have := HFb.out; omega))
                have HR3 := Lib.hid (show RowW p.h.pr (hdW l) n M3 by rw [← eM3]; exact HR2.out.step HS.out.2.2.1 (by decide) (by have := HFb.out; omega) (by have := HFb.out; omega))
                have HR4 := Lib.hid (show RowW p.h.pr (hdW l) n M4 by rw [← eM4]; exact HR3.out.step HS.out.2.2.2 (by decide) (by have := HFb.out; omega) (by have := HFb.out; omega))
                have ES := Lib.hid (show (t.sr / 65536 = s1 ∧ t.sr % 65536 = s2) ∧ t.ds / 65536 = s3 ∧ t.ds % 65536 = s4 from ⟨⟨es1, es2⟩, es3, es4⟩)
                have EM := Lib.hid (show (chW p.h.pr (hdW l) (fldP p.h.pr (hdW l)) l 6 s1 = M1 ∧ chW p.h.pr (hdW l) (fldP p.h.pr (hdW l)) M1 7 s2 = M2) ∧ chW p.h.pr (hdW l) (fldP p.h.pr (hdW l)) M2 8 s3 = M3 ∧ chW p.h.pr (hdW l) (fldP p.h.pr (hdW l)) M3 9 s4 = M4 from ⟨⟨eM1, eM2⟩, eM3, eM4⟩)
                clear es1 es2 es3 es4 eM1 eM2 eM3 eM4
                go_wp2_with fail
                refine (changelong_any w4.heap.size g n c5 pb pf (hdW l) p.h.pr l M1 M2 12 t.sr s1 s2 6 _ HC.out HR.out HO.out rfl (by decide) (by have := HFb.out; omega) HT.out.sr (by decide) (by have := HFb.out; omega) ES.out.1.1 ES.out.1.2 EM.out.1.1 EM.out.1.2).mono ?_
                rintro e w7 ⟨rfl, ho7, hb7⟩
                have HC := Lib.hid (HC.out.but hb7)
                have HO := Lib.hid ho7
                have HBt := Lib.hid (HBt.out.trans hb7)
                clear ho7 hb7 j0 j1 j2 j3 j4
                obtain ⟨j0, j1, j2, j3, j4⟩ := row_at (C := #[]) (HKt.out _ HBt.out).2
                go_wp2_with fail
                refine (changelong_any w4.heap.size g n c5 pb pf (hdW l) p.h.pr M2 M3 M4 16 t.ds s3 s4 8 _ HC.out HR2.out HO.out rfl (by decide) (by have := HFb.out; omega) HT.out.ds (by decide) (by have := HFb.out; omega) ES.out.2.1 ES.out.2.2 EM.out.2.1 EM.out.2.2).mono ?_
                rintro e w8 ⟨rfl, ho8, hb8⟩
                have HC := Lib.hid (HC.out.but hb8)
                have HO := Lib.hid ho8
                have HBt := Lib.hid (HBt.out.trans hb8)
                clear ho8 hb8 j0 j1 j2 j3 j4
                obtain ⟨k0, k1, k2, k3, k4, k5, k6, k7, -⟩ := cells24 (HKt.out _ HBt.out).1
                go_wp2_with fail
                refine (header_any p.h a.AH a.nH a.cH _ Hop.out.2).mono ?_
                rintro e w9 ⟨rfl, hb9⟩
                have HC := Lib.hid (HC.out.but (But.of hb9))
                have HO := Lib.hid (HO.out.on hb9)
                have HBt := Lib.hid (HBt.out.trans (But.of (S := fun k => k = g) hb9))
                clear hb9
                clear k0 k1 k2 k3 k4 k5 k6 k7
                have hah : IntKind.i64.wrap (20 + (a.nH : Int)) = 20 + (a.nH : Int) := IntWalk.i64_in _ (by have := Hop.out.2; omega)
                have hah0 : IntKind.i64.wrap (20 + (a.nH : Int) + 0) = 20 + (a.nH : Int) := by rw [Int.add_zero]; exact hah
                have hah2 : IntKind.i64.wrap (20 + (a.nH : Int) + 2) = 20 + (a.nH : Int) + 2 := IntWalk.i64_in _ (by have := Hop.out.2; omega)
                have hah4 : IntKind.i64.wrap (20 + (a.nH : Int) + 4) = 20 + (a.nH : Int) + 4 := IntWalk.i64_in _ (by have := Hop.out.2; omega)
                obtain ⟨j0, j1, j2, j3, j4⟩ := row_at (C := #[]) (HKt.out _ HBt.out).2
                have HkE := Lib.hid (HKy.out (hdW l + 2, t.sp) (by unfold rwK portK; rw [if_pos HE.out]; simp))
                obtain ⟨M6, eM6⟩ : ∃ M, chW p.h.pr (hdW l) (fldP p.h.pr (hdW l)) M4 (hdW l + 2) t.sp = M := ⟨_, rfl⟩
                have HR6 := Lib.hid (show RowW p.h.pr (hdW l) n M6 by rw [← eM6]; exact HR4.out.step HkE.out.2.2.2 HkE.out.1 (by rw [← Hf.out]; exact HkE.out.2.1) HkE.out.2.2.1)
                have EM6 := Lib.hid (show (portK l t).foldl (fun b q => chW p.h.pr (hdW l) (fldP p.h.pr (hdW l)) b q.1 q.2) M4 = M6 by unfold portK; rw [if_pos HE.out, ← eM6]; rfl)
                go_wp2_with fail
                refine (chg_told w4.heap.size g n c5 pb pf (hdW l) p.h.pr M4 M6 (20 + (a.nH : Int) + 4) t.sp (hdW l + 2) _ HC.out HR4.out HO.out (by have := Hop.out.1; omega) HkE.out.2.2.1 HkE.out.2.2.2 eM6).mono ?_
                rintro e w10 ⟨rfl, ho10, hb10⟩
                have HC := Lib.hid (HC.out.but hb10)
                have HO := Lib.hid ho10
                have HBt := Lib.hid (HBt.out.trans hb10)
                clear ho10 hb10 j0 j1 j2 j3 j4 eM6
                obtain ⟨x4, ex4⟩ : ∃ y, (p.h.tt - 1) * 256 + p.h.pr = y := ⟨_, rfl⟩
                obtain ⟨M7, eM7⟩ : ∃ M, chW p.h.pr (hdW l) (fldP p.h.pr (hdW l)) M6 4 x4 = M := ⟨_, rfl⟩
                have Hx4 := Lib.hid ex4
                have HM7 := Lib.hid eM7
                have Htt := Lib.hid (show 1 ≤ p.h.tt ∧ p.h.tt < 256 by have := Hh8.out (by first | exact trivial | rfl); have := Hp8.out; have := Hpb.out; exact ⟨by omega, by omega⟩)
                have HR7 := Lib.hid (show RowW p.h.pr (hdW l) n M7 by rw [← eM7]; exact HR6.out.step (by rw [← ex4]; have := Htt.out; have := Hpb.out; exact ⟨by omega, by omega⟩) (by decide) (by have := HFb.out; omega) (by have := HFb.out; omega))
                have HLe := Lib.hid (show M7 = L by
                  rw [← HLe0.out, ← eM7, ← EM6.out, ← ex4]
                  unfold rwB rwK rwW
                  rw [Hf.out, ← Hp9.out, if_pos rfl, List.foldl_append, List.foldl_append]
                  unfold hopK
                  simp only [List.foldl_cons, List.foldl_nil]
                  rw [ES.out.1.1, ES.out.1.2, ES.out.2.1, ES.out.2.2, EM.out.1.1, EM.out.1.2, EM.out.2.1, EM.out.2.2, Hp8.out, Hp9.out])
                clear ex4 eM7
                obtain ⟨k0, k1, k2, k3, k4, k5, k6, k7, -⟩ := cells24 (HKt.out _ HBt.out).1
                go_wp2_with fail
                refine (changettl_any w4.heap.size g n c5 pb pf (hdW l) p.h a.AH a.nH a.cH M6 M7 x4 _ HC.out HR6.out HO.out Hl9.out Htt.out Hpb.out.2 Hx4.out HM7.out).mono ?_
                rintro e w12 ⟨rfl, ho12, hb12⟩
                have HO := Lib.hid ho12
                have HBt := Lib.hid (HBt.out.trans hb12)
                clear ho12 hb12
                clear k0 k1 k2 k3 k4 k5 k6 k7
                go_wp2_with fail
                go_ret2
                have hlm : n = m := by rw [← Hm.out, ← HLe.out]; exact HR7.out.len.symm
                refine ⟨some ⟨g, 0, none⟩, c5, ?_, ?_, ?_⟩
                · show Ending.returned (.tuple #[.slice (some ⟨g, 0, none⟩) n c5, .int .i64 0]) = _
                  rw [hlm, ← Hx.out, He.out]
                · rw [← hlm, ← HLe.out]; exact HO.out.mono Hn2.out
                · exact HB5.out.trans (HBt.out.below (fun k hk => by subst hk; have := Hg.out; have := Hn2.out; omega) HB5.out.size)
          · have q4 : (t.dp != 0) = true := by simpa using h3
            have He := Lib.hid (show errRw l t hop = 1 by unfold errRw; rw [if_neg (fun h => h He0.out), if_neg (by rw [Hpk.out, HI.out]; simp), if_pos (by right; omega)])
            clear h1 h2 h3
            go_wp2_with fail
            go_ret2
            obtain ⟨rfl, rfl, rfl⟩ := rw_none HL.out Hm.out Hx.out He.out (by decide)
            exact ⟨none, 0, rfl, OwnB.nil _ _, HB4.out⟩
        · have q2 : (t.pr != p.h.pr) = true := by simpa using h2
          have He := Lib.hid (show errRw l t hop = 1 by unfold errRw; rw [if_neg (fun h => h He0.out), if_neg (by rw [Hpk.out, HI.out]; simp), if_pos (by left; rw [← Hp9.out]; exact h2)])
          clear h1 h2
          go_wp2_with fail
          go_ret2
          obtain ⟨rfl, rfl, rfl⟩ := rw_none HL.out Hm.out Hx.out He.out (by decide)
          exact ⟨none, 0, rfl, OwnB.nil _ _, HB4.out⟩
      · have q1 : (p.h.pr == 1) = false := by simpa using h1
        have HE := Lib.hid (show l.getD 9 0 ≠ 1 by rw [← Hp9.out]; exact h1)
        by_cases h2 : t.pr = p.h.pr
        · have q2 : (t.pr != p.h.pr) = false := by simpa using h2
          have Hno := Lib.hid (show ¬ (t.pr ≠ l.getD 9 0 ∨ (t.pr = 1 ∧ t.dp ≠ 0)) by rw [← Hp9.out]; omega)
          clear h1 h2
          cases hop with
          | false =>
            have He := Lib.hid (show errRw l t false = 0 by unfold errRw; rw [if_neg (fun h => h He0.out), if_neg (by rw [Hpk.out, HI.out]; simp), if_neg Hno.out, if_neg (by simp)])
            have Hh8 := Lib.hid (show false = true → 1 < l.getD 8 0 from fun h => by cases h)
            have HLe0 := Lib.hid (show rwB l (rwK l t false) = L by rw [← HL.out]; unfold rwT; rw [if_pos He.out])
            have HMw := Lib.hid (rw_may (b := l) (t := t) (hop := false) Hby.out HT.out (fun h => Hh8.out h))
            have hkeys := may_keys Hby.out He0.out HMw.out
            rw [Hlen.out] at hkeys
            have HKy := Lib.hid hkeys
            clear hkeys
            have Hf := Lib.hid (show fldW l = fldP p.h.pr (hdW l) by rw [Hp9.out]; rfl)
            go_wp2_with fail
            refine (bclone_any a0 n c l _ (Nat.le_trans Hn.out (by decide)) (HA.out.below HB4.out)).mono ?_
            rintro e w5 ⟨A5, c5, rfl, hc5, hcm, ho5, hb5⟩
            obtain ⟨g, rfl, hgB, hgl⟩ := ho5.addr (by have := Hl9.out; omega)
            have Hg := Lib.hid (And.intro hgB hgl)
            have HO5 := Lib.hid ho5
            have HB5 := Lib.hid (below_trans HB4.out hb5)
            have HKt := Lib.hid (show ∀ w', But (fun k => k = g) w5 w' → w'.heap[z]? = some (.cells #[.int .u8 p.h.to, .int .u16 p.h.id, .bool p.h.df, .int .u8 p.h.tt, .int .u8 p.h.pr, .int .u32 p.h.sr, .int .u32 p.h.ds, .slice a.AH a.nH a.cH, .int .u16 p.s.sp, .int .u16 p.s.dp, .int .u32 p.s.sq, .int .u32 p.s.ak, .int .u8 p.s.fl, .int .u16 p.s.wn, .int .u16 p.s.ug, .slice a.AO a.nO a.cO, .slice a.AD a.nD a.cD, .int .u16 p.u.sp, .int .u16 p.u.dp, .slice a.AU a.nU a.cU, .int .u8 p.m.ty, .int .u8 p.m.cd, .int .u32 p.m.rs, .slice a.AM a.nM a.cM] 35 (0, 0)) ∧ w'.heap[z0]? = some (.cells #[.int .u8 t.pr, .int .u32 t.sr, .int .u32 t.ds, .int .u16 t.sp, .int .u16 t.dp] 45 (0, 0)) from
              fun w' hb => ⟨hb.blk (blk_on HK4.out hb5) (by have := lt_of_block HK4.out; omega), hb.blk (blk_on HZ4.out hb5) (by have := lt_of_block HZ4.out; omega)⟩)
            have Hn2 := Lib.hid (show w.heap.size ≤ w4.heap.size from HB4.out.size)
            have HBt := Lib.hid (But.refl (fun k => k = g) w5)
            clear hgB hgl ho5 hb5 hc5 hcm k0 k1 k2 k3 k4 k5 k6 k7 j0 j1 j2 j3 j4
            obtain ⟨k0, k1, k2, k3, k4, k5, k6, k7, -⟩ := cells24 (HKt.out _ HBt.out).1
            go_wp2_with fail
            refine (changing_any p.h a.AH a.nH a.cH n c5 g (hdW l) _ Hg.out.2 Hop.out.1 Hop.out.2 (Nat.le_trans Hn.out (by decide)) Hpr.out).mono ?_
            rintro e w6 ⟨pb, pf, rfl, hch, hb6⟩
            have HC := Lib.hid hch
            have HBt := Lib.hid (But.of (S := fun k => k = g) hb6)
            have HO := Lib.hid (HO5.out.on hb6)
            clear hch hb6
            clear k0 k1 k2 k3 k4 k5 k6 k7
            obtain ⟨j0, j1, j2, j3, j4⟩ := row_at (C := #[]) (HKt.out _ HBt.out).2
            obtain ⟨s1, es1⟩ : ∃ y, t.sr / 65536 = y := ⟨_, rfl⟩
            obtain ⟨s2, es2⟩ : ∃ y, t.sr % 65536 = y := ⟨_, rfl⟩
            obtain ⟨s3, es3⟩ : ∃ y, t.ds / 65536 = y := ⟨_, rfl⟩
            obtain ⟨s4, es4⟩ : ∃ y, t.ds % 65536 = y := ⟨_, rfl⟩
            obtain ⟨M1, eM1⟩ : ∃ M, chW p.h.pr (hdW l) (fldP p.h.pr (hdW l)) l 6 s1 = M := ⟨_, rfl⟩
            obtain ⟨M2, eM2⟩ : ∃ M, chW p.h.pr (hdW l) (fldP p.h.pr (hdW l)) M1 7 s2 = M := ⟨_, rfl⟩
            obtain ⟨M3, eM3⟩ : ∃ M, chW p.h.pr (hdW l) (fldP p.h.pr (hdW l)) M2 8 s3 = M := ⟨_, rfl⟩
            obtain ⟨M4, eM4⟩ : ∃ M, chW p.h.pr (hdW l) (fldP p.h.pr (hdW l)) M3 9 s4 = M := ⟨_, rfl⟩
            have HS := Lib.hid (show U16 s1 ∧ U16 s2 ∧ U16 s3 ∧ U16 s4 by have := HT.out.sr; have := HT.out.ds; exact ⟨⟨by omega, by omega⟩, ⟨by omega, by omega⟩, ⟨by omega, by omega⟩, ⟨by omega, by omega⟩⟩)
            have HFb := Lib.hid (show 20 ≤ n ∧ 9 < fldP p.h.pr (hdW l) by have := HR.out.lay.h10; have := HR.out.lay.hF; have := HR.out.lay.len; have := HR.out.len; exact ⟨by omega, by omega⟩)
            have HR1 := Lib.hid (show RowW p.h.pr (hdW l) n M1 by rw [← eM1]; exact HR.out.step HS.out.1 (by decide) (by have := HFb.out; omega) (by have := HFb.out; omega))
            have HR2 := Lib.hid (show RowW p.h.pr (hdW l) n M2 by rw [← eM2]; exact HR1.out.step HS.out.2.1 (by decide) (by have := HFb.out; omega) (by have := HFb.out; omega))
            have HR3 := Lib.hid (show RowW p.h.pr (hdW l) n M3 by rw [← eM3]; exact HR2.out.step HS.out.2.2.1 (by decide) (by have := HFb.out; omega) (by have := HFb.out; omega))
            have HR4 := Lib.hid (show RowW p.h.pr (hdW l) n M4 by rw [← eM4]; exact HR3.out.step HS.out.2.2.2 (by decide) (by have := HFb.out; omega) (by have := HFb.out; omega))
            have ES := Lib.hid (show (t.sr / 65536 = s1 ∧ t.sr % 65536 = s2) ∧ t.ds / 65536 = s3 ∧ t.ds % 65536 = s4 from ⟨⟨es1, es2⟩, es3, es4⟩)
            have EM := Lib.hid (show (chW p.h.pr (hdW l) (fldP p.h.pr (hdW l)) l 6 s1 = M1 ∧ chW p.h.pr (hdW l) (fldP p.h.pr (hdW l)) M1 7 s2 = M2) ∧ chW p.h.pr (hdW l) (fldP p.h.pr (hdW l)) M2 8 s3 = M3 ∧ chW p.h.pr (hdW l) (fldP p.h.pr (hdW l)) M3 9 s4 = M4 from ⟨⟨eM1, eM2⟩, eM3, eM4⟩)
            clear es1 es2 es3 es4 eM1 eM2 eM3 eM4
            go_wp2_with fail
            refine (changelong_any w4.heap.size g n c5 pb pf (hdW l) p.h.pr l M1 M2 12 t.sr s1 s2 6 _ HC.out HR.out HO.out rfl (by decide) (by have := HFb.out; omega) HT.out.sr (by decide) (by have := HFb.out; omega) ES.out.1.1 ES.out.1.2 EM.out.1.1 EM.out.1.2).mono ?_
            rintro e w7 ⟨rfl, ho7, hb7⟩
            have HC := Lib.hid (HC.out.but hb7)
            have HO := Lib.hid ho7
            have HBt := Lib.hid (HBt.out.trans hb7)
            clear ho7 hb7 j0 j1 j2 j3 j4
            obtain ⟨j0, j1, j2, j3, j4⟩ := row_at (C := #[]) (HKt.out _ HBt.out).2
            go_wp2_with fail
            refine (changelong_any w4.heap.size g n c5 pb pf (hdW l) p.h.pr M2 M3 M4 16 t.ds s3 s4 8 _ HC.out HR2.out HO.out rfl (by decide) (by have := HFb.out; omega) HT.out.ds (by decide) (by have := HFb.out; omega) ES.out.2.1 ES.out.2.2 EM.out.2.1 EM.out.2.2).mono ?_
            rintro e w8 ⟨rfl, ho8, hb8⟩
            have HC := Lib.hid (HC.out.but hb8)
            have HO := Lib.hid ho8
            have HBt := Lib.hid (HBt.out.trans hb8)
            clear ho8 hb8 j0 j1 j2 j3 j4
            obtain ⟨k0, k1, k2, k3, k4, k5, k6, k7, -⟩ := cells24 (HKt.out _ HBt.out).1
            go_wp2_with fail
            refine (header_any p.h a.AH a.nH a.cH _ Hop.out.2).mono ?_
            rintro e w9 ⟨rfl, hb9⟩
            have HC := Lib.hid (HC.out.but (But.of hb9))
            have HO := Lib.hid (HO.out.on hb9)
            have HBt := Lib.hid (HBt.out.trans (But.of (S := fun k => k = g) hb9))
            clear hb9
            clear k0 k1 k2 k3 k4 k5 k6 k7
            have hah : IntKind.i64.wrap (20 + (a.nH : Int)) = 20 + (a.nH : Int) := IntWalk.i64_in _ (by have := Hop.out.2; omega)
            have hah0 : IntKind.i64.wrap (20 + (a.nH : Int) + 0) = 20 + (a.nH : Int) := by rw [Int.add_zero]; exact hah
            have hah2 : IntKind.i64.wrap (20 + (a.nH : Int) + 2) = 20 + (a.nH : Int) + 2 := IntWalk.i64_in _ (by have := Hop.out.2; omega)
            have hah4 : IntKind.i64.wrap (20 + (a.nH : Int) + 4) = 20 + (a.nH : Int) + 4 := IntWalk.i64_in _ (by have := Hop.out.2; omega)
            obtain ⟨j0, j1, j2, j3, j4⟩ := row_at (C := #[]) (HKt.out _ HBt.out).2
            have HkE := Lib.hid (HKy.out (hdW l, t.sp) (by unfold rwK portK; rw [if_neg HE.out]; simp))
            have HkD := Lib.hid (HKy.out (hdW l + 1, t.dp) (by unfold rwK portK; rw [if_neg HE.out]; simp))
            obtain ⟨M5, eM5⟩ : ∃ M, chW p.h.pr (hdW l) (fldP p.h.pr (hdW l)) M4 (hdW l) t.sp = M := ⟨_, rfl⟩
            have HR5 := Lib.hid (show RowW p.h.pr (hdW l) n M5 by rw [← eM5]; exact HR4.out.step HkE.out.2.2.2 HkE.out.1 (by rw [← Hf.out]; exact HkE.out.2.1) HkE.out.2.2.1)
            obtain ⟨M6, eM6⟩ : ∃ M, chW p.h.pr (hdW l) (fldP p.h.pr (hdW l)) M5 (hdW l + 1) t.dp = M := ⟨_, rfl⟩
            have HR6 := Lib.hid (show RowW p.h.pr (hdW l) n M6 by rw [← eM6]; exact HR5.out.step HkD.out.2.2.2 HkD.out.1 (by rw [← Hf.out]; exact HkD.out.2.1) HkD.out.2.2.1)
            have EM6 := Lib.hid (show (portK l t).foldl (fun b q => chW p.h.pr (hdW l) (fldP p.h.pr (hdW l)) b q.1 q.2) M4 = M6 by unfold portK; rw [if_neg HE.out, ← eM6, ← eM5]; rfl)
            go_wp2_with fail
            refine (chg_told w4.heap.size g n c5 pb pf (hdW l) p.h.pr M4 M5 (20 + (a.nH : Int)) t.sp (hdW l) _ HC.out HR4.out HO.out Hop.out.1 HkE.out.2.2.1 HkE.out.2.2.2 eM5).mono ?_
            rintro e w10 ⟨rfl, ho10, hb10⟩
            have HC := Lib.hid (HC.out.but hb10)
            have HO := Lib.hid ho10
            have HBt := Lib.hid (HBt.out.trans hb10)
            clear ho10 hb10 j0 j1 j2 j3 j4 eM5
            obtain ⟨j0, j1, j2, j3, j4⟩ := row_at (C := #[]) (HKt.out _ HBt.out).2
            go_wp2_with fail
            refine (chg_told w4.heap.size g n c5 pb pf (hdW l) p.h.pr M5 M6 (20 + (a.nH : Int) + 2) t.dp (hdW l + 1) _ HC.out HR5.out HO.out (by have := Hop.out.1; omega) HkD.out.2.2.1 HkD.out.2.2.2 eM6).mono ?_
            rintro e w11 ⟨rfl, ho11, hb11⟩
            have HC := Lib.hid (HC.out.but hb11)
            have HO := Lib.hid ho11
            have HBt := Lib.hid (HBt.out.trans hb11)
            clear ho11 hb11 j0 j1 j2 j3 j4 eM6
            have HLe := Lib.hid (show M6 = L by
              rw [← HLe0.out, ← EM6.out]
              unfold rwB rwK rwW
              rw [Hf.out, ← Hp9.out, if_neg (by simp), List.append_nil, List.foldl_append]
              simp only [List.foldl_cons, List.foldl_nil]
              rw [ES.out.1.1, ES.out.1.2, ES.out.2.1, ES.out.2.2, EM.out.1.1, EM.out.1.2, EM.out.2.1, EM.out.2.2])
            go_wp2_with fail
            go_ret2
            have hlm : n = m := by rw [← Hm.out, ← HLe.out]; exact HR6.out.len.symm
            refine ⟨some ⟨g, 0, none⟩, c5, ?_, ?_, ?_⟩
            · show Ending.returned (.tuple #[.slice (some ⟨g, 0, none⟩) n c5, .int .i64 0]) = _
              rw [hlm, ← Hx.out, He.out]
            · rw [← hlm, ← HLe.out]; exact HO.out.mono Hn2.out
            · exact HB5.out.trans (HBt.out.below (fun k hk => by subst hk; have := Hg.out; have := Hn2.out; omega) HB5.out.size)
          | true =>
            by_cases ht1 : p.h.tt = 1
            · have q3 : (p.h.tt == 1) = true := by simpa using ht1
              have He := Lib.hid (show errRw l t true = 23 by unfold errRw; rw [if_neg (fun h => h He0.out), if_neg (by rw [Hpk.out, HI.out]; simp), if_neg Hno.out, if_pos ⟨rfl, by rw [← Hp8.out]; exact ht1⟩])
              clear ht1
              go_wp2_with fail
              go_ret2
              obtain ⟨rfl, rfl, rfl⟩ := rw_none HL.out Hm.out Hx.out He.out (by decide)
              exact ⟨none, 0, rfl, OwnB.nil _ _, HB4.out⟩
            · have q3 : (p.h.tt == 1) = false := by simpa using ht1
              have He := Lib.hid (show errRw l t true = 0 by unfold errRw; rw [if_neg (fun h => h He0.out), if_neg (by rw [Hpk.out, HI.out]; simp), if_neg Hno.out, if_neg (fun h => ht1 (by rw [Hp8.out]; exact h.2))])
              have Hh8 := Lib.hid (show true = true → 1 < l.getD 8 0 from fun _ => by have := ttl_pos Hby.out He0.out; have := Hp8.out; omega)
              have HLe0 := Lib.hid (show rwB l (rwK l t true) = L by rw [← HL.out]; unfold rwT; rw [if_pos He.out])
              clear ht1
              have HMw := Lib.hid (rw_may (b := l) (t := t) (hop := true) Hby.out HT.out (fun h => Hh8.out h))
              have hkeys := may_keys Hby.out He0.out HMw.out
              rw [Hlen.out] at hkeys
              have HKy := Lib.hid hkeys
              clear hkeys
              have Hf := Lib.hid (show fldW l = fldP p.h.pr (hdW l) by rw [Hp9.out]; rfl)
              go_wp2_with fail
              refine (bclone_any a0 n c l _ (Nat.le_trans Hn.out (by decide)) (HA.out.below HB4.out)).mono ?_
              rintro e w5 ⟨A5, c5, rfl, hc5, hcm, ho5, hb5⟩
              obtain ⟨g, rfl, hgB, hgl⟩ := ho5.addr (by have := Hl9.out; omega)
              have Hg := Lib.hid (And.intro hgB hgl)
              have HO5 := Lib.hid ho5
              have HB5 := Lib.hid (below_trans HB4.out hb5)
              have HKt := Lib.hid (show ∀ w', But (fun k => k = g) w5 w' → w'.heap[z]? = some (.cells #[.int .u8 p.h.to, .int .u16 p.h.id, .bool p.h.df, .int .u8 p.h.tt, .int .u8 p.h.pr, .int .u32 p.h.sr, .int .u32 p.h.ds, .slice a.AH a.nH a.cH, .int .u16 p.s.sp, .int .u16 p.s.dp, .int .u32 p.s.sq, .int .u32 p.s.ak, .int .u8 p.s.fl, .int .u16 p.s.wn, .int .u16 p.s.ug, .slice a.AO a.nO a.cO, .slice a.AD a.nD a.cD, .int .u16 p.u.sp, .int .u16 p.u.dp, .slice a.AU a.nU a.cU, .int .u8 p.m.ty, .int .u8 p.m.cd, .int .u32 p.m.rs, .slice a.AM a.nM a.cM] 35 (0, 0)) ∧ w'.heap[z0]? = some (.cells #[.int .u8 t.pr, .int .u32 t.sr, .int .u32 t.ds, .int .u16 t.sp, .int .u16 t.dp] 45 (0, 0)) from
                fun w' hb => ⟨hb.blk (blk_on HK4.out hb5) (by have := lt_of_block HK4.out; omega), hb.blk (blk_on HZ4.out hb5) (by have := lt_of_block HZ4.out; omega)⟩)
              have Hn2 := Lib.hid (show w.heap.size ≤ w4.heap.size from HB4.out.size)
              have HBt := Lib.hid (But.refl (fun k => k = g) w5)
              clear hgB hgl ho5 hb5 hc5 hcm k0 k1 k2 k3 k4 k5 k6 k7 j0 j1 j2 j3 j4
              obtain ⟨k0, k1, k2, k3, k4, k5, k6, k7, -⟩ := cells24 (HKt.out _ HBt.out).1
              go_wp2_with fail
              refine (changing_any p.h a.AH a.nH a.cH n c5 g (hdW l) _ Hg.out.2 Hop.out.1 Hop.out.2 (Nat.le_trans Hn.out (by decide)) Hpr.out).mono ?_
              rintro e w6 ⟨pb, pf, rfl, hch, hb6⟩
              have HC := Lib.hid hch
              have HBt := Lib.hid (But.of (S := fun k => k = g) hb6)
              have HO := Lib.hid (HO5.out.on hb6)
              clear hch hb6
              clear k0 k1 k2 k3 k4 k5 k6 k7
              obtain ⟨j0, j1, j2, j3, j4⟩ := row_at (C := #[]) (HKt.out _ HBt.out).2
              obtain ⟨s1, es1⟩ : ∃ y, t.sr / 65536 = y := ⟨_, rfl⟩
              obtain ⟨s2, es2⟩ : ∃ y, t.sr % 65536 = y := ⟨_, rfl⟩
              obtain ⟨s3, es3⟩ : ∃ y, t.ds / 65536 = y := ⟨_, rfl⟩
              obtain ⟨s4, es4⟩ : ∃ y, t.ds % 65536 = y := ⟨_, rfl⟩
              obtain ⟨M1, eM1⟩ : ∃ M, chW p.h.pr (hdW l) (fldP p.h.pr (hdW l)) l 6 s1 = M := ⟨_, rfl⟩
              obtain ⟨M2, eM2⟩ : ∃ M, chW p.h.pr (hdW l) (fldP p.h.pr (hdW l)) M1 7 s2 = M := ⟨_, rfl⟩
              obtain ⟨M3, eM3⟩ : ∃ M, chW p.h.pr (hdW l) (fldP p.h.pr (hdW l)) M2 8 s3 = M := ⟨_, rfl⟩
              obtain ⟨M4, eM4⟩ : ∃ M, chW p.h.pr (hdW l) (fldP p.h.pr (hdW l)) M3 9 s4 = M := ⟨_, rfl⟩
              have HS := Lib.hid (show U16 s1 ∧ U16 s2 ∧ U16 s3 ∧ U16 s4 by have := HT.out.sr; have := HT.out.ds; exact ⟨⟨by omega, by omega⟩, ⟨by omega, by omega⟩, ⟨by omega, by omega⟩, ⟨by omega, by omega⟩⟩)
              have HFb := Lib.hid (show 20 ≤ n ∧ 9 < fldP p.h.pr (hdW l) by have := HR.out.lay.h10; have := HR.out.lay.hF; have := HR.out.lay.len; have := HR.out.len; exact ⟨by omega, by omega⟩)
              have HR1 := Lib.hid (show RowW p.h.pr (hdW l) n M1 by rw [← eM1]; exact HR.out.step HS.out.1 (by decide) (by have := HFb.out; omega) (by have := HFb.out; omega))
              have HR2 := Lib.hid (show RowW p.h.pr (hdW l) n M2 by rw [← eM2]; exact HR1.out.step HS.out.2.1 (by decide) (by have := HFb.out; omega) (by have := HFb.out; omega))
              have HR3 := Lib.hid (show RowW p.h.pr (hdW l) n M3 by rw [← eM3]; exact HR2.out.step HS.out.2.2.1 (by decide) (by have := HFb.out; omega) (by have := HFb.out; omega))
              have HR4 := Lib.hid (show RowW p.h.pr (hdW l) n M4 by rw [← eM4]; exact HR3.out.step HS.out.2.2.2 (by decide) (by have := HFb.out; omega) (by have := HFb.out; omega))
              have ES := Lib.hid (show (t.sr / 65536 = s1 ∧ t.sr % 65536 = s2) ∧ t.ds / 65536 = s3 ∧ t.ds % 65536 = s4 from ⟨⟨es1, es2⟩, es3, es4⟩)
              have EM := Lib.hid (show (chW p.h.pr (hdW l) (fldP p.h.pr (hdW l)) l 6 s1 = M1 ∧ chW p.h.pr (hdW l) (fldP p.h.pr (hdW l)) M1 7 s2 = M2) ∧ chW p.h.pr (hdW l) (fldP p.h.pr (hdW l)) M2 8 s3 = M3 ∧ chW p.h.pr (hdW l) (fldP p.h.pr (hdW l)) M3 9 s4 = M4 from ⟨⟨eM1, eM2⟩, eM3, eM4⟩)
              clear es1 es2 es3 es4 eM1 eM2 eM3 eM4
              go_wp2_with fail
              refine (changelong_any w4.heap.size g n c5 pb pf (hdW l) p.h.pr l M1 M2 12 t.sr s1 s2 6 _ HC.out HR.out HO.out rfl (by decide) (by have := HFb.out; omega) HT.out.sr (by decide) (by have := HFb.out; omega) ES.out.1.1 ES.out.1.2 EM.out.1.1 EM.out.1.2).mono ?_
              rintro e w7 ⟨rfl, ho7, hb7⟩
              have HC := Lib.hid (HC.out.but hb7)
              have HO := Lib.hid ho7
              have HBt := Lib.hid (HBt.out.trans hb7)
              clear ho7 hb7 j0 j1 j2 j3 j4
              obtain ⟨j0, j1, j2, j3, j4⟩ := row_at (C := #[]) (HKt.out _ HBt.out).2
              go_wp2_with fail
              refine (changelong_any w4.heap.size g n c5 pb pf (hdW l) p.h.pr M2 M3 M4 16 t.ds s3 s4 8 _ HC.out HR2.out HO.out rfl (by decide) (by have := HFb.out; omega) HT.out.ds (by decide) (by have := HFb.out; omega) ES.out.2.1 ES.out.2.2 EM.out.2.1 EM.out.2.2).mono ?_
              rintro e w8 ⟨rfl, ho8, hb8⟩
              have HC := Lib.hid (HC.out.but hb8)
              have HO := Lib.hid ho8
              have HBt := Lib.hid (HBt.out.trans hb8)
              clear ho8 hb8 j0 j1 j2 j3 j4
              obtain ⟨k0, k1, k2, k3, k4, k5, k6, k7, -⟩ := cells24 (HKt.out _ HBt.out).1
              go_wp2_with fail
              refine (header_any p.h a.AH a.nH a.cH _ Hop.out.2).mono ?_
              rintro e w9 ⟨rfl, hb9⟩
              have HC := Lib.hid (HC.out.but (But.of hb9))
              have HO := Lib.hid (HO.out.on hb9)
              have HBt := Lib.hid (HBt.out.trans (But.of (S := fun k => k = g) hb9))
              clear hb9
              clear k0 k1 k2 k3 k4 k5 k6 k7
              have hah : IntKind.i64.wrap (20 + (a.nH : Int)) = 20 + (a.nH : Int) := IntWalk.i64_in _ (by have := Hop.out.2; omega)
              have hah0 : IntKind.i64.wrap (20 + (a.nH : Int) + 0) = 20 + (a.nH : Int) := by rw [Int.add_zero]; exact hah
              have hah2 : IntKind.i64.wrap (20 + (a.nH : Int) + 2) = 20 + (a.nH : Int) + 2 := IntWalk.i64_in _ (by have := Hop.out.2; omega)
              have hah4 : IntKind.i64.wrap (20 + (a.nH : Int) + 4) = 20 + (a.nH : Int) + 4 := IntWalk.i64_in _ (by have := Hop.out.2; omega)
              obtain ⟨j0, j1, j2, j3, j4⟩ := row_at (C := #[]) (HKt.out _ HBt.out).2
              have HkE := Lib.hid (HKy.out (hdW l, t.sp) (by unfold rwK portK; rw [if_neg HE.out]; simp))
              have HkD := Lib.hid (HKy.out (hdW l + 1, t.dp) (by unfold rwK portK; rw [if_neg HE.out]; simp))
              obtain ⟨M5, eM5⟩ : ∃ M, chW p.h.pr (hdW l) (fldP p.h.pr (hdW l)) M4 (hdW l) t.sp = M := ⟨_, rfl⟩
              have HR5 := Lib.hid (show RowW p.h.pr (hdW l) n M5 by rw [← eM5]; exact HR4.out.step HkE.out.2.2.2 HkE.out.1 (by rw [← Hf.out]; exact HkE.out.2.1) HkE.out.2.2.1)
              obtain ⟨M6, eM6⟩ : ∃ M, chW p.h.pr (hdW l) (fldP p.h.pr (hdW l)) M5 (hdW l + 1) t.dp = M := ⟨_, rfl⟩
              have HR6 := Lib.hid (show RowW p.h.pr (hdW l) n M6 by rw [← eM6]; exact HR5.out.step HkD.out.2.2.2 HkD.out.1 (by rw [← Hf.out]; exact HkD.out.2.1) HkD.out.2.2.1)
              have EM6 := Lib.hid (show (portK l t).foldl (fun b q => chW p.h.pr (hdW l) (fldP p.h.pr (hdW l)) b q.1 q.2) M4 = M6 by unfold portK; rw [if_neg HE.out, ← eM6, ← eM5]; rfl)
              go_wp2_with fail
              refine (chg_told w4.heap.size g n c5 pb pf (hdW l) p.h.pr M4 M5 (20 + (a.nH : Int)) t.sp (hdW l) _ HC.out HR4.out HO.out Hop.out.1 HkE.out.2.2.1 HkE.out.2.2.2 eM5).mono ?_
              rintro e w10 ⟨rfl, ho10, hb10⟩
              have HC := Lib.hid (HC.out.but hb10)
              have HO := Lib.hid ho10
              have HBt := Lib.hid (HBt.out.trans hb10)
              clear ho10 hb10 j0 j1 j2 j3 j4 eM5
              obtain ⟨j0, j1, j2, j3, j4⟩ := row_at (C := #[]) (HKt.out _ HBt.out).2
              go_wp2_with fail
              refine (chg_told w4.heap.size g n c5 pb pf (hdW l) p.h.pr M5 M6 (20 + (a.nH : Int) + 2) t.dp (hdW l + 1) _ HC.out HR5.out HO.out (by have := Hop.out.1; omega) HkD.out.2.2.1 HkD.out.2.2.2 eM6).mono ?_
              rintro e w11 ⟨rfl, ho11, hb11⟩
              have HC := Lib.hid (HC.out.but hb11)
              have HO := Lib.hid ho11
              have HBt := Lib.hid (HBt.out.trans hb11)
              clear ho11 hb11 j0 j1 j2 j3 j4 eM6
              obtain ⟨x4, ex4⟩ : ∃ y, (p.h.tt - 1) * 256 + p.h.pr = y := ⟨_, rfl⟩
              obtain ⟨M7, eM7⟩ : ∃ M, chW p.h.pr (hdW l) (fldP p.h.pr (hdW l)) M6 4 x4 = M := ⟨_, rfl⟩
              have Hx4 := Lib.hid ex4
              have HM7 := Lib.hid eM7
              have Htt := Lib.hid (show 1 ≤ p.h.tt ∧ p.h.tt < 256 by have := Hh8.out (by first | exact trivial | rfl); have := Hp8.out; have := Hpb.out; exact ⟨by omega, by omega⟩)
              have HR7 := Lib.hid (show RowW p.h.pr (hdW l) n M7 by rw [← eM7]; exact HR6.out.step (by rw [← ex4]; have := Htt.out; have := Hpb.out; exact ⟨by omega, by omega⟩) (by decide) (by have := HFb.out; omega) (by have := HFb.out; omega))
              have HLe := Lib.hid (show M7 = L by
                rw [← HLe0.out, ← eM7, ← EM6.out, ← ex4]
                unfold rwB rwK rwW
                rw [Hf.out, ← Hp9.out, if_pos rfl, List.foldl_append, List.foldl_append]
                unfold hopK
                simp only [List.foldl_cons, List.foldl_nil]
                rw [ES.out.1.1, ES.out.1.2, ES.out.2.1, ES.out.2.2, EM.out.1.1, EM.out.1.2, EM.out.2.1, EM.out.2.2, Hp8.out, Hp9.out])
              clear ex4 eM7
              obtain ⟨k0, k1, k2, k3, k4, k5, k6, k7, -⟩ := cells24 (HKt.out _ HBt.out).1
              go_wp2_with fail
              refine (changettl_any w4.heap.size g n c5 pb pf (hdW l) p.h a.AH a.nH a.cH M6 M7 x4 _ HC.out HR6.out HO.out Hl9.out Htt.out Hpb.out.2 Hx4.out HM7.out).mono ?_
              rintro e w12 ⟨rfl, ho12, hb12⟩
              have HO := Lib.hid ho12
              have HBt := Lib.hid (HBt.out.trans hb12)
              clear ho12 hb12
              clear k0 k1 k2 k3 k4 k5 k6 k7
              go_wp2_with fail
              go_ret2
              have hlm : n = m := by rw [← Hm.out, ← HLe.out]; exact HR7.out.len.symm
              refine ⟨some ⟨g, 0, none⟩, c5, ?_, ?_, ?_⟩
              · show Ending.returned (.tuple #[.slice (some ⟨g, 0, none⟩) n c5, .int .i64 0]) = _
                rw [hlm, ← Hx.out, He.out]
              · rw [← hlm, ← HLe.out]; exact HO.out.mono Hn2.out
              · exact HB5.out.trans (HBt.out.below (fun k hk => by subst hk; have := Hg.out; have := Hn2.out; omega) HB5.out.size)
        · have q2 : (t.pr != p.h.pr) = true := by simpa using h2
          have He := Lib.hid (show errRw l t hop = 1 by unfold errRw; rw [if_neg (fun h => h He0.out), if_neg (by rw [Hpk.out, HI.out]; simp), if_pos (by left; rw [← Hp9.out]; exact h2)])
          clear h1 h2
          go_wp2_with fail
          go_ret2
          obtain ⟨rfl, rfl, rfl⟩ := rw_none HL.out Hm.out Hx.out He.out (by decide)
          exact ⟨none, 0, rfl, OwnB.nil _ _, HB4.out⟩
  · obtain ⟨k, ek⟩ : ∃ k, errAll l = k := ⟨_, rfl⟩
    have hk0 : k ≠ 0 := by rw [← ek]; exact he
    have e1 : errRw l t hop = k := by unfold errRw; rw [if_pos he]; exact ek
    obtain ⟨rfl, rfl, rfl⟩ := rw_none HL.out Hm.out Hx.out e1 hk0
    have Hp1 := Lib.hid (parse9_err A n c l x w0 Hc.out (by have := Hn.out; omega) HA0.out ek hk0)
    have q0 : (x != 0) = true := by simpa using hk0
    clear hlen he ek hk0 e1 hby
    go_enter Tryz.func11, Tryz.ntmps11
    go_upto_region 1 with (fail)
    rw [Ew.out]
    try rw [Hz.out]
    go_wp2_with fail
    refine Hp1.out.mono ?_
    rintro e w1 ⟨rfl, hb1⟩
    obtain ⟨z, ez⟩ : ∃ z, w1.heap.size = z := ⟨_, rfl⟩
    obtain ⟨w2, ew2⟩ : ∃ v, w1.alloc (.cells #[.int .u8 0, .int .u16 0, .bool false, .int .u8 0, .int .u8 0, .int .u32 0, .int .u32 0, .slice none 0 0, .int .u16 0, .int .u16 0, .int .u32 0, .int .u32 0, .int .u8 0, .int .u16 0, .int .u16 0, .slice none 0 0, .slice none 0 0, .int .u16 0, .int .u16 0, .slice none 0 0, .int .u8 0, .int .u8 0, .int .u32 0, .slice none 0 0] 35) = v := ⟨_, rfl⟩
    have HB2 := Lib.hid (show Below w.heap.size w w2 by rw [← ew2]; have := below_trans HB0.out hb1; exact this.alloc this.size _)
    have Ew2 := Lib.hid ew2
    have Ez := Lib.hid ez
    clear ew2 ez hb1 Hp1
    go_upto_region 2 with (refine wp_store_new 35 (.tmp 8) (.tmp 19) rfl rfl w1 _ _ rfl rfl (by kernel_rfl) rfl (by simp [Value.oneCell']) ?_)
    rw [Ew2.out]
    try rw [Ez.out]
    go_wp2_with fail
    go_ret2
    exact ⟨none, 0, rfl, OwnB.nil _ _, HB2.out⟩
end Go.Proofs.YtheknmihnkennaaGreat

/-
  Slices of bytes and of numbers of 16 bits that come in, opened, with the form's own reach.
-/
namespace Go.Proofs.YtheknmihnkennaaGreat
set_option maxRecDepth 10000
open Go.ChangeShapes Go.WideShapes Go.ChangeAt Go.RowKit

/-- The slice value '.slice A n _' of numbers of 16 bits holds l. -/
structure Rd16 (w : World) (A : Option Addr) (n : Nat) (l : List Int) : Prop where
  len : l.length = n
  u16 : ∀ x ∈ l, 0 ≤ x ∧ x ≤ 65535
  at_ : 0 < n → ∃ b o, A = some ⟨b, o, none⟩ ∧ b < w.heap.size ∧ ∀ i, i < n → w.cell? ⟨b, o + i, none⟩ = some (.int .u16 (l.getD i 0))
theorem Rd16.below {w w' : World} {A : Option Addr} {n : Nat} {l : List Int} (h : Rd16 w A n l) (hb : Below w.heap.size w w') : Rd16 w' A n l :=
  ⟨h.len, h.u16, fun hn => by
    obtain ⟨b, o, e, hlt, hc⟩ := h.at_ hn
    exact ⟨b, o, e, Nat.lt_of_lt_of_le hlt hb.size, fun i hi => by rw [hb.cell (p := ⟨b, o + i, none⟩) hlt]; exact hc i hi⟩⟩
end Go.Proofs.YtheknmihnkennaaGreat

/-
  A head (api.Head) that comes in, opened: numbers within their bounds, and a slice of bytes.
-/
namespace Go.Proofs.YtheknmihnkennaaGreat
set_option maxRecDepth 10000
open Go.Joins Go.ChangeShapes Go.WideShapes Go.ChangeAt Go.RowKit Go.Deep

section
variable {H : Type} {enc : TypeId × Value → H} {P : Program} {w : World} {base : Nat} {spare : Nat → Bool} {held : Bool}
end

end Go.Proofs.YtheknmihnkennaaGreat

/-
  The fields of a struct that came in. No function of the program.
-/
namespace Go.Proofs.YtheknmihnkennaaGreat
set_option maxRecDepth 10000
open Go.Joins Go.ChangeShapes Go.WideShapes Go.ChangeAt Go.RowKit Go.Deep

section
variable {H : Type} {enc : TypeId × Value → H} {P : Program} {w : World} {base : Nat} {spare : Nat → Bool} {held : Bool}
/-- The fields of a struct of one cell each. -/
theorem one_parts {t : TypeId} {fs : Array Field} {fuel : Nat} {cs : List Value} {y : DataW H × List MemPlace} (hs : P.underlying t = some (.struct fs)) (hone : oneCellFields P fs = true) (h : DataW.trod enc P w base spare held fuel t cs = some y) :
    ∃ n, ∀ (i : Nat) (f : Field) (c : Value), fs[i]? = some f → cs[i]? = some c → ∃ yi, DataW.trod enc P w base spare held n f.type [c] = some yi := by
  obtain ⟨xs, n, _, _, _, hlen, hg⟩ := DataW.trod_struct hs h
  refine ⟨n, fun i f c hf hc => ?_⟩
  obtain ⟨ho, hk⟩ := hone_of hone i f hf
  have hi : i < xs.length := by rw [hlen]; exact (Array.getElem?_eq_some_iff.1 hf).1
  have hx := hg i f hf
  have hc1 : (cs.drop i).take 1 = [c] := by
    have hlt : i < cs.length := by
      rcases Nat.lt_or_ge i cs.length with h1 | h1
      · exact h1
      · rw [List.getElem?_eq_none h1] at hc; cases hc
    rw [List.drop_eq_getElem_cons hlt]
    rw [List.getElem?_eq_getElem hlt] at hc
    injection hc with hc
    simp [hc]
  rw [ho, hk, hc1, List.getElem?_eq_getElem hi] at hx
  exact ⟨_, hx⟩
end
end Go.Proofs.YtheknmihnkennaaGreat
