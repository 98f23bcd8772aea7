/-
  A buffer of the program's: pieces with Held's closure, and Held.
-/
import Derived.Test.YtmmnicnebammhaaRmHeld
namespace Go.Proofs.Ytmmnicnebammhaa
set_option maxRecDepth 10000
open Go.RowKit
set_option linter.unusedSimpArgs false
set_option linter.unusedVariables false

set_option maxHeartbeats 1000000 in
theorem pieces_any (w w0 : World) (S : Nat → Prop) (g m nx : Nat) (st at_ : Int) (L : BL) (p q : Nat) (v : Value) (h : PcS w S g m nx st L p q v [] w0) (hlt : ∀ k, S k → k < w.heap.size) (hat : num32 (st + (nx : Int)) = at_) :
    Calls Try.prog 31 #[.pointer (some ⟨g, 0, none⟩), .func (.func 32) #[] #[.pointer (some ⟨p, 0, none⟩), .pointer (some ⟨q, 0, none⟩)]] w0 (PcIs w S g m nx st L p q (heldI at_ L)) := by
  have k2 := h.mem.k2
  have k4 := h.mem.k4
  obtain ⟨ks, hk1, hk2, hk3⟩ := have_keys nx L
  have hlen := fun ty => h.mem.map.len_b ks hk1 hk3 ty
  rw [hk2] at hlen
  obtain ⟨n, en⟩ : ∃ n, L.length = n := ⟨_, rfl⟩
  obtain ⟨hv, ehv⟩ : ∃ hv, haveB L = hv := ⟨_, rfl⟩
  rw [ehv] at hlen
  have hrm := h.mem.room
  have Hrm := Lib.hid hrm
  have H := Lib.hid h
  have Hen := Lib.hid (And.intro en ehv)
  have Hhv := Lib.hid (show hv ≤ 16384 by have := have_len L; omega)
  have Hat := Lib.hid hat
  clear h hk1 hk2 hk3 en ehv hrm hat
  go_enter Try.func31, Try.ntmps31
  go_wp2_with fail
  go_loopg [4, 5] n (fun gk x4 x5 wr => ∃ (i N lf : Nat) (v : Value), Hid (gk + i = n) ∧ Hid (N = nx + i) ∧ x4 = .int .i64 (N : Int) ∧ x5 = .int .i64 (lf : Int) ∧ Hid (lf = haveB (L.drop i) ∧ lf ≤ 16384) ∧ Hid (i = 0 ∨ isB L (i - 1) = false ∨ isB L i = false) ∧ Hid (PcS w S g m nx st L p q v (preH at_ L i) wr))
  case atStart => exact ⟨0, nx, hv, v, Lib.hid rfl, Lib.hid rfl, rfl, rfl, Lib.hid ⟨by rw [List.drop_zero]; exact Hen.out.2.symm, Hhv.out⟩, Lib.hid (.inl rfl), Lib.hid (by rw [preH_zero]; exact H.out)⟩
  case round =>
    obtain ⟨i, N, lf, v, hgk, hN, rfl, rfl, hlf, hbr, HP⟩ := hrel
    obtain rfl : gk = n - i := by have := hgk.out; omega
    have hin : i ≤ n := by have := hgk.out; omega
    have hrm := Hrm.out
    rw [Hen.out.1] at hrm
    have hn2 : n ≤ 16384 := by omega
    have hN2 := hN.out
    obtain ⟨hl1, hl2⟩ := hlf.out
    clear hgk
    by_cases h0 : 0 < lf
    · have h1 : (0 : Int) < (lf : Int) := by omega
      have hilt : i < n := by rw [← Hen.out.1]; exact have_lt (by omega)
      obtain ⟨r, er⟩ : ∃ r, readyB (L.drop i) = r := ⟨_, rfl⟩
      have hrl := ready_le (L.drop i)
      rw [er, List.length_drop, Hen.out.1] at hrl
      have hbe := behind_any HP.out.mem i r (N : Int) (by rw [hN2]) er (by rw [Hen.out.1]; exact hin)
      obtain ⟨N2, eN2⟩ : ∃ N2, nx + (i + r) = N2 := ⟨_, rfl⟩
      rw [eN2] at hbe
      have Hbe := Lib.hid hbe
      by_cases hr0 : r = 0
      · subst hr0
        obtain rfl : N2 = N := by omega
        have hb := ready_zero er
        have hbg : beginB L i = false := by unfold beginB; rw [hb]; simp
        have Hlf2 := Lib.hid (show lf = haveB (L.drop (i + 1)) ∧ lf ≤ 16384 from ⟨by rw [hl1]; exact have_next hb, hl2⟩)
        have Hbr2 := Lib.hid (show i + 1 = 0 ∨ isB L (i + 1 - 1) = false ∨ isB L (i + 1) = false from .inr (.inl hb))
        have HP2 := Lib.hid (show PcS w S g m nx st L p q v (preH at_ L (i + 1)) wr by rw [preH_no hbg]; exact HP.out)
        have hbd : N2 < 20000 := by omega
        have Hx := Lib.hid (And.intro hilt hN2)
        clear hbg hb er hrl hbe eN2 hl1 hl2 hrm hn2 hN2 hin hilt
        go_wp2_with (go_at_call 28; refine Hbe.out.mono ?_; rintro e w' ⟨rfl, rfl⟩)
        go_roundg (n - (i + 1))
        case measure => have := Hx.out; omega
        case rel => exact ⟨i + 1, N2 + 1, lf, v, Lib.hid (by have := Hx.out; omega), Lib.hid (by have := Hx.out; omega), by go_num, rfl, Hlf2, Hbr2, HP2⟩
      · have hne : ((N2 : Int) == (N : Int)) = false := by rw [beq_eq_false_iff_ne]; omega
        obtain ⟨hq1, hq2⟩ := ready_run (L := L) (i := i)
        rw [er] at hq1 hq2
        have hbi : isB L i = true := hq1 i (Nat.le_refl _) (by omega)
        have hsk := preH_skip (at_ := at_) (L := L) (i := i + 1) (i + r) (by omega) (fun p h1 h2 => begin_run p h1 (by rw [er]; exact h2))
        have hnext : (if i = 0 then preH at_ L i else preH at_ L i ++ [(num32 (st + (N : Int)), num32 (st + (N2 : Int)))]) = preH at_ L (i + r) := by
          rw [hsk]
          by_cases hi0 : i = 0
          · rw [if_pos hi0]
            subst hi0
            rw [preH_no (begin_zero L)]
          · rw [if_neg hi0]
            have hbg : beginB L i = true := by
              unfold beginB
              rw [hbi]
              rcases hbr.out with h2 | h2 | h2
              · exact absurd h2 hi0
              · rw [h2, decide_eq_true (show 0 < i by omega)]; rfl
              · rw [hbi] at h2; cases h2
            rw [preH_yes hbg, er]
            congr 3
            · rw [← Hat.out, hN2]; unfold num32; omega
            · rw [← Hat.out, ← eN2]; unfold num32; omega
        have hpl := preH_le at_ L i
        have hcl := held1_any w wr S g m nx st L p q v (preH at_ L i) HP.out hlt (by omega) i N N2 hN2 (by omega) (by omega)
        rw [hnext] at hcl
        have Hcl := Lib.hid hcl
        have hhr := have_ready (L.drop i)
        rw [er, List.drop_drop] at hhr
        obtain ⟨lf2, el2⟩ : ∃ lf2, haveB (L.drop (i + r)) = lf2 := ⟨_, rfl⟩
        have hlf2 : lf = r + lf2 := by rw [hl1, hhr, el2]
        have e1 : Hid (wrap64 ((N2 : Int) - (N : Int)) = (r : Int)) := Lib.hid (by rw [IntWalk.wrap64_in _ (by omega)]; omega)
        have e2 : Hid (wrap64 ((lf : Int) - (r : Int)) = (lf2 : Int)) := Lib.hid (by rw [IntWalk.wrap64_in _ (by omega)]; omega)
        have Hlf2 := Lib.hid (show lf2 = haveB (L.drop (i + r)) ∧ lf2 ≤ 16384 from ⟨el2.symm, by omega⟩)
        have Hbr2 := Lib.hid (show i + r = 0 ∨ isB L (i + r - 1) = false ∨ isB L (i + r) = false from .inr (.inr hq2))
        have Hx := Lib.hid (And.intro (show i + r ≤ n by omega) (And.intro (show N2 = nx + (i + r) from eN2.symm) (show 0 < r by omega)))
        clear hnext hsk hbi hq1 hq2 hpl hcl hhr hlf2 el2 er hrl hbe eN2 hl1 hl2 hrm hn2 hN2 hin hilt hr0
        have E2 := e2
        have e1 := e1.out
        have e2 := e2.out
        go_wp2_with (go_at_call 28; refine Hbe.out.mono ?_; rintro e w' ⟨rfl, rfl⟩)
        refine Hcl.out.mono ?_
        rintro e w2 ⟨rfl, v2, HP2⟩
        have HP2 := Lib.hid HP2
        go_wp2_with fail
        clear e1 e2
        go_roundg (n - (i + r))
        case measure => have := Hx.out; omega
        case rel => exact ⟨i + r, N2, lf2, v2, Lib.hid (by have := Hx.out; omega), Lib.hid Hx.out.2.1, by go_num, by rw [E2.out], Hlf2, Hbr2, HP2⟩
    · obtain rfl : lf = 0 := by omega
      have hno := have_none (L := L) (i := i) hl1.symm
      have hfin : preH at_ L i = heldI at_ L := by
        rw [preH_all]
        refine (preH_skip _ (by rw [Hen.out.1]; exact hin) (fun p h1 h2 => ?_)).symm
        unfold beginB
        rw [hno p h1]
        simp
      have HF := Lib.hid (show PcS w S g m nx st L p q v (heldI at_ L) wr by rw [← hfin]; exact HP.out)
      clear hfin hno hl1 hl2 hrm hn2 hN2 hin h0
      go_wp2_with fail
      go_end0
      exact ⟨rfl, _, HF.out⟩
theorem held_mem (w : World) (S : Nat → Prop) (g m nx : Nat) (st at_ : Int) (L : BL) (h : RMem w S g m nx st L) (hat : num32 (st + (nx : Int)) = at_) :
    Calls Try.prog 21 #[.pointer (some ⟨g, 0, none⟩)] w (fun e w' => ∃ p q v, e = .returned v ∧ PcS w S g m nx st L p q v (heldI at_ L) w') := by
  obtain ⟨z, ez⟩ : ∃ z, w.heap.size = z := ⟨_, rfl⟩
  obtain ⟨w1, ew1⟩ : ∃ w1, w.alloc (.cells #[.pointer (some ⟨g, 0, none⟩)] 24) = w1 := ⟨_, rfl⟩
  obtain ⟨w2, ew2⟩ : ∃ w2, w1.alloc (.cells #[.slice none 0 0] 47) = w2 := ⟨_, rfl⟩
  have hB1 : But (fun _ => False) w w1 := by rw [← ew1]; exact (But.refl _ _).alloc _
  have hB2 : But (fun _ => False) w1 w2 := by rw [← ew2]; exact (But.refl _ _).alloc _
  have hs1 : w1.heap.size = z + 1 := by rw [← ew1]; simp [ez]
  have hp1 : w1.heap[z]? = some (.cells #[.pointer (some ⟨g, 0, none⟩)] 24 (0, 0)) := by rw [← ew1, ← ez]; exact heap_alloc_new w _
  have hq2 : w2.heap[z + 1]? = some (.cells #[.slice none 0 0] 47 (0, 0)) := by rw [← ew2, ← hs1]; exact heap_alloc_new w1 _
  have hm1 := h.but hB1 (fun _ _ h => h)
  have hm2 := hm1.but hB2 (fun _ _ h => h)
  have hP : PcS w S g m nx st L z (z + 1) (.slice none 0 0) [] w2 := ⟨hm2, hB2.blk hp1 (fun h => h), hq2, .inl ⟨rfl, rfl, rfl⟩, fun b hb => (by cases hb), by omega, by omega, by omega, (hB1.trans hB2).old (fun k h => h.elim)⟩
  have Hpc := Lib.hid (pieces_any w w2 S g m nx st at_ L z (z + 1) _ hP h.lt hat)
  have HnoA := Lib.hid (bnone_no g w1 hm1.k0)
  have c1 : w1.cell? ⟨z, 0, none⟩ = some (.pointer (some ⟨g, 0, none⟩)) := by rw [blk_cell hp1]; rfl
  have c2 : w2.cell? ⟨z, 0, none⟩ = some (.pointer (some ⟨g, 0, none⟩)) := by rw [blk_cell hP.bp]; rfl
  have Ew1 := Lib.hid ew1
  have Ew2 := Lib.hid ew2
  have Es1 := Lib.hid hs1
  clear h hB1 hB2 hs1 hp1 hq2 hm1 hm2 hP hat ew1 ew2
  go_enter Try.func21, Try.ntmps21
  go_upto_region 1 with (fail)
  rw [Ew1.out]
  go_upto_region 4 with (go_at_call 23; refine HnoA.out.mono ?_; rintro e w' ⟨rfl, rfl⟩)
  rw [Es1.out, Ew2.out]
  go_wp2_with fail
  refine Hpc.out.mono ?_
  rintro e w3 ⟨rfl, v, HP⟩
  have c3 : w3.cell? ⟨z + 1, 0, none⟩ = some v := by rw [blk_cell HP.bq]; rfl
  have HP := Lib.hid HP
  go_wp2_with fail
  go_ret
  exact ⟨z, z + 1, v, rfl, HP.out⟩
end Go.Proofs.Ytmmnicnebammhaa
