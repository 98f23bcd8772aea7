/-
  The document's own All (culvertref14): the walk.
-/
import Derived.Test.YtknmpfdmjfbpdaaFwRefAll
namespace Go.Proofs.Ytknmpfdmjfbpdaa
set_option maxRecDepth 10000
open Go.RowKit
set_option linter.unusedSimpArgs false
set_option linter.unusedVariables false

theorem belowN {B : Nat} {a w : World} (h : Below B a w) (m : Nat) : Below B a (w.drewN m) := ⟨h.os, h.tape, h.output, h.size, h.block⟩
set_option maxHeartbeats 2000000 in
theorem rall14_any (A : Option Addr) (n c : Nat) (L : FWL) (w : World) (h : RdW w A L) (hn : L.length = n) (hl : n ≤ 1000000) :
    Calls Try.prog 21 #[.slice A n c] w (CloneIsW (fwAll L) w) := by
  have HA := Lib.hid h
  have Hn := Lib.hid hn
  clear h hn
  go_enter Try.func21, Try.ntmps21
  go_wp2_with fail
  go_loopg [3, 4] n (fun gk o i wr => ∃ (j : Nat) (A1 : Option Addr) (c1 : Nat), Hid (gk + j = n) ∧ j ≤ n ∧ i = .int .i64 (j : Int) ∧ o = .slice A1 j c1 ∧ Hid (SlV wr 40 4 (.slice A1 j c1) j (flatW4 (fwAll (L.take j)))) ∧ Hid (∀ b, (Value.slice A1 j c1).ownBlock = some b → w.heap.size ≤ b) ∧ Hid (Below w.heap.size w wr))
  case atStart => exact ⟨0, none, 0, rfl, Nat.zero_le _, rfl, rfl, Lib.hid (.inl ⟨rfl, rfl, rfl⟩), Lib.hid (fun b hb => by cases hb), Lib.hid (Below.refl _ _)⟩
  case round =>
    obtain ⟨j, A1, c1, hgk, hj, rfl, rfl, hs, hown, hB⟩ := hrel
    obtain rfl : gk = n - j := by have := hgk.out; omega
    by_cases hjn : j < n
    · obtain ⟨g, pp, hidx, hlt, hfl⟩ := (HA.out.below hB.out).index (c := c) Hn.out hjn
      obtain ⟨f, ef⟩ : ∃ f, L.getD j fw0 = f := ⟨_, rfl⟩
      rw [ef] at hfl
      obtain ⟨M, eM⟩ : ∃ M, fwAll (L.take j) = M := ⟨_, rfl⟩
      have HM := Lib.hid (show M.length = j by rw [← eM, (fwAll_perm _).length_eq, List.length_take]; have := Hn.out; omega)
      have Hsucc := Lib.hid (show fwAll (L.take (j + 1)) = fwIns f M by rw [← eM]; exact fwAll_succ (by have := Hn.out; omega) ef)
      rw [eM] at hs
      have Hfl := Lib.hid hfl
      have Hlt := Lib.hid hlt
      have Hidx := Lib.hid hidx
      have i0 : (0 : Int) ≤ (j : Int) := by omega
      have i1 : (j : Int) < (n : Int) := by omega
      have Hjn := Lib.hid hjn
      obtain ⟨wo, ewo⟩ : ∃ wo, wo = wr := ⟨_, rfl⟩
      subst ewo
      clear ef eM hfl hlt hidx
      go_wp2_with fail
      go_loopg [5] j (fun gk i wr => ∃ (q : Nat), Hid (gk + q = j) ∧ q ≤ j ∧ i = .int .i64 (q : Int) ∧ Hid (∀ s, s < q → fwLt (M.getD s fw0) f = true) ∧ Hid (Below wo.heap.size wo wr))
      case atStart => exact ⟨0, rfl, Nat.zero_le _, rfl, Lib.hid (fun t ht => by omega), Lib.hid (Below.refl _ _)⟩
      case round =>
        obtain ⟨q, hgq, hq, rfl, hno, hBq⟩ := hrel
        have q0 : (0 : Int) ≤ (q : Int) := by omega
        have Hs2 := Lib.hid (hs.out.but (But.of (S := fun _ => False) hBq.out) (fun _ _ x => x))
        obtain ⟨b, eb⟩ : ∃ b, (decide (q < j) && fwLt (M.getD q fw0) f) = b := ⟨_, rfl⟩
        have Hb := Lib.hid eb
        obtain ⟨d0, d1, d2, d3⟩ := Hfl.out.of (fun i => hBq.out.cell (p := ⟨g, i, none⟩) Hlt.out)
        have hidx := Hidx.out
        go_upto_region 6 with (fail)
        go_cut [55] (fun v wx => v = .bool b ∧ Hid (Below wr.heap.size wr wx))
        case first =>
          by_cases hqj : q < j
          · obtain ⟨g2, p2, hidx2, hlt2, hfl2⟩ := (RdW.of Hs2.out HM.out).index (c := c1) HM.out hqj
            obtain ⟨f2, ef2⟩ : ∃ f, M.getD q fw0 = f := ⟨_, rfl⟩
            rw [ef2] at hfl2
            obtain ⟨e0, e1, e2, e3⟩ := hfl2
            have q1 : (q : Int) < (j : Int) := by omega
            have hbe := Hb.out
            rw [ef2, decide_eq_true hqj, Bool.true_and] at hbe
            unfold fwLt at hbe
            clear hlt2 eb Hb e2 e3 d2 d3 hqj ef2
            by_cases h1 : f2.pr < f.pr
            · have b1 : decide (f2.pr < f.pr) = true := decide_eq_true h1
              rw [b1, Bool.true_or] at hbe
              subst hbe
              clear h1

              go_wp2_with fail
              go_quiet (fail)
              go_wp2_with fail
              go_meet
              exact ⟨rfl, Lib.hid (belowN (Below.refl _ _) _)⟩
            · have b1 : decide (f2.pr < f.pr) = false := decide_eq_false h1
              rw [b1, Bool.false_or] at hbe
              by_cases h2 : f2.pr = f.pr
              · have b2 : (f2.pr == f.pr) = true := by simpa using h2
                rw [decide_eq_true h2, Bool.true_and] at hbe
                by_cases h3 : f2.po < f.po
                · have b3 : decide (f2.po < f.po) = true := decide_eq_true h3
                  rw [b3] at hbe
                  subst hbe
                  clear h1 h2 h3

                  go_wp2_with fail
                  go_quiet (fail)
                  go_wp2_with fail
                  go_meet
                  exact ⟨rfl, Lib.hid (belowN (Below.refl _ _) _)⟩
                · have b3 : decide (f2.po < f.po) = false := decide_eq_false h3
                  rw [b3] at hbe
                  subst hbe
                  clear h1 h2 h3

                  go_wp2_with fail
                  go_quiet (fail)
                  go_wp2_with fail
                  go_meet
                  exact ⟨rfl, Lib.hid (belowN (Below.refl _ _) _)⟩
              · have b2 : (f2.pr == f.pr) = false := by simpa using h2
                rw [decide_eq_false h2, Bool.false_and] at hbe
                subst hbe
                clear h1 h2

                go_wp2_with fail
                go_quiet (fail)
                go_wp2_with fail
                go_meet
                exact ⟨rfl, Lib.hid (belowN (Below.refl _ _) _)⟩
          · have q1 : ¬ (q : Int) < (j : Int) := by omega
            have hbe := Hb.out
            rw [decide_eq_false hqj, Bool.false_and] at hbe
            subst hbe
            have q2 : decide ((q : Int) < (j : Int)) = false := decide_eq_false q1
            have q3 : decide (q < j) = false := decide_eq_false hqj
            clear eb Hb d2 d3

            go_wp2_with fail
            go_quiet (fail)
            go_wp2_with fail
            go_meet
            exact ⟨rfl, Lib.hid (belowN (Below.refl _ _) _)⟩
        case rest =>
          obtain ⟨rfl, HBc⟩ := hcut
          have HBr := Lib.hid (below_trans hBq.out HBc.out)
          clear d0 d1 d2 d3 hidx
          cases b with
          | true =>
            have hb2 := Hb.out
            simp only [Bool.and_eq_true, decide_eq_true_eq] at hb2
            have Hqj := Lib.hid hb2.1
            have Hno := Lib.hid (show ∀ s, s < q + 1 → fwLt (M.getD s fw0) f = true by
              intro t ht
              by_cases e : t = q
              · subst e; exact hb2.2
              · exact hno.out t (by omega))
            clear hb2 eb Hb
            go_wp2_with fail
            go_roundg (gk - 1)
            case measure => have := hgq.out; have := Hqj.out; omega
            case rel => exact ⟨q + 1, by have := hgq.out; have := Hqj.out; show gk - 1 + (q + 1) = _; omega, by have := Hqj.out; omega, by go_num, Hno, HBr⟩
          | false =>
            have hstop : q = M.length ∨ fwLt (M.getD q fw0) f = false := by
              have hb2 := Hb.out
              rw [HM.out]
              by_cases hqj : q < j
              · rw [decide_eq_true hqj, Bool.true_and] at hb2
                exact .inr hb2
              · exact .inl (by omega)
            have HI := Lib.hid (fwIns_at (by rw [HM.out]; exact hq) hno.out hstop)
            have hsc := hs.out.but (But.of (S := fun _ => False) HBr.out) (fun _ _ x => x)
            obtain ⟨A2, c2, B2, d2, w2, B3, d3, w3, A3, c3, B4, d4, w4, ht1, hr2, hr3, ht3, hr4, hs4, hown4, hb2, hb4⟩ := ins_runs f M wc A1 j c1 q HM.out hq (by omega) hsc
            have Hr2 := Lib.hid hr2
            have Hr3 := Lib.hid hr3
            have Hr4 := Lib.hid hr4
            have HS4 := Lib.hid (show SlV w4 40 4 (.slice B4 (j + 1) d4) (j + 1) (flatW4 (fwAll (L.take (j + 1)))) by rw [Hsucc.out, HI.out]; exact hs4)
            have HO4 := Lib.hid (show ∀ b, (Value.slice B4 (j + 1) d4).ownBlock = some b → w.heap.size ≤ b from fun b hb => by
              have := hown4 b hb
              have := HBr.out.size
              have := hB.out.size
              omega)
            have HB4 := Lib.hid (below_trans (below_trans hB.out HBr.out) hb4)
            have hidx := Hidx.out
            obtain ⟨m0, m1, m2, m3⟩ := Hfl.out.of (fun i => (below_trans HBr.out hb2).cell (p := ⟨g, i, none⟩) Hlt.out)
            clear eb Hb hstop hsc hr2 hr3 hr4 hs4 hown4 hb2 hb4
            go_wp2_with (at_builtin; first | refine wpList_appX rfl (.tmp 58) (.tmp 61) _ _ rfl rfl _ _ _ w2 rfl rfl Hr2.out ?_ | refine wpList_appX rfl (.tmp 63) (.tmp 68) _ _ rfl rfl _ _ _ w3 rfl rfl Hr3.out ?_ | refine wpList_appX rfl (.tmp 70) (.tmp 73) _ _ rfl rfl _ _ _ w4 rfl rfl Hr4.out ?_)
            go_roundg (n - (j + 1))
            case measure => have := Hjn.out; omega
            case rel => exact ⟨j + 1, B4, d4, by have := Hjn.out; show n - (j + 1) + (j + 1) = _; omega, by have := Hjn.out; omega, by go_num, rfl, HS4, HO4, HB4⟩
    · obtain rfl : n = j := by omega
      have hal : (fwAll L).length = n := by rw [(fwAll_perm L).length_eq]; exact Hn.out
      have HF := Lib.hid (show CloneIsW (fwAll L) w (.returned (.slice A1 n c1)) wr by
        have hs2 := hs.out
        rw [List.take_of_length_le (by rw [Hn.out]; exact Nat.le_refl _)] at hs2
        exact ⟨A1, c1, by rw [hal], by rw [hal]; exact hs2, by rw [hal]; exact hown.out, hB.out⟩)
      clear hal
      go_wp2_with fail
      go_ret
      exact HF.out
end Go.Proofs.Ytknmpfdmjfbpdaa
