/-
  culvertlaw19's same: the program's pieces and the document's own.
-/
import Derived.Test.YtncbkgcblmohoaaRxAwake
import Derived.Test.YtncbkgcblmohoaaBytesEq
import Derived.Deep.LoopGhost
import Derived.RegionTactic
import Derived.Deep.CutRange
import Derived.BigRegion
import Derived.BigQuiet
namespace Go.Proofs.Ytncbkgcblmohoaa
set_option maxRecDepth 10000
open Go.RowKit
set_option linter.unusedSimpArgs false
set_option linter.unusedVariables false

/-- Pieces that are read: of one type or the other. -/
structure SmQ (w : World) (T : TypeId) (v : Value) (qs : List PQ) : Prop where
  sl : SlV w T 2 v qs.length (flatQ qs)
  rows : ∀ q ∈ qs, Rd w q.A q.data.length q.data
theorem idx_own {w : World} {v : Value} {qs : List PQ} {n : Nat} (h : SmQ w 54 v qs) (en : qs.length = n) : ∃ A c, v = .slice A n c ∧ n ≤ maxLen ∧ ∀ i, i < n → ∃ g o sq Aq cq dq m, qs[i]? = some ⟨sq, Aq, cq, dq⟩ ∧ A = some ⟨g, o, none⟩ ∧
    (∀ W : World, (Instr.indexAt 41 (.slice A n c) (.int .i64 (i : Int))).run Try.prog W = .ok (.pointer (some ⟨g, o + i * 2, none⟩)) W) ∧
      w.cell? ⟨g, o + i * 2, none⟩ = some (.int .u32 sq) ∧ w.cell? ⟨g, o + i * 2 + 1, none⟩ = some (.slice Aq m cq) ∧ Rd w Aq m dq := by
  subst en
  rcases h.sl with ⟨rfl, h0, _⟩ | ⟨g, o, c, rfl, C, hg, hC, hl, hnc, hm, hc⟩
  · exact ⟨none, 0, by rw [h0], by omega, fun i hi => by omega⟩
  · refine ⟨_, _, rfl, Nat.le_trans hnc hm, fun i hi => ⟨g, o, qs[i].seq, qs[i].A, qs[i].c, qs[i].data, qs[i].data.length, List.getElem?_eq_getElem hi, rfl, ?_⟩⟩
    obtain ⟨f1, f2⟩ := flatQ_get qs (i := i) (List.getElem?_eq_getElem hi)
    have hlen := flatQ_len qs
    have k0 : (0 : Int) ≤ (i : Int) := by omega
    have k1 : (i : Int) < (qs.length : Int) := by omega
    refine ⟨fun W => by go_simp, ?_, ?_, h.rows _ (List.getElem_mem hi)⟩
    · rw [blk_cell hg, hc _ (by omega), f1]
    · rw [blk_cell hg, Nat.add_assoc, hc _ (by omega), f2]
theorem idx_ref {w : World} {v : Value} {qs : List PQ} {n : Nat} (h : SmQ w 57 v qs) (en : qs.length = n) : ∃ A c, v = .slice A n c ∧ n ≤ maxLen ∧ ∀ i, i < n → ∃ g o sq Aq cq dq m, qs[i]? = some ⟨sq, Aq, cq, dq⟩ ∧ A = some ⟨g, o, none⟩ ∧
    (∀ W : World, (Instr.indexAt 44 (.slice A n c) (.int .i64 (i : Int))).run Try.prog W = .ok (.pointer (some ⟨g, o + i * 2, none⟩)) W) ∧
      w.cell? ⟨g, o + i * 2, none⟩ = some (.int .u32 sq) ∧ w.cell? ⟨g, o + i * 2 + 1, none⟩ = some (.slice Aq m cq) ∧ Rd w Aq m dq := by
  subst en
  rcases h.sl with ⟨rfl, h0, _⟩ | ⟨g, o, c, rfl, C, hg, hC, hl, hnc, hm, hc⟩
  · exact ⟨none, 0, by rw [h0], by omega, fun i hi => by omega⟩
  · refine ⟨_, _, rfl, Nat.le_trans hnc hm, fun i hi => ⟨g, o, qs[i].seq, qs[i].A, qs[i].c, qs[i].data, qs[i].data.length, List.getElem?_eq_getElem hi, rfl, ?_⟩⟩
    obtain ⟨f1, f2⟩ := flatQ_get qs (i := i) (List.getElem?_eq_getElem hi)
    have hlen := flatQ_len qs
    have k0 : (0 : Int) ≤ (i : Int) := by omega
    have k1 : (i : Int) < (qs.length : Int) := by omega
    refine ⟨fun W => by go_simp, ?_, ?_, h.rows _ (List.getElem_mem hi)⟩
    · rw [blk_cell hg, hc _ (by omega), f1]
    · rw [blk_cell hg, Nat.add_assoc, hc _ (by omega), f2]
def QuietX (v : Value) (w : World) (e : Ending) (w' : World) : Prop := e = .returned v ∧ ∃ m, w' = w.drewN m
theorem equal_q (A A' : Option Addr) (n n' c c' : Nat) (l l' : List Int) (w : World) (x : Bool) (h : Rd w A n l) (h' : Rd w A' n' l') (hx : decide (l = l') = x) (k : Nat) :
    Calls Try.prog 48 #[.slice A n c, .slice A' n' c'] (w.drewN k) fun e w' => e = .returned (.bool x) ∧ ∃ m, w' = (w.drewN k).drewN m :=
  (bequal_any A A' n n' c c' l l' (w.drewN k) x ⟨h.len, h.byte, h.at_⟩ ⟨h'.len, h'.byte, h'.at_⟩ hx).mono (fun e w' hw => ⟨hw.1, 0, by rw [← hw.2]; rfl⟩)
theorem quiet_off {f : Nat} {args : Array Value} {v : Value} {w : World} {k n : Nat} (h : Calls Try.prog f args (w.drewN (k + n)) fun e w' => e = .returned v ∧ ∃ m, w' = (w.drewN (k + n)).drewN m) :
    Calls Try.prog f args (w.drewN (k + n)) fun e w'' => e = .returned v ∧ ∃ m, w'' = w.drewN (k + m) := h.mono fun _ _ ⟨he, m, hm⟩ => ⟨he, n + m, by rw [hm, World.drewN_drewN, Nat.add_assoc]⟩
set_option maxHeartbeats 1000000 in
theorem same19_any (v v2 : Value) (qs qs2 : List PQ) (x : Bool) (w : World) (h : SmQ w 54 v qs) (h2 : SmQ w 57 v2 qs2) (hx : decide (qs.map toldQ = qs2.map toldQ) = x) :
    Calls Try.prog 17 #[v, v2] w (QuietX (.bool x) w) := by
  obtain ⟨n, en⟩ : ∃ n, qs.length = n := ⟨_, rfl⟩
  obtain ⟨m, em⟩ : ∃ m, qs2.length = m := ⟨_, rfl⟩
  obtain ⟨A, c, rfl, hn, hA⟩ := idx_own h en
  obtain ⟨A2, c2, rfl, hn2, hA2⟩ := idx_ref h2 em
  have HA := Lib.hid hA
  have HA2 := Lib.hid hA2
  have Hx := Lib.hid hx
  have Hen := Lib.hid en
  have Hem := Lib.hid em
  have Hn := Lib.hid (show n ≤ 9223372036854775807 from Nat.le_trans hn (by simp [maxLen]))
  clear hA hA2 hx h h2 en em hn hn2
  by_cases hnm : n = m
  · subst hnm
    have hq : ((n : Int) != (n : Int)) = false := by simp
    go_enter Try.func17, Try.ntmps17
    go_wp2_with fail
    go_loopg [13] n (fun gk i wr => ∃ j k : Nat, Hid (gk + j = n) ∧ j ≤ n ∧ i = .int .i64 (j : Int) ∧ Hid (∀ i, i < j → (qs[i]?).map toldQ = (qs2[i]?).map toldQ) ∧ wr = w.drewN k)
    case atStart => exact ⟨0, 0, Lib.hid (by omega), Nat.zero_le _, rfl, Lib.hid (fun i hi => by omega), rfl⟩
    case round =>
      obtain ⟨j, k, hgk, hj, rfl, hsame, rfl⟩ := hrel
      by_cases hjn : j < n
      · obtain ⟨g, o, s1, A1, b1, d1, m1, q1, rfl, hi, ha, hb, hr⟩ := HA.out j hjn
        obtain ⟨g2, o2, s2, A2, b2, d2, m2, q2, rfl, hi2, ha2, hb2, hr2⟩ := HA2.out j hjn
        have i0 : (0 : Int) ≤ (j : Int) := by omega
        have i1 : (j : Int) < (n : Int) := by omega
        have i2 : (j : Int) < 9223372036854775807 := by have := Hn.out; omega
        have Hq1 := Lib.hid q1
        have Hq2 := Lib.hid q2
        have Hr := Lib.hid hr
        have Hr2 := Lib.hid hr2
        clear q1 q2 hr hr2
        by_cases hss : s1 = s2
        · subst hss
          by_cases hdd : d1 = d2
          · subst hdd
            have He := Lib.hid (fun k2 => equal_q A1 A2 m1 m2 b1 b2 d1 d1 w true Hr.out Hr2.out (by simp) k2)
            have hne : (s1 != s1) = false := by simp
            have Hs := Lib.hid (show ∀ i, i < j + 1 → (qs[i]?).map toldQ = (qs2[i]?).map toldQ by
              intro i hi
              by_cases e : i = j
              · subst e; rw [Hq1.out, Hq2.out]; rfl
              · exact hsame.out i (by omega))
            go_wp2_with fail
            go_quiet (exact quiet_off (He.out _))
            go_wp2_with fail
            go_roundg (gk - 1)
            case measure => have := hgk.out; omega
            case rel => exact ⟨j + 1, k + nq, Lib.hid (by have := hgk.out; show gk - 1 + (j + 1) = _; omega), by omega, by go_num, Hs, by first | rfl | rw [World.drewN_drewN]⟩
          · have He := Lib.hid (fun k2 => equal_q A1 A2 m1 m2 b1 b2 d1 d2 w false Hr.out Hr2.out (by simp [hdd]) k2)
            have hne : (s1 != s1) = false := by simp
            have Hf := Lib.hid (show x = false by
              rw [← Hx.out]
              refine decide_eq_false (fun e => hdd ?_)
              have := congrArg (fun l => l[j]?) e
              simp [Hq1.out, Hq2.out, toldQ] at this
              exact this)
            clear hdd
            go_wp2_with fail
            go_quiet (exact quiet_off (He.out _))
            go_wp2_with fail
            go_ret
            exact ⟨by rw [Hf.out]; rfl, k + nq, by first | rfl | rw [World.drewN_drewN]⟩
        · have hne : (s1 != s2) = true := by simp [hss]
          have Hf := Lib.hid (show x = false by
            rw [← Hx.out]
            refine decide_eq_false (fun e => hss ?_)
            have := congrArg (fun l => l[j]?) e
            simp [Hq1.out, Hq2.out, toldQ] at this
            exact this.1)
          clear hss
          go_wp2_with fail
          go_quiet (fail)
          go_wp2_with fail
          go_ret
          exact ⟨by rw [Hf.out]; rfl, k + nq, by first | rfl | rw [World.drewN_drewN]⟩
      · obtain rfl : n = j := by omega
        have Ht := Lib.hid (show x = true by
          rw [← Hx.out]
          refine decide_eq_true (List.ext_getElem? (fun i => ?_))
          simp only [List.getElem?_map]
          by_cases hi : i < n
          · exact hsame.out i hi
          · rw [List.getElem?_eq_none (by rw [Hen.out]; omega), List.getElem?_eq_none (by rw [Hem.out]; omega)])
        go_wp2_with fail
        go_ret
        exact ⟨by rw [Ht.out]; rfl, k, rfl⟩
  · have hq : ((n : Int) != (m : Int)) = true := by simp; omega
    have Hf := Lib.hid (show x = false by
      rw [← Hx.out]
      refine decide_eq_false (fun e => hnm ?_)
      have := congrArg List.length e
      simpa [Hen.out, Hem.out] using this)
    clear hnm
    go_enter Try.func17, Try.ntmps17
    go_wp2_with fail
    go_ret
    exact ⟨by rw [Hf.out]; rfl, 0, rfl⟩
end Go.Proofs.Ytncbkgcblmohoaa
