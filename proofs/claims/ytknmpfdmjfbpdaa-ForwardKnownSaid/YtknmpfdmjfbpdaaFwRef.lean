/-
  The document's own answers on forwards (culvertref14): Same, Find, Inside. Written ahead of stage 14.
-/
import Derived.Test.YtknmpfdmjfbpdaaFwRow
import Derived.BigQuiet
import Derived.Deep.CutRange
namespace Go.Proofs.Ytknmpfdmjfbpdaa
set_option maxRecDepth 10000
open Go.RowKit
set_option linter.unusedSimpArgs false
set_option linter.unusedVariables false

def FwQuiet (v : Value) (w : World) (e : Ending) (w' : World) : Prop := e = .returned v ∧ ∃ m, w' = w.drewN m
def FwTells (v : Value) (w : World) (e : Ending) (w' : World) : Prop := e = .returned v ∧ Below w.heap.size w w'
set_option maxHeartbeats 1000000 in
theorem rsame14_any (A A2 : Option Addr) (n m c c2 : Nat) (L M : FWL) (w : World) (h : RdW w A L) (h2 : RdW w A2 M) (hn : L.length = n) (hm : M.length = m) (hl : n ≤ 1000000) (x : Bool) (hx : decide (L = M) = x) :
    Calls Try.prog 20 #[.slice A n c, .slice A2 m c2] w (FwQuiet (.bool x) w) := by
  have HA := Lib.hid h
  have HA2 := Lib.hid h2
  have Hn := Lib.hid hn
  have Hm := Lib.hid hm
  have Hx := Lib.hid hx
  have hfs := fw_neq
  clear h h2 hn hm hx
  by_cases hnm : n = m
  · subst hnm
    have hq : ((n : Int) != (n : Int)) = false := by simp
    go_enter Try.func20, Try.ntmps20
    go_wp2_with fail
    go_loopg [5] n (fun gk i wr => ∃ j k : Nat, Hid (gk + j = n) ∧ j ≤ n ∧ i = .int .i64 (j : Int) ∧ Hid (∀ t, t < j → L.getD t fw0 = M.getD t fw0) ∧ wr = w.drewN k)
    case atStart => exact ⟨0, 0, rfl, Nat.zero_le _, rfl, Lib.hid (fun t ht => by omega), rfl⟩
    case round =>
      obtain ⟨j, k, hgk, hj, rfl, hsame, rfl⟩ := hrel
      by_cases hjn : j < n
      · obtain ⟨g, p, hidx, hlt, hfl⟩ := HA.out.index (c := c) Hn.out hjn
        obtain ⟨g2, p2, hidx2, hlt2, hfl2⟩ := HA2.out.index (c := c2) Hm.out hjn
        obtain ⟨f, ef⟩ : ∃ f, L.getD j fw0 = f := ⟨_, rfl⟩
        obtain ⟨f2, ef2⟩ : ∃ f, M.getD j fw0 = f := ⟨_, rfl⟩
        rw [ef] at hfl
        rw [ef2] at hfl2
        obtain ⟨c0, c1, c2', c3⟩ := hfl
        obtain ⟨d0, d1, d2, d3⟩ := hfl2
        have hf1 := hfs f f2
        have i0 : (0 : Int) ≤ (j : Int) := by omega
        have i1 : (j : Int) < (n : Int) := by omega
        have Hef := Lib.hid ef
        have Hef2 := Lib.hid ef2
        have Hjn := Lib.hid hjn
        clear ef ef2 hfs hlt hlt2
        by_cases hff : f = f2
        · rw [show (!decide (f = f2)) = false by simp [hff]] at hf1
          have Hs := Lib.hid (show ∀ t, t < j + 1 → L.getD t fw0 = M.getD t fw0 by
            intro t ht
            by_cases e : t = j
            · subst e; rw [Hef.out, Hef2.out, hff]
            · exact hsame.out t (by omega))
          clear hff
          go_wp2_with fail
          go_quiet (fail)
          go_wp2_with fail
          go_roundg (gk - 1)
          case measure => have := hgk.out; have := Hjn.out; omega
          case rel => exact ⟨j + 1, k + nq, by have := hgk.out; have := Hjn.out; show gk - 1 + (j + 1) = _; omega, by have := Hjn.out; omega, by go_num, Hs, by first | rfl | rw [World.drewN_drewN]⟩
        · rw [show (!decide (f = f2)) = true by simp [hff]] at hf1
          have Hr := Lib.hid (show x = false by rw [← Hx.out]; exact decide_eq_false (fun e => hff (by rw [← Hef.out, ← Hef2.out, e])))
          clear hff
          go_wp2_with fail
          go_quiet (fail)
          go_wp2_with fail
          go_ret
          exact ⟨by rw [Hr.out]; rfl, k + nq, by first | rfl | rw [World.drewN_drewN]⟩
      · obtain rfl : n = j := by omega
        have Ht := Lib.hid (show x = true by
          rw [← Hx.out]
          refine decide_eq_true (List.ext_getElem (by rw [Hn.out, Hm.out]) (fun i h1 h2 => ?_))
          have := hsame.out i (by rw [← Hn.out]; exact h1)
          simpa [List.getD, h1, h2] using this)
        go_wp2_with fail
        go_ret
        exact ⟨by rw [Ht.out]; rfl, k, rfl⟩
  · have hq : ((n : Int) != (m : Int)) = true := by simpa using (show ¬ (n : Int) = (m : Int) by omega)
    have Hf := Lib.hid (show x = false by rw [← Hx.out]; exact decide_eq_false (fun e => hnm (by rw [← Hn.out, ← Hm.out, e])))
    clear hnm
    go_enter Try.func20, Try.ntmps20
    go_wp2_with fail
    go_ret
    exact ⟨by rw [Hf.out]; rfl, 0, rfl⟩
theorem set4_blk {w : World} {q : Nat} {u0 u1 u2 u3 : Value} {t : TypeId} (h : w.heap[q]? = some (.cells #[u0, u1, u2, u3] t (0, 0))) (v0 v1 v2 v3 : Value) :
    ((((w.setCell ⟨q, 0, none⟩ v0).setCell ⟨q, 1, none⟩ v1).setCell ⟨q, 2, none⟩ v2).setCell ⟨q, 3, none⟩ v3).heap[q]? = some (.cells #[v0, v1, v2, v3] t (0, 0)) := by
  simp [World.setCell, Array.getElem?_modify, h]
theorem set4_below {B : Nat} {w0 w : World} {q : Nat} (h : Below B w0 w) (hq : B ≤ q) (v0 v1 v2 v3 : Value) :
    Below B w0 ((((w.setCell ⟨q, 0, none⟩ v0).setCell ⟨q, 1, none⟩ v1).setCell ⟨q, 2, none⟩ v2).setCell ⟨q, 3, none⟩ v3) :=
  (((h.setCell (p := ⟨q, 0, none⟩) hq v0).setCell (p := ⟨q, 1, none⟩) hq v1).setCell (p := ⟨q, 2, none⟩) hq v2).setCell (p := ⟨q, 3, none⟩) hq v3
set_option maxHeartbeats 1000000 in
theorem rfind14_any (A : Option Addr) (n c : Nat) (L : FWL) (p q : Int) (w : World) (h : RdW w A L) (hn : L.length = n) (hl : n ≤ 1000000) (f : Fw) (is_ : Bool) (hx : fwOf (fwFind p q L) = f) (hx2 : fwIs (fwFind p q L) = is_) :
    Calls Try.prog 14 #[.slice A n c, .int .u8 p, .int .u16 q] w (FwTells (.tuple #[.agg #[.int .u8 f.pr, .int .u16 f.po, .int .u32 f.ad, .int .u16 f.tp], .bool is_]) w) := by
  obtain ⟨w0, ew⟩ : ∃ w0, w.alloc (.cells #[.int .u8 0, .int .u16 0, .int .u32 0, .int .u16 0] 40) = w0 := ⟨_, rfl⟩
  obtain ⟨z, hz⟩ : ∃ z, w.heap.size = z := ⟨_, rfl⟩
  have hb0 : Below w.heap.size w w0 := by rw [← ew]; exact (Below.refl _ _).alloc (Nat.le_refl _) _
  have hk0 : w0.heap[z]? = some (.cells #[.int .u8 0, .int .u16 0, .int .u32 0, .int .u16 0] 40 (0, 0)) := by rw [← ew, ← hz]; exact heap_alloc_new w _
  have HA := Lib.hid (h.below hb0)
  have HK := Lib.hid hk0
  have Hb0 := Lib.hid hb0
  have Hz := Lib.hid hz
  have Hn := Lib.hid hn
  have Hx := Lib.hid hx
  have Hx2 := Lib.hid hx2
  have fz := fun i => blk_free hk0 i
  have e0 := fun i => blk_cell hk0 i
  have d0 := e0 0
  have d1 := e0 1
  have d2 := e0 2
  have d3 := e0 3
  simp at d0 d1 d2 d3
  clear e0 h hb0 hk0 hz hn hx hx2
  go_enter Try.func14, Try.ntmps14
  go_upto_region 1 with (fail)
  try rw [ew]
  try rw [Hz.out]
  clear ew
  go_wp2_with fail
  go_loopg [8] n (fun gk i wr => ∃ j : Nat, Hid (gk + j = n) ∧ j ≤ n ∧ i = .int .i64 (j : Int) ∧ Hid (∀ t, t < j → decide ((L.getD t fw0).pr = p ∧ (L.getD t fw0).po = q) = false) ∧ w0 = wr)
  case atStart => exact ⟨0, rfl, Nat.zero_le _, rfl, Lib.hid (fun t ht => by omega), rfl⟩
  case round =>
    obtain ⟨j, hgk, hj, rfl, hno, rfl⟩ := hrel
    by_cases hjn : j < n
    · obtain ⟨g, pp, hidx, hlt, hfl⟩ := HA.out.index (c := c) Hn.out hjn
      obtain ⟨f1, ef⟩ : ∃ f, L.getD j fw0 = f := ⟨_, rfl⟩
      rw [ef] at hfl
      obtain ⟨c0, c1, c2', c3⟩ := hfl
      have i0 : (0 : Int) ≤ (j : Int) := by omega
      have i1 : (j : Int) < (n : Int) := by omega
      have Hef := Lib.hid ef
      have Hjn := Lib.hid hjn
      clear ef hlt
      by_cases hp : f1.pr = p
      · by_cases hq : f1.po = q
        · have Hr := Lib.hid (show fwFind p q L = some f1 by
            have hjl : j < L.length := by have := Hn.out; omega
            have e : L.getD j fw0 = L[j] := by simp [List.getD, hjl]
            unfold fwFind
            rw [List.find?_eq_some_iff_getElem]
            refine ⟨by simp [hp, hq], j, hjl, by rw [← e, Hef.out], fun t ht => ?_⟩
            have := hno.out t ht
            have e2 : L.getD t fw0 = L[t] := by simp [List.getD, show t < L.length by omega]
            rw [e2] at this
            show (!decide (L[t].pr = p ∧ L[t].po = q)) = true
            rw [this]; rfl)
          have b1 : (f1.pr == p) = true := by simpa using hp
          have b2 : (f1.po == q) = true := by simpa using hq
          obtain rfl : f1 = f := by have := Hx.out; rw [Hr.out] at this; exact this
          obtain rfl : is_ = true := by have := Hx2.out; rw [Hr.out] at this; exact this.symm
          clear hp hq Hr
          go_wp2_with fail
          exact bodyPost_ret (v := .tuple #[.agg #[.int .u8 f1.pr, .int .u16 f1.po, .int .u32 f1.ad, .int .u16 f1.tp], .bool true]) (results_row_tmp rfl _ _ z _ _ _ _ _ rfl rfl (set4_blk HK.out _ _ _ _) Try.underlying40 rfl (by kernel_rfl)) rfl ⟨rfl, set4_below Hb0.out (by rw [Hz.out]; exact Nat.le_refl _) _ _ _ _⟩
        · have b1 : (f1.pr == p) = true := by simpa using hp
          have b2 : (f1.po == q) = false := by simpa using hq
          have Hno := Lib.hid (show ∀ t, t < j + 1 → decide ((L.getD t fw0).pr = p ∧ (L.getD t fw0).po = q) = false by
            intro t ht
            by_cases e : t = j
            · subst e; rw [Hef.out]; simp [hq]
            · exact hno.out t (by omega))
          clear hp hq
          go_wp2_with fail
          go_roundg (gk - 1)
          case measure => have := hgk.out; have := Hjn.out; omega
          case rel => exact ⟨j + 1, by have := hgk.out; have := Hjn.out; show gk - 1 + (j + 1) = _; omega, by have := Hjn.out; omega, by go_num, Hno, rfl⟩
      · have b1 : (f1.pr == p) = false := by simpa using hp
        have Hno := Lib.hid (show ∀ t, t < j + 1 → decide ((L.getD t fw0).pr = p ∧ (L.getD t fw0).po = q) = false by
          intro t ht
          by_cases e : t = j
          · subst e; rw [Hef.out]; simp [hp]
          · exact hno.out t (by omega))
        clear hp
        go_wp2_with fail
        go_roundg (gk - 1)
        case measure => have := hgk.out; have := Hjn.out; omega
        case rel => exact ⟨j + 1, by have := hgk.out; have := Hjn.out; show gk - 1 + (j + 1) = _; omega, by have := Hjn.out; omega, by go_num, Hno, rfl⟩
    · obtain rfl : n = j := by omega
      have Hr := Lib.hid (show fwFind p q L = none by
        refine fwFind_no (fun g hg hc => ?_)
        obtain ⟨t, ht⟩ := List.getElem?_of_mem hg
        obtain ⟨htl, e⟩ := List.getElem?_eq_some_iff.1 ht
        have := hno.out t (by have := Hn.out; omega)
        rw [show L.getD t fw0 = g by simp [List.getD, ht]] at this
        simp [hc.1, hc.2] at this)
      obtain rfl : f = fw0 := by have := Hx.out; rw [Hr.out] at this; exact this.symm
      obtain rfl : is_ = false := by have := Hx2.out; rw [Hr.out] at this; exact this.symm
      go_wp2_with fail
      exact bodyPost_ret (v := .tuple #[.agg #[.int .u8 0, .int .u16 0, .int .u32 0, .int .u16 0], .bool false]) (results_row_tmp rfl _ _ z _ _ _ _ _ rfl rfl (set4_blk HK.out _ _ _ _) Try.underlying40 rfl (by kernel_rfl)) rfl ⟨rfl, set4_below Hb0.out (by rw [Hz.out]; exact Nat.le_refl _) _ _ _ _⟩
end Go.Proofs.Ytknmpfdmjfbpdaa
