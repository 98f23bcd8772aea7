/-
  The contracts of what the document itself finds among options (culvertref05's Mss, Scale, SackOk).
-/
import Derived.Test.YtikfklbgncdbnaaOptRef
import Derived.Test.YtikfklbgncdbnaaBits16
namespace Go.Proofs.Ytikfklbgncdbnaa
set_option maxRecDepth 10000
open Go.RowKit

theorem find_at {ls : List (Int × List Int)} {p : Int × List Int → Bool} {j : Nat} (hj : j < ls.length) (h : (ls.take j).find? p = none) (hp : p (ls.getD j (0, [])) = true) : ls.find? p = some (ls.getD j (0, [])) := by
  have e : ls = ls.take j ++ ls.getD j (0, []) :: ls.drop (j + 1) := by
    have h2 : ls.drop j = ls.getD j (0, []) :: ls.drop (j + 1) := by rw [List.drop_eq_getElem_cons hj]; simp [List.getD, List.getElem?_eq_getElem hj]
    rw [← h2, List.take_append_drop]
  have e2 : ls.find? p = (ls.take j ++ ls.getD j (0, []) :: ls.drop (j + 1)).find? p := congrArg _ e
  rw [e2, List.find?_append, h, List.find?_cons_of_pos hp]
  rfl
theorem find_snoc {ls : List (Int × List Int)} {p : Int × List Int → Bool} {j : Nat} (hj : j < ls.length) (h : (ls.take j).find? p = none) (hp : p (ls.getD j (0, [])) = false) : (ls.take (j + 1)).find? p = none := by
  rw [take_snoc_ ls j (0, []) hj, List.find?_append, h, List.find?_cons_of_neg (by rw [hp]; simp)]
  rfl

def mssP (l : Int × List Int) : Bool := decide (l.1 = 2) && decide (l.2.length = 2)
def scaleP (l : Int × List Int) : Bool := decide (l.1 = 3) && decide (l.2.length = 1)
def sackP (l : Int × List Int) : Bool := decide (l.1 = 4) && decide (l.2.length = 0)
def mssL (ls : List (Int × List Int)) : Int × Bool := match ls.find? mssP with | some l => (l.2.getD 0 0 * 256 + l.2.getD 1 0, true) | none => (0, false)
def scaleL (ls : List (Int × List Int)) : Int × Bool := match ls.find? scaleP with | some l => (if 14 < l.2.getD 0 0 then 14 else l.2.getD 0 0, true) | none => (0, false)
def sackL (ls : List (Int × List Int)) : Bool := (ls.find? sackP).isSome
def PairIs (kd : IntKind) (x : Int) (y : Bool) (w : World) (e : Ending) (w' : World) : Prop := e = .returned (.tuple #[.int kd x, .bool y]) ∧ Below w.heap.size w w'

theorem byte_at {w : World} {A : Option Addr} {n c : Nat} {l : List Int} (h : Rd w A n l) (j : Nat) (ji : Int) (hj : j < n) (he : ji = (j : Int)) :
    ∃ p, (∀ W : World, (Instr.indexAt 22 (.slice A n c) (.int .i64 ji)).run Try.prog W = .ok (.pointer (some p)) W) ∧ w.cell? p = some (.int .u8 (l.getD j 0)) ∧ p.block < w.heap.size ∧ 0 ≤ l.getD j 0 ∧ l.getD j 0 < 256 := by
  subst he
  obtain ⟨p, h1, h2, h3⟩ := h.index (c := c) hj
  refine ⟨p, h1, h2, h3, ?_⟩
  have hl := h.len
  simp only [List.getD, List.getElem?_eq_getElem (show j < l.length by omega), Option.getD_some]
  exact h.byte _ (List.getElem_mem _)

theorem rmss_any (A : Option Addr) (n c : Nat) (os : List OptV) (ls : List (Int × List Int)) (w : World) (hn : n ≤ 1000000) (hr : RdO w A n os) (hs : Reads w os ls) :
    Calls Try.prog 22 #[.slice A n c] w (PairIs .u16 (mssL ls).1 (mssL ls).2 w) := by
  have Hl := Lib.hid (show ls.length = n by rw [← hs.len, hr.len])
  have Hr := Lib.hid hr
  have Hs := Lib.hid hs
  clear hr hs
  go_enter Try.func22, Try.ntmps22
  go_wp2_with fail
  go_loopg [4] n (fun gk i wr => ∃ j : Nat, Hid (gk + j = n) ∧ j ≤ n ∧ i = .int .i64 (j : Int) ∧ Hid ((ls.take j).find? mssP = none) ∧ Below w.heap.size w wr)
  case atStart => exact ⟨0, rfl, Nat.zero_le _, rfl, Lib.hid (by simp), Below.refl _ _⟩
  case round =>
    obtain ⟨j, hgk, hj, rfl, hno, hb⟩ := hrel
    by_cases hjn : j < n
    · have hjn := hjn
      obtain ⟨b1, p1, hrun1, hb1, hk0, hd0⟩ := Hr.out.index (c := c) hjn
      have o1 := Hs.out.get j (by rw [Hr.out.len]; exact hjn)
      obtain ⟨v1, ev1⟩ : ∃ v, os.getD j .none = v := ⟨_, rfl⟩
      obtain ⟨l1, el1⟩ : ∃ v, ls.getD j (0, []) = v := ⟨_, rfl⟩
      rw [ev1] at hk0 hd0 o1
      rw [el1] at o1
      obtain ⟨kd1, A1, n1, c1⟩ := v1
      obtain ⟨t1, d1⟩ := l1
      obtain ⟨rfl, hkb, hnc, hcm, r1⟩ := o1
      simp only at hk0 hd0 hkb hnc hcm r1
      have hk1 := (hb.cell (p := ⟨b1, p1, none⟩) hb1).trans hk0
      have hd1 := (hb.cell (p := ⟨b1, p1 + 1, none⟩) hb1).trans hd0
      have El1 := Lib.hid el1
      have Hd1 := Lib.hid r1.len
      have Hr1 := Lib.hid r1
      clear ev1 el1 r1 hk0 hd0
      by_cases hp : kd1 = 2 ∧ n1 = 2
      · obtain ⟨rfl, rfl⟩ := hp
        have Hfin := Lib.hid (show mssL ls = (d1.getD 0 0 * 256 + d1.getD 1 0, true) by
          unfold mssL
          rw [find_at (by rw [Hl.out]; exact hjn) hno.out (by rw [El1.out]; unfold mssP; simp [Hd1.out]), El1.out])
        obtain ⟨p2, i2, k2, l2, x2, y2⟩ := byte_at (c := c1) (Hr1.out.below hb) 0 0 (by omega) rfl
        obtain ⟨p3, i3, k3, l3, x3, y3⟩ := byte_at (c := c1) (Hr1.out.below hb) 1 1 (by omega) rfl
        obtain ⟨z0, ez0⟩ : ∃ z, d1.getD 0 0 = z := ⟨_, rfl⟩
        obtain ⟨z1, ez1⟩ : ∃ z, d1.getD 1 0 = z := ⟨_, rfl⟩
        rw [ez0] at k2 x2 y2 Hfin
        rw [ez1] at k3 x3 y3 Hfin
        have q1 := wraps_u16 (z0 * 256) (by omega) (by omega)
        have q2 := wraps_u16 (z0 * 256 + z1) (by omega) (by omega)
        clear ez0 ez1
        go_wp2_with fail
        go_quiet (fail)
        go_wp2_with fail
        go_ret2
        rw [Hfin.out]
        exact ⟨rfl, below_drewN_ hb _⟩
      · have Hno := Lib.hid (find_snoc (by rw [Hl.out]; exact hjn) hno.out (show mssP (ls.getD j (0, [])) = false by rw [El1.out]; unfold mssP; have := Hd1.out; simp; omega))
        by_cases h1 : kd1 = 2
        · have h2 : ((n1 : Int) == 2) = false := by simp; omega
          have h3 : (kd1 == 2) = true := by simpa using h1
          clear hp
          go_wp2_with fail
          go_roundg (gk - 1)
          case measure => have := hgk.out; omega
          case rel => exact ⟨j + 1, by have := hgk.out; show gk - 1 + (j + 1) = _; omega, by omega, by go_num, Hno, hb⟩
        · have h3 : (kd1 == 2) = false := by simpa using h1
          clear hp h1
          go_wp2_with fail
          go_roundg (gk - 1)
          case measure => have := hgk.out; omega
          case rel => exact ⟨j + 1, by have := hgk.out; show gk - 1 + (j + 1) = _; omega, by omega, by go_num, Hno, hb⟩
    · obtain rfl : j = n := by omega
      have Hfin := Lib.hid (show mssL ls = (0, false) by
        have h := hno.out
        rw [List.take_of_length_le (by rw [Hl.out]; omega)] at h
        unfold mssL
        rw [h])
      go_wp2_with fail
      go_ret2
      rw [Hfin.out]
      exact ⟨rfl, hb⟩

theorem rscale_any (A : Option Addr) (n c : Nat) (os : List OptV) (ls : List (Int × List Int)) (w : World) (hn : n ≤ 1000000) (hr : RdO w A n os) (hs : Reads w os ls) :
    Calls Try.prog 24 #[.slice A n c] w (PairIs .i64 (scaleL ls).1 (scaleL ls).2 w) := by
  have Hl := Lib.hid (show ls.length = n by rw [← hs.len, hr.len])
  have Hr := Lib.hid hr
  have Hs := Lib.hid hs
  clear hr hs
  go_enter Try.func24, Try.ntmps24
  go_wp2_with fail
  go_loopg [4] n (fun gk i wr => ∃ j : Nat, Hid (gk + j = n) ∧ j ≤ n ∧ i = .int .i64 (j : Int) ∧ Hid ((ls.take j).find? scaleP = none) ∧ Below w.heap.size w wr)
  case atStart => exact ⟨0, rfl, Nat.zero_le _, rfl, Lib.hid (by simp), Below.refl _ _⟩
  case round =>
    obtain ⟨j, hgk, hj, rfl, hno, hb⟩ := hrel
    by_cases hjn : j < n
    · have hjn := hjn
      obtain ⟨b1, p1, hrun1, hb1, hk0, hd0⟩ := Hr.out.index (c := c) hjn
      have o1 := Hs.out.get j (by rw [Hr.out.len]; exact hjn)
      obtain ⟨v1, ev1⟩ : ∃ v, os.getD j .none = v := ⟨_, rfl⟩
      obtain ⟨l1, el1⟩ : ∃ v, ls.getD j (0, []) = v := ⟨_, rfl⟩
      rw [ev1] at hk0 hd0 o1
      rw [el1] at o1
      obtain ⟨kd1, A1, n1, c1⟩ := v1
      obtain ⟨t1, d1⟩ := l1
      obtain ⟨rfl, hkb, hnc, hcm, r1⟩ := o1
      simp only at hk0 hd0 hkb hnc hcm r1
      have hk1 := (hb.cell (p := ⟨b1, p1, none⟩) hb1).trans hk0
      have hd1 := (hb.cell (p := ⟨b1, p1 + 1, none⟩) hb1).trans hd0
      have El1 := Lib.hid el1
      have Hd1 := Lib.hid r1.len
      have Hr1 := Lib.hid r1
      clear ev1 el1 r1 hk0 hd0
      by_cases hp : kd1 = 3 ∧ n1 = 1
      · obtain ⟨rfl, rfl⟩ := hp
        have Hfind := Lib.hid (show ls.find? scaleP = some (3, d1) by
          rw [find_at (by rw [Hl.out]; exact hjn) hno.out (by rw [El1.out]; unfold scaleP; simp [Hd1.out]), El1.out])
        obtain ⟨p2, i2, k2, l2, x2, y2⟩ := byte_at (c := c1) (Hr1.out.below hb) 0 0 (by omega) rfl
        obtain ⟨z0, ez0⟩ : ∃ z, d1.getD 0 0 = z := ⟨_, rfl⟩
        have Hfin := Lib.hid (show scaleL ls = (if 14 < z0 then 14 else z0, true) by unfold scaleL; rw [Hfind.out]; simp only [ez0])
        rw [ez0] at k2 x2 y2
        clear ez0
        by_cases hz : 14 < z0
        · have hz2 : decide (14 < z0) = true := by simpa using hz
          have Hz := Lib.hid (show scaleL ls = (14, true) by rw [Hfin.out, if_pos hz])
          go_wp2_with fail
          go_ret2
          rw [Hz.out]
          exact ⟨rfl, hb⟩
        · have hz2 : decide (14 < z0) = false := by simpa using hz
          have hz3 : z0 ≤ 14 := by omega
          have Hz := Lib.hid (show scaleL ls = (z0, true) by rw [Hfin.out, if_neg hz])
          go_wp2_with fail
          go_ret2
          rw [Hz.out]
          exact ⟨rfl, hb⟩
      · have Hno := Lib.hid (find_snoc (by rw [Hl.out]; exact hjn) hno.out (show scaleP (ls.getD j (0, [])) = false by rw [El1.out]; unfold scaleP; have := Hd1.out; simp only [Bool.and_eq_false_iff, decide_eq_false_iff_not]; omega))
        by_cases h1 : kd1 = 3
        · have h2 : ((n1 : Int) == 1) = false := by simp; omega
          have h2' : ¬ n1 = 1 := by omega
          have h3 : (kd1 == 3) = true := by simpa using h1
          clear hp
          go_wp2_with fail
          go_roundg (gk - 1)
          case measure => have := hgk.out; omega
          case rel => exact ⟨j + 1, by have := hgk.out; show gk - 1 + (j + 1) = _; omega, by omega, by go_num, Hno, hb⟩
        · have h3 : (kd1 == 3) = false := by simpa using h1
          clear hp h1
          go_wp2_with fail
          go_roundg (gk - 1)
          case measure => have := hgk.out; omega
          case rel => exact ⟨j + 1, by have := hgk.out; show gk - 1 + (j + 1) = _; omega, by omega, by go_num, Hno, hb⟩
    · obtain rfl : j = n := by omega
      have Hfin := Lib.hid (show scaleL ls = (0, false) by
        have h := hno.out
        rw [List.take_of_length_le (by rw [Hl.out]; omega)] at h
        unfold scaleL
        rw [h])
      go_wp2_with fail
      go_ret2
      rw [Hfin.out]
      exact ⟨rfl, hb⟩
theorem rsackok_any (A : Option Addr) (n c : Nat) (os : List OptV) (ls : List (Int × List Int)) (w : World) (hn : n ≤ 1000000) (hr : RdO w A n os) (hs : Reads w os ls) :
    Calls Try.prog 26 #[.slice A n c] w (OptBool (sackL ls) w) := by
  have Hl := Lib.hid (show ls.length = n by rw [← hs.len, hr.len])
  have Hr := Lib.hid hr
  have Hs := Lib.hid hs
  clear hr hs
  go_enter Try.func26, Try.ntmps26
  go_wp2_with fail
  go_loopg [3] n (fun gk i wr => ∃ j : Nat, Hid (gk + j = n) ∧ j ≤ n ∧ i = .int .i64 (j : Int) ∧ Hid ((ls.take j).find? sackP = none) ∧ Below w.heap.size w wr)
  case atStart => exact ⟨0, rfl, Nat.zero_le _, rfl, Lib.hid (by simp), Below.refl _ _⟩
  case round =>
    obtain ⟨j, hgk, hj, rfl, hno, hb⟩ := hrel
    by_cases hjn : j < n
    · have hjn := hjn
      obtain ⟨b1, p1, hrun1, hb1, hk0, hd0⟩ := Hr.out.index (c := c) hjn
      have o1 := Hs.out.get j (by rw [Hr.out.len]; exact hjn)
      obtain ⟨v1, ev1⟩ : ∃ v, os.getD j .none = v := ⟨_, rfl⟩
      obtain ⟨l1, el1⟩ : ∃ v, ls.getD j (0, []) = v := ⟨_, rfl⟩
      rw [ev1] at hk0 hd0 o1
      rw [el1] at o1
      obtain ⟨kd1, A1, n1, c1⟩ := v1
      obtain ⟨t1, d1⟩ := l1
      obtain ⟨rfl, hkb, hnc, hcm, r1⟩ := o1
      simp only at hk0 hd0 hkb hnc hcm r1
      have hk1 := (hb.cell (p := ⟨b1, p1, none⟩) hb1).trans hk0
      have hd1 := (hb.cell (p := ⟨b1, p1 + 1, none⟩) hb1).trans hd0
      have El1 := Lib.hid el1
      have Hd1 := Lib.hid r1.len
      have Hr1 := Lib.hid r1
      clear ev1 el1 r1 hk0 hd0
      by_cases hp : kd1 = 4 ∧ n1 = 0
      · obtain ⟨rfl, rfl⟩ := hp
        have Hfind := Lib.hid (show ls.find? sackP = some (4, d1) by
          rw [find_at (by rw [Hl.out]; exact hjn) hno.out (by rw [El1.out]; unfold sackP; simp [Hd1.out]), El1.out])
        have Hfin := Lib.hid (show sackL ls = true by unfold sackL; rw [Hfind.out]; rfl)
        go_wp2_with fail
        go_ret
        rw [Hfin.out]
        exact ⟨rfl, hb⟩
      · have Hno := Lib.hid (find_snoc (by rw [Hl.out]; exact hjn) hno.out (show sackP (ls.getD j (0, [])) = false by rw [El1.out]; unfold sackP; have := Hd1.out; simp only [Bool.and_eq_false_iff, decide_eq_false_iff_not]; omega))
        by_cases h1 : kd1 = 4
        · have h2 : ((n1 : Int) == 0) = false := by simp; omega
          have h2' : ¬ n1 = 0 := by omega
          have h3 : (kd1 == 4) = true := by simpa using h1
          clear hp
          go_wp2_with fail
          go_roundg (gk - 1)
          case measure => have := hgk.out; omega
          case rel => exact ⟨j + 1, by have := hgk.out; show gk - 1 + (j + 1) = _; omega, by omega, by go_num, Hno, hb⟩
        · have h3 : (kd1 == 4) = false := by simpa using h1
          clear hp h1
          go_wp2_with fail
          go_roundg (gk - 1)
          case measure => have := hgk.out; omega
          case rel => exact ⟨j + 1, by have := hgk.out; show gk - 1 + (j + 1) = _; omega, by omega, by go_num, Hno, hb⟩
    · obtain rfl : j = n := by omega
      have Hfin := Lib.hid (show sackL ls = false by
        have h := hno.out
        rw [List.take_of_length_le (by rw [Hl.out]; omega)] at h
        unfold sackL
        rw [h]; rfl)
      go_wp2_with fail
      go_ret
      rw [Hfin.out]
      exact ⟨rfl, hb⟩
end Go.Proofs.Ytikfklbgncdbnaa
