/-
  The contracts of package pool's calls that only read: has, Taken, Count, least.
-/
import Derived.Test.YtlifldionfoddaaPoolMem
import Derived.Test.YtlifldionfoddaaQuiet
import Derived.Deep.LoopGhost
namespace Go.Proofs.Ytlifldionfoddaa
set_option maxRecDepth 10000
open Go.RowKit
set_option linter.unusedSimpArgs false
set_option linter.unusedVariables false

def QuietIs (v : Value) (w : World) (e : Ending) (w' : World) : Prop := e = .returned v ∧ ∃ m, w' = w.drewN m
theorem QuietIs.ret {v : Value} {w : World} {e : Ending} {w' : World} (h : QuietIs v w e w') : RetIs v w e w' := by
  obtain ⟨rfl, m, rfl⟩ := h
  exact ⟨rfl, below_drewN (Below.refl _ _) m⟩
theorem none_quiet (g : Nat) (w : World) (h : w.cell? ⟨g, 0, none⟩ = some (.pointer (some ⟨g, 0, none⟩))) : Calls Try.prog 16 #[.pointer (some ⟨g, 0, none⟩)] w (QuietIs (.bool false) w) := by
  have hq := neq_same ⟨g, 0, none⟩ w
  go_enter Try.func16, Try.ntmps16
  go_wp2_with fail
  go_ret
  exact ⟨rfl, 0, rfl⟩
theorem none_quiet_nil (w : World) : Calls Try.prog 16 #[.pointer none] w (QuietIs (.bool true) w) := by
  go_enter Try.func16, Try.ntmps16
  go_wp2_with fail
  go_ret
  exact ⟨rfl, 0, rfl⟩
theorem none_quiet_zero (g : Nat) (w : World) (h : w.cell? ⟨g, 0, none⟩ = some (.pointer none)) : Calls Try.prog 16 #[.pointer (some ⟨g, 0, none⟩)] w (QuietIs (.bool true) w) := by
  have hq := neq_none ⟨g, 0, none⟩ w
  go_enter Try.func16, Try.ntmps16
  go_wp2_with fail
  go_ret
  exact ⟨rfl, 0, rfl⟩
/-- What a pool's reading calls look at. -/
structure Looks (w : World) (g gp cp : Nat) (lo : Int) (st : List Int) : Prop where
  c0 : w.cell? ⟨g, 0, none⟩ = some (.pointer (some ⟨g, 0, none⟩))
  c1 : w.cell? ⟨g, 1, none⟩ = some (.int .u16 lo)
  c4 : w.cell? ⟨g, 4, none⟩ = some (.slice (some ⟨gp, 0, none⟩) st.length cp)
  row : ∀ i, i < st.length → w.cell? ⟨gp, i, none⟩ = some (.int .u8 (st.getD i 0))
  lo0 : 0 ≤ lo ∧ lo < 65536
  n : st.length ≤ 65536
theorem Looks.drewN {w : World} {g gp cp : Nat} {lo : Int} {st : List Int} (h : Looks w g gp cp lo st) (k : Nat) : Looks (w.drewN k) g gp cp lo st :=
  ⟨h.c0, h.c1, h.c4, h.row, h.lo0, h.n⟩
theorem MemAt.looks {w : World} {S : Nat → Prop} {g gp cp gm : Nat} {vE : Value} {R : Int → Value} {q : PS} (h : MemAt w S g gp cp gm vE R q) (h0 : 0 ≤ q.lo ∧ q.lo < 65536) (hn : q.st.length ≤ 65536) : Looks w g gp cp q.lo q.st := by
  obtain ⟨k0, k1, k2, k3, k4, k5, k6, k7, k8, k9⟩ := cells10 h.box
  exact ⟨k0, k1, k4, fun i hi => by simpa using h.row.cell hi, h0, hn⟩
def hasP (lo : Int) (n : Nat) (p : Int) : Bool := decide (lo ≤ p) && decide (p < lo + n)
theorem has_any (g gp cp : Nat) (lo p : Int) (st : List Int) (x : Bool) (w : World) (h : Looks w g gp cp lo st) (hp : 0 ≤ p ∧ p < 65536) (hx : hasP lo st.length p = x) :
    Calls Try.prog 21 #[.pointer (some ⟨g, 0, none⟩), .int .u16 p] w (QuietIs (.bool x) w) := by
  have k0 := h.c0
  have k1 := h.c1
  have k4 := h.c4
  have Hno := Lib.hid (fun k => none_quiet g (w.drewN k) k0)
  have h0 := h.lo0
  have hn := h.n
  unfold hasP at hx
  by_cases h1 : lo ≤ p
  · have q1 : IntKind.u16.wrap (p - lo) = p - lo := by (simp [IntKind.wrap, IntKind.bits, IntKind.signed] <;> omega)
    have q2 : IntKind.i64.wrap (p - lo) = p - lo := by rw [IntKind.wrap_i64]; omega
    have e1 : decide (lo ≤ p) = true := decide_eq_true h1
    have e2 : decide (p - lo < (st.length : Int)) = x := by rw [← hx, e1, Bool.true_and]; congr 1; exact propext ⟨fun _ => by omega, fun _ => by omega⟩
    clear hx
    have HX := Lib.hid e2
    clear e2
    go_enter Try.func21, Try.ntmps21
    go_wp2_with fail
    go_quiet (exact Calls.quiet_of (Hno.out _))
    go_wp2_with fail
    go_ret
    exact ⟨by rw [← HX.out]; rfl, nq, rfl⟩
  · have e1 : decide (lo ≤ p) = false := decide_eq_false h1
    have HX := Lib.hid (show false = x by rw [← hx, e1]; rfl)
    clear hx
    go_enter Try.func21, Try.ntmps21
    go_wp2_with fail
    go_quiet (exact Calls.quiet_of (Hno.out _))
    go_wp2_with fail
    go_ret
    exact ⟨by rw [← HX.out]; rfl, nq, rfl⟩
def takenP (lo : Int) (st : List Int) (p : Int) : Bool := hasP lo st.length p && decide (st.getD (p - lo).toNat 0 = 1)
theorem taken_quiet (g gp cp : Nat) (lo p : Int) (st : List Int) (x : Bool) (w : World) (h : Looks w g gp cp lo st) (hp : 0 ≤ p ∧ p < 65536) (hx : takenP lo st p = x) :
    Calls Try.prog 14 #[.pointer (some ⟨g, 0, none⟩), .int .u16 p] w (QuietIs (.bool x) w) := by
  obtain ⟨b, eb⟩ : ∃ b, hasP lo st.length p = b := ⟨_, rfl⟩
  have Hh := Lib.hid (fun k => has_any g gp cp lo p st b (w.drewN k) (h.drewN k) hp eb)
  have k1 := h.c1
  have k4 := h.c4
  have hrow := h.row
  have h0 := h.lo0
  have hn := h.n
  unfold takenP at hx
  rw [eb] at hx
  cases b with
  | true =>
    unfold hasP at eb
    simp only [Bool.and_eq_true, decide_eq_true_eq] at eb
    obtain ⟨i, hi, hil⟩ : ∃ i : Nat, p = lo + (i : Int) ∧ i < st.length := ⟨(p - lo).toNat, by omega, by omega⟩
    subst hi
    have q1 : IntKind.u16.wrap (lo + (i : Int) - lo) = (i : Int) := by (simp [IntKind.wrap, IntKind.bits, IntKind.signed] <;> omega)
    have e1 : lo + (i : Int) - lo = (i : Int) := by omega
    have i0 : (0 : Int) ≤ (i : Int) := by omega
    have i1 : (i : Int) < (st.length : Int) := by omega
    have hc := hrow i hil
    have HX := Lib.hid (show decide (st.getD i 0 = 1) = x by rw [← hx, e1, Bool.true_and]; rfl)
    clear hx eb hrow
    obtain ⟨z, ez⟩ : ∃ z, st.getD i 0 = z := ⟨_, rfl⟩
    rw [ez] at hc HX
    clear ez e1
    go_enter Try.func14, Try.ntmps14
    go_wp2_with fail
    go_quiet (exact Calls.quiet_of (Hh.out _))
    go_wp2_with fail
    go_ret
    refine ⟨?_, nq, rfl⟩
    rw [← HX.out]
    by_cases hz : z = 1
    · subst hz; rfl
    · have h2 : (z == 1) = false := by simpa using hz
      simp [h2, hz]
  | false =>
    have HX := Lib.hid (show false = x by rw [← hx]; rfl)
    clear hx eb hrow
    go_enter Try.func14, Try.ntmps14
    go_wp2_with fail
    go_quiet (exact Calls.quiet_of (Hh.out _))
    go_wp2_with fail
    go_ret
    exact ⟨by rw [← HX.out]; rfl, nq, rfl⟩
theorem count_quiet (g : Nat) (c : Int) (w : World) (h : w.cell? ⟨g, 0, none⟩ = some (.pointer (some ⟨g, 0, none⟩))) (hc : w.cell? ⟨g, 6, none⟩ = some (.int .i64 c)) :
    Calls Try.prog 12 #[.pointer (some ⟨g, 0, none⟩)] w (QuietIs (.int .i64 c) w) := by
  have Hno := Lib.hid (none_quiet g w h)
  go_enter Try.func12, Try.ntmps12
  go_wp2_with fail
  refine Hno.out.mono ?_
  rintro e w1 ⟨rfl, m, rfl⟩
  go_wp2_with fail
  go_ret
  exact ⟨rfl, m, rfl⟩
/-- The first port that is free. -/
def firstZ (st : List Int) : Option Nat := fst_ st.length (fun i => decide (st.getD i 0 = 0))
def leastP (lo : Int) (st : List Int) : Int × Bool := match firstZ st with | none => (0, false) | some i => (lo + (i : Int), true)
theorem least_any (g gp cp : Nat) (lo p : Int) (st : List Int) (x : Bool) (w : World) (h : Looks w g gp cp lo st) (hl : lo + st.length ≤ 65536) (hx : leastP lo st = (p, x)) :
    Calls Try.prog 19 #[.pointer (some ⟨g, 0, none⟩)] w (QuietIs (.tuple #[.int .u16 p, .bool x]) w) := by
  have k1 := h.c1
  have k4 := h.c4
  have Hrow := Lib.hid h.row
  have h0 := h.lo0
  have hn := h.n
  obtain ⟨n, en⟩ : ∃ n, st.length = n := ⟨_, rfl⟩
  unfold leastP firstZ at hx
  rw [en] at k4 Hrow hn hl hx
  have HX := Lib.hid hx
  clear hx en h
  go_enter Try.func19, Try.ntmps19
  go_wp2_with fail
  go_loopg [10] n (fun gk i wr => ∃ j : Nat, Hid (gk + j = n) ∧ j ≤ n ∧ i = .int .i64 (j : Int) ∧ Hid (∀ i, i < j → decide (st.getD i 0 = 0) = false) ∧ w = wr)
  case atStart => exact ⟨0, rfl, Nat.zero_le _, rfl, Lib.hid (fun i hi => by omega), rfl⟩
  case round =>
    obtain ⟨j, hgk, hj, rfl, hno, rfl⟩ := hrel
    by_cases hjn : j < n
    · have hc := Hrow.out j hjn
      obtain ⟨z, ez⟩ : ∃ z, st.getD j 0 = z := ⟨_, rfl⟩
      rw [ez] at hc
      have Ez := Lib.hid ez
      clear ez
      have i0 : (0 : Int) ≤ (j : Int) := by omega
      have i1 : (j : Int) < (n : Int) := by omega
      by_cases hz : z = 0
      · subst hz
        have Hp := Lib.hid (show p = lo + (j : Int) ∧ x = true by
          have h := HX.out
          rw [fst_some hjn (by rw [Ez.out]; rfl) hno.out] at h
          simp only [Prod.mk.injEq] at h
          exact ⟨h.1.symm, h.2.symm⟩)
        have q1 : IntKind.u16.wrap (j : Int) = (j : Int) := by (simp [IntKind.wrap, IntKind.bits, IntKind.signed] <;> omega)
        have q2 : IntKind.u16.wrap (lo + (j : Int)) = lo + (j : Int) := by (simp [IntKind.wrap, IntKind.bits, IntKind.signed] <;> omega)
        go_wp2_with fail
        go_ret2
        exact ⟨by rw [Hp.out.1, Hp.out.2]; rfl, 0, rfl⟩
      · have h2 : (z == 0) = false := by simpa using hz
        have Hno := Lib.hid (show ∀ i, i < j + 1 → decide (st.getD i 0 = 0) = false by
          intro i hi
          by_cases e : i = j
          · subst e; rw [Ez.out]; exact decide_eq_false hz
          · exact hno.out i (by omega))
        clear hz
        go_wp2_with fail
        go_roundg (gk - 1)
        case measure => have := hgk.out; omega
        case rel => exact ⟨j + 1, by have := hgk.out; show gk - 1 + (j + 1) = _; omega, by omega, by go_num, Hno, rfl⟩
    · obtain rfl : n = j := by omega
      have Hp := Lib.hid (show p = 0 ∧ x = false by
        have h := HX.out
        rw [fst_none.2 hno.out] at h
        simp only [Prod.mk.injEq] at h
        exact ⟨h.1.symm, h.2.symm⟩)
      go_wp2_with fail
      go_ret2
      exact ⟨by rw [Hp.out.1, Hp.out.2]; rfl, 0, rfl⟩
end Go.Proofs.Ytlifldionfoddaa
