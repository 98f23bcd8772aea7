/-
  What comes into the laws of pool, opened: a pool's ends, a row of calls; fit.
-/
import Derived.Test.YtlifldionfoddaaPool
import Derived.Test.YtlifldionfoddaaBut
import Derived.Test.YtlifldionfoddaaFields
import Derived.Deep.Slices
import Derived.ChangeSame
namespace Go.Proofs.Ytlifldionfoddaa
set_option maxRecDepth 10000
open Go.Joins Go.ChangeShapes Go.WideShapes Go.ChangeAt Go.RowKit Go.Deep

theorem bounds_u64P {x : Int} (h : (Lit.int .u64 x).wf = true) : 0 ≤ x ∧ x < 18446744073709551616 := by
  have := bounds_u64 h
  omega
theorem addr_add (b o k : Nat) : (⟨b, o, none⟩ : Addr).add k = ⟨b, o + k, none⟩ := by
  unfold Addr.add
  split <;> simp_all
def PEndsAt (_w : World) (v : Value) : Prop := ∃ lo hi rest : Int, v = .agg #[.int .u16 lo, .int .u16 hi, .int .u64 rest] ∧ (0 ≤ lo ∧ lo < 65536) ∧ (0 ≤ hi ∧ hi < 65536) ∧ (0 ≤ rest ∧ rest < 18446744073709551616)
/-- A slice of calls. -/
structure RdA (w : World) (A : Option Addr) (n : Nat) : Prop where
  at_ : 0 < n → ∃ b o, A = some ⟨b, o, none⟩ ∧ b < w.heap.size ∧ ∀ i, i < n → ∃ kd pt t : Int, (w.cell? ⟨b, o + i * 3, none⟩ = some (.int .i64 kd) ∧ w.cell? ⟨b, o + i * 3 + 1, none⟩ = some (.int .u16 pt) ∧ w.cell? ⟨b, o + i * 3 + 2, none⟩ = some (.int .u64 t)) ∧ (0 ≤ pt ∧ pt < 65536) ∧ (0 ≤ t ∧ t < 18446744073709551616)
theorem RdA.nil (w : World) (A : Option Addr) : RdA w A 0 := ⟨fun h => absurd h (by omega)⟩
theorem RdA.off {S : Nat → Prop} {w w' : World} {A : Option Addr} {n : Nat} (h : RdA w A n) (hb : But S w w') (hS : ∀ k, S k → w.heap.size ≤ k) : RdA w' A n :=
  ⟨fun hn => by
    obtain ⟨b, o, e, hlt, hc⟩ := h.at_ hn
    refine ⟨b, o, e, hb.lt hlt, fun i hi => ?_⟩
    obtain ⟨kd, pt, t, ⟨h0, h1, h2⟩, hh⟩ := hc i hi
    have hns : ¬ S b := fun hs => by have := hS b hs; omega
    exact ⟨kd, pt, t, ⟨by rw [hb.cell (p := ⟨b, _, none⟩) hlt hns]; exact h0, by rw [hb.cell (p := ⟨b, _, none⟩) hlt hns]; exact h1, by rw [hb.cell (p := ⟨b, _, none⟩) hlt hns]; exact h2⟩, hh⟩⟩
theorem RdA.below {w w' : World} {A : Option Addr} {n : Nat} (h : RdA w A n) (hb : Below w.heap.size w w') : RdA w' A n :=
  h.off (But.of (S := fun _ => False) hb) (fun _ hs => hs.elim)
theorem RdA.index {w : World} {A : Option Addr} {n c : Nat} (h : RdA w A n) {j : Nat} (hj : j < n) :
    ∃ (b p : Nat) (kd pt t : Int), (∀ W : World, (Instr.indexAt 26 (.slice A n c) (.int .i64 (j : Int))).run Try.prog W = .ok (.pointer (some ⟨b, p, none⟩)) W) ∧ b < w.heap.size ∧
      w.cell? ⟨b, p, none⟩ = some (.int .i64 kd) ∧ w.cell? ⟨b, p + 1, none⟩ = some (.int .u16 pt) ∧ w.cell? ⟨b, p + 2, none⟩ = some (.int .u64 t) ∧ (0 ≤ pt ∧ pt < 65536) ∧ (0 ≤ t ∧ t < 18446744073709551616) := by
  obtain ⟨b, o, rfl, hb, hc⟩ := h.at_ (by omega)
  obtain ⟨kd, pt, t, ⟨h0, h1, h2⟩, hp, ht⟩ := hc j hj
  have k0 : (0 : Int) ≤ (j : Int) := by omega
  have k1 : (j : Int) < (n : Int) := by omega
  exact ⟨b, o + j * 3, kd, pt, t, fun W => by go_simp, hb, h0, h1, h2, hp, ht⟩
def ActsAt (w : World) (v : Value) : Prop := ∃ (A : Option Addr) (n c : Nat), v = .slice A n c ∧ n ≤ c ∧ c ≤ maxLen ∧ RdA w A n
section
variable {H : Type} {enc : TypeId × Value → H} {W : World} {base : Nat} {v : Value} {d : DataW H} {p : List MemPlace}
theorem pends_open (hv : Value.okWide Try.prog W .any base 25 v) (h : DataW.Trod enc Try.prog W 0 (fun _ => true) true 25 v d p) : PEndsAt W v := by
  obtain ⟨cs, rfl, hsz⟩ := okWide_struct Try.underlying25 hv
  obtain ⟨l⟩ := cs
  have hC : Try.prog.cellsOf 25 = 3 := by kernel_rfl
  match l, hsz.trans hC with
  | [c0, c1, c2], _ =>
    obtain ⟨fuel, hf⟩ := h
    try simp only [Value.cells] at hf
    obtain ⟨m, hh⟩ := one_parts Try.underlying25 (by kernel_rfl) hf
    obtain ⟨_, h0⟩ : ∃ y, DataW.trod enc Try.prog W 0 (fun _ => true) true m 22 [c0] = some y := hh 0 _ _ rfl rfl
    obtain ⟨x0, e0, -, w0⟩ := DataW.trod_int Try.underlying22 h0
    simp at e0
    subst e0
    have b0 := bounds_u16 w0
    obtain ⟨_, h1⟩ : ∃ y, DataW.trod enc Try.prog W 0 (fun _ => true) true m 22 [c1] = some y := hh 1 _ _ rfl rfl
    obtain ⟨x1, e1, -, w1⟩ := DataW.trod_int Try.underlying22 h1
    simp at e1
    subst e1
    have b1 := bounds_u16 w1
    obtain ⟨_, h2⟩ : ∃ y, DataW.trod enc Try.prog W 0 (fun _ => true) true m 23 [c2] = some y := hh 2 _ _ rfl rfl
    obtain ⟨x2, e2, -, w2⟩ := DataW.trod_int Try.underlying23 h2
    simp at e2
    subst e2
    have b2 := bounds_u64P w2
    exact ⟨x0, x1, x2, rfl, by omega, by omega, by omega⟩
theorem acts_open (hv : Value.okWide Try.prog W .any base 26 v) (h : DataW.Trod enc Try.prog W 0 (fun _ => true) true 26 v d p) : ActsAt W v := by
  obtain ⟨a0, len0, cap0, rfl⟩ := okWide_slice Try.underlying26 hv
  obtain ⟨fu, hm⟩ := h
  have hC : Try.prog.cellsOf 36 = 3 := by kernel_rfl
  rcases open_slice Try.underlying26 hm with ⟨hcs, _⟩ | ⟨x, len, cap, m, fu2, D, Pl, hcs, _, hl, hm', hmm, _, hi⟩
  · simp [Value.cells] at hcs
    obtain ⟨rfl, rfl, rfl⟩ := hcs
    exact ⟨Option.none, 0, 0, rfl, Nat.le_refl _, by simp [maxLen], RdA.nil _ _⟩
  · simp [Value.cells] at hcs
    obtain ⟨rfl, rfl, rfl⟩ := hcs
    simp only [if_true] at hmm
    subst hmm
    rw [hC] at hi
    have hP : ∀ i, i < len0 → ∃ kd pt t : Int, (W.cell? (x.add (i * 3)) = some (.int .i64 kd) ∧ W.cell? ((x.add (i * 3)).add 1) = some (.int .u16 pt) ∧ W.cell? ((x.add (i * 3)).add 2) = some (.int .u64 t)) ∧ (0 ≤ pt ∧ pt < 65536) ∧ (0 ≤ t ∧ t < 18446744073709551616) := by
      intro i hin
      obtain ⟨cs', hc, ht⟩ := hi i (by omega)
      obtain ⟨m, hh⟩ := one_parts Try.underlying36 (by kernel_rfl) ht
      obtain ⟨hlen, hcl, hat⟩ := World.cells?_some hc
      match cs', hlen with
      | [c0, c1, c2], _ =>
        obtain ⟨_, h0⟩ : ∃ y, DataW.trod enc Try.prog W 0 (fun _ => true) true m 3 [c0] = some y := hh 0 _ _ rfl rfl
        obtain ⟨x0, e0, -, w0⟩ := DataW.trod_int Try.underlying3 h0
        simp at e0
        subst e0
        have b0 := bounds_i64 w0
        obtain ⟨_, h1⟩ : ∃ y, DataW.trod enc Try.prog W 0 (fun _ => true) true m 22 [c1] = some y := hh 1 _ _ rfl rfl
        obtain ⟨x1, e1, -, w1⟩ := DataW.trod_int Try.underlying22 h1
        simp at e1
        subst e1
        have b1 := bounds_u16 w1
        obtain ⟨_, h2⟩ : ∃ y, DataW.trod enc Try.prog W 0 (fun _ => true) true m 23 [c2] = some y := hh 2 _ _ rfl rfl
        obtain ⟨x2, e2, -, w2⟩ := DataW.trod_int Try.underlying23 h2
        simp at e2
        subst e2
        have b2 := bounds_u64P w2
        have k0 := hat 0 (by omega)
        have k1 := hat 1 (by omega)
        have k2 := hat 2 (by omega)
        simp at k0 k1 k2
        exact ⟨x0, x1, x2, ⟨by simpa [Addr.add] using k0, k1, k2⟩, by omega, by omega⟩
    refine ⟨some x, len0, _, rfl, hl, hm', ⟨fun hn => ?_⟩⟩
    obtain ⟨b, off, spot⟩ := x
    obtain ⟨_, _, _, ⟨q0, _, _⟩, _⟩ := hP 0 hn
    have hspot : spot = Option.none := by simpa [Addr.add] using World.cell?_spot q0
    subst hspot
    refine ⟨b, off, rfl, World.block_lt_of_cell? (w := W) (a := ⟨b, off, Option.none⟩) (by simpa [Addr.add] using q0), fun i hin => ?_⟩
    obtain ⟨kd, pt, t, ⟨h0, h1, h2⟩, hh⟩ := hP i hin
    rw [addr_add] at h0 h1 h2
    rw [addr_add] at h1 h2
    exact ⟨kd, pt, t, ⟨h0, h1, h2⟩, hh⟩
end
/-- What fit makes of the ends. -/
def fitH (lo hi : Int) : Int := if lo < hi ∧ 39 < hi - lo then lo + 39 else hi
def FitIs (lo hi rest : Int) (w : World) (e : Ending) (w' : World) : Prop := e = .returned (.agg #[.int .u16 lo, .int .u16 (fitH lo hi), .int .u64 rest]) ∧ Below w.heap.size w w'
theorem fit_any (lo hi rest : Int) (w : World) (hl : 0 ≤ lo ∧ lo < 65536) (hh : 0 ≤ hi ∧ hi < 65536) : Calls Try.prog 7 #[.agg #[.int .u16 lo, .int .u16 hi, .int .u64 rest]] w (FitIs lo hi rest w) := by
  unfold FitIs fitH
  obtain ⟨H, eH⟩ : ∃ H, (if lo < hi ∧ 39 < hi - lo then lo + 39 else hi) = H := ⟨_, rfl⟩
  rw [eH]
  have Hw := Lib.hid (show Below w.heap.size w ((w.alloc (.cells #[.int .u16 lo, .int .u16 hi, .int .u64 rest] 25)).alloc (.cells #[.int .u16 0, .int .u16 0, .int .u64 0] 25)) from ((Below.refl _ _).alloc (Nat.le_refl _) _).alloc (by simp) _)
  by_cases h1 : lo < hi
  · have q1 : IntKind.u16.wrap (hi - lo) = hi - lo := by (simp [IntKind.wrap, IntKind.bits, IntKind.signed] <;> omega)
    by_cases h2 : 39 < hi - lo
    · have q2 : IntKind.u16.wrap (lo + 39) = lo + 39 := by (simp [IntKind.wrap, IntKind.bits, IntKind.signed] <;> omega)
      have EH := Lib.hid (show lo + 39 = H by rw [← eH, if_pos ⟨h1, h2⟩])
      clear eH
      go_enter Try.func7, Try.ntmps7
      go_wp2_with fail
      refine bodyPost_ret (v := .agg #[.int .u16 lo, .int .u16 (lo + 39), .int .u64 rest]) (by simp [results, Try.results7, go_sem]) rfl ?_
      exact ⟨by rw [← EH.out], by repeat (first | exact Hw.out | exact Below.refl _ _ | refine Below.drew ?_ | (refine Below.alloc ?_ (by simp <;> omega) _) | (refine Below.setCell ?_ (by simp <;> omega) _))⟩
    · have EH := Lib.hid (show hi = H by rw [← eH, if_neg (fun h => h2 h.2)])
      clear eH
      go_enter Try.func7, Try.ntmps7
      go_wp2_with fail
      refine bodyPost_ret (v := .agg #[.int .u16 lo, .int .u16 (hi), .int .u64 rest]) (by simp [results, Try.results7, go_sem]) rfl ?_
      exact ⟨by rw [← EH.out], by repeat (first | exact Hw.out | exact Below.refl _ _ | refine Below.drew ?_ | (refine Below.alloc ?_ (by simp <;> omega) _) | (refine Below.setCell ?_ (by simp <;> omega) _))⟩
  · have EH := Lib.hid (show hi = H by rw [← eH, if_neg (fun h => h1 h.1)])
    clear eH
    go_enter Try.func7, Try.ntmps7
    go_wp2_with fail
    refine bodyPost_ret (v := .agg #[.int .u16 lo, .int .u16 (hi), .int .u64 rest]) (by simp [results, Try.results7, go_sem]) rfl ?_
    exact ⟨by rw [← EH.out], by repeat (first | exact Hw.out | exact Below.refl _ _ | refine Below.drew ?_ | (refine Below.alloc ?_ (by simp <;> omega) _) | (refine Below.setCell ?_ (by simp <;> omega) _))⟩
theorem fitH_bd {lo hi : Int} (hl : 0 ≤ lo ∧ lo < 65536) (hh : 0 ≤ hi ∧ hi < 65536) : 0 ≤ fitH lo hi ∧ fitH lo hi < 65536 := by unfold fitH; split <;> omega
theorem fitH_40 {lo hi : Int} : fitH lo hi - lo ≤ 39 := by unfold fitH; split <;> omega
end Go.Proofs.Ytlifldionfoddaa
