/-
  What comes into the laws of table, opened: a row of calls, each with two tuples.
-/
import Derived.Test.YtnhlbohdlnjaaaaTup
import Derived.Test.YtnhlbohdlnjaaaaBut
import Derived.Test.YtnhlbohdlnjaaaaFields
import Derived.Deep.Slices
import Derived.ChangeSame
namespace Go.Proofs.Ytnhlbohdlnjaaaa
set_option maxRecDepth 10000
open Go.Joins Go.ChangeShapes Go.WideShapes Go.ChangeAt Go.RowKit Go.Deep
set_option linter.unusedSimpArgs false
set_option linter.unusedVariables false

theorem addr_addT (b o k : Nat) : (⟨b, o, none⟩ : Addr).add k = ⟨b, o + k, none⟩ := by
  unfold Addr.add
  split <;> simp_all
/-- A call's cells. -/
def acV (kd id : Int) (t x : Tu) : List Value := [.int .i64 kd, .int .u64 id, .int .u8 t.pr, .int .u32 t.sr, .int .u32 t.ds, .int .u16 t.sp, .int .u16 t.dp, .int .u8 x.pr, .int .u32 x.sr, .int .u32 x.ds, .int .u16 x.sp, .int .u16 x.dp]
structure AcAt (w : World) (b p : Nat) (kd id : Int) (t x : Tu) : Prop where
  c0 : w.cell? ⟨b, p, none⟩ = some (.int .i64 kd)
  c1 : w.cell? ⟨b, p + 1, none⟩ = some (.int .u64 id)
  c2 : w.cell? ⟨b, p + 2, none⟩ = some (.int .u8 t.pr)
  c3 : w.cell? ⟨b, p + 3, none⟩ = some (.int .u32 t.sr)
  c4 : w.cell? ⟨b, p + 4, none⟩ = some (.int .u32 t.ds)
  c5 : w.cell? ⟨b, p + 5, none⟩ = some (.int .u16 t.sp)
  c6 : w.cell? ⟨b, p + 6, none⟩ = some (.int .u16 t.dp)
  c7 : w.cell? ⟨b, p + 7, none⟩ = some (.int .u8 x.pr)
  c8 : w.cell? ⟨b, p + 8, none⟩ = some (.int .u32 x.sr)
  c9 : w.cell? ⟨b, p + 9, none⟩ = some (.int .u32 x.ds)
  ca : w.cell? ⟨b, p + 10, none⟩ = some (.int .u16 x.sp)
  cb : w.cell? ⟨b, p + 11, none⟩ = some (.int .u16 x.dp)
theorem AcAt.box {w : World} {g : Nat} {T : TypeId} {fr : Nat × Nat} (kd id : Int) (t x : Tu) (h : w.heap[g]? = some (.cells (acV kd id t x).toArray T fr)) : AcAt w g 0 kd id t x := by
  constructor <;> (rw [blk_cell h]; rfl)
theorem AcAt.of {w w' : World} {g p : Nat} {kd id : Int} {t x : Tu} (h : AcAt w g p kd id t x) (hc : ∀ i, w'.cell? ⟨g, i, none⟩ = w.cell? ⟨g, i, none⟩) : AcAt w' g p kd id t x :=
  ⟨(hc _).trans h.c0, (hc _).trans h.c1, (hc _).trans h.c2, (hc _).trans h.c3, (hc _).trans h.c4, (hc _).trans h.c5, (hc _).trans h.c6, (hc _).trans h.c7, (hc _).trans h.c8, (hc _).trans h.c9, (hc _).trans h.ca, (hc _).trans h.cb⟩
/-- A slice of calls. -/
structure RdAc (w : World) (A : Option Addr) (n : Nat) : Prop where
  at_ : 0 < n → ∃ b o, A = some ⟨b, o, none⟩ ∧ b < w.heap.size ∧ ∀ i, i < n → ∃ (kd id : Int) (t x : Tu), AcAt w b (o + i * 12) kd id t x ∧ 0 ≤ id ∧ id < 18446744073709551616
theorem RdAc.nil (w : World) (A : Option Addr) : RdAc w A 0 := ⟨fun h => absurd h (by omega)⟩
theorem RdAc.off {S : Nat → Prop} {w w' : World} {A : Option Addr} {n : Nat} (h : RdAc w A n) (hb : But S w w') (hS : ∀ k, S k → w.heap.size ≤ k) : RdAc w' A n :=
  ⟨fun hn => by
    obtain ⟨b, o, e, hlt, hc⟩ := h.at_ hn
    have hns : ¬ S b := fun hs => by have := hS b hs; omega
    refine ⟨b, o, e, hb.lt hlt, fun i hi => ?_⟩
    obtain ⟨kd, id, t, x, ha, hi⟩ := hc i hi
    exact ⟨kd, id, t, x, ha.of (fun i => hb.cell (p := ⟨b, i, none⟩) hlt hns), hi⟩⟩
theorem RdAc.below {w w' : World} {A : Option Addr} {n : Nat} (h : RdAc w A n) (hb : Below w.heap.size w w') : RdAc w' A n :=
  h.off (But.of (S := fun _ => False) hb) (fun _ hs => hs.elim)
theorem RdAc.index {w : World} {A : Option Addr} {n c : Nat} (h : RdAc w A n) {j : Nat} (hj : j < n) :
    ∃ (b p : Nat) (kd id : Int) (t x : Tu), (∀ W : World, (Instr.indexAt 22 (.slice A n c) (.int .i64 (j : Int))).run Try.prog W = .ok (.pointer (some ⟨b, p, none⟩)) W) ∧ b < w.heap.size ∧ AcAt w b p kd id t x ∧ 0 ≤ id ∧ id < 18446744073709551616 := by
  obtain ⟨b, o, rfl, hb, hc⟩ := h.at_ (by omega)
  obtain ⟨kd, id, t, x, ha⟩ := hc j hj
  have k0 : (0 : Int) ≤ (j : Int) := by omega
  have k1 : (j : Int) < (n : Int) := by omega
  exact ⟨b, o + j * 12, kd, id, t, x, fun W => by go_simp, hb, ha⟩
def AcsAt (w : World) (v : Value) : Prop := ∃ (A : Option Addr) (n c : Nat), v = .slice A n c ∧ n ≤ c ∧ c ≤ maxLen ∧ RdAc w A n
section
variable {H : Type} {enc : TypeId × Value → H} {W : World} {base : Nat} {v : Value} {d : DataW H} {p : List MemPlace}
theorem tu_part {fuel : Nat} {c0 c1 c2 c3 c4 : Value} {y : DataW H × List MemPlace} (h : DataW.trod enc Try.prog W 0 (fun _ => true) true fuel 37 [c0, c1, c2, c3, c4] = some y) : ∃ t : Tu, [c0, c1, c2, c3, c4] = [.int .u8 t.pr, .int .u32 t.sr, .int .u32 t.ds, .int .u16 t.sp, .int .u16 t.dp] := by
  obtain ⟨m, hh⟩ := one_parts Try.underlying37 (by kernel_rfl) h
  obtain ⟨_, h0⟩ : ∃ y, DataW.trod enc Try.prog W 0 (fun _ => true) true m 5 [c0] = some y := hh 0 _ _ rfl rfl
  obtain ⟨x0, e0, -, w0⟩ := DataW.trod_int Try.underlying5 h0
  simp at e0
  subst e0
  obtain ⟨_, h1⟩ : ∃ y, DataW.trod enc Try.prog W 0 (fun _ => true) true m 34 [c1] = some y := hh 1 _ _ rfl rfl
  obtain ⟨x1, e1, -, w1⟩ := DataW.trod_int Try.underlying34 h1
  simp at e1
  subst e1
  obtain ⟨_, h2⟩ : ∃ y, DataW.trod enc Try.prog W 0 (fun _ => true) true m 34 [c2] = some y := hh 2 _ _ rfl rfl
  obtain ⟨x2, e2, -, w2⟩ := DataW.trod_int Try.underlying34 h2
  simp at e2
  subst e2
  obtain ⟨_, h3⟩ : ∃ y, DataW.trod enc Try.prog W 0 (fun _ => true) true m 35 [c3] = some y := hh 3 _ _ rfl rfl
  obtain ⟨x3, e3, -, w3⟩ := DataW.trod_int Try.underlying35 h3
  simp at e3
  subst e3
  obtain ⟨_, h4⟩ : ∃ y, DataW.trod enc Try.prog W 0 (fun _ => true) true m 35 [c4] = some y := hh 4 _ _ rfl rfl
  obtain ⟨x4, e4, -, w4⟩ := DataW.trod_int Try.underlying35 h4
  simp at e4
  subst e4
  exact ⟨⟨x0, x1, x2, x3, x4⟩, rfl⟩
theorem acs_open (hv : Value.okWide Try.prog W .any base 22 v) (h : DataW.Trod enc Try.prog W 0 (fun _ => true) true 22 v d p) : AcsAt W v := by
  obtain ⟨a0, len0, cap0, rfl⟩ := okWide_slice Try.underlying22 hv
  obtain ⟨fu, hm⟩ := h
  have hC : Try.prog.cellsOf 39 = 12 := by kernel_rfl
  have hCi : Try.prog.cellsOf 3 = 1 := by kernel_rfl
  have hCu : Try.prog.cellsOf 32 = 1 := by kernel_rfl
  have hCt : Try.prog.cellsOf 37 = 5 := by kernel_rfl
  rcases open_slice Try.underlying22 hm with ⟨hcs, _⟩ | ⟨x, len, cap, m, fu2, D, Pl, hcs, _, hl, hm', hmm, _, hi⟩
  · simp [Value.cells] at hcs
    obtain ⟨rfl, rfl, rfl⟩ := hcs
    exact ⟨Option.none, 0, 0, rfl, Nat.le_refl _, by simp [maxLen], RdAc.nil _ _⟩
  · simp [Value.cells] at hcs
    obtain ⟨rfl, rfl, rfl⟩ := hcs
    simp only [if_true] at hmm
    subst hmm
    rw [hC] at hi
    have hP : ∀ i, i < len0 → ∃ (kd id : Int) (t y : Tu), (0 ≤ id ∧ id < 18446744073709551616) ∧ ∀ k, k < 12 → W.cell? ((x.add (i * 12)).add k) = (acV kd id t y)[k]? := by
      intro i hin
      obtain ⟨cs', hc, ht⟩ := hi i (by omega)
      obtain ⟨m, hm⟩ := multi_parts Try.underlying39 ht
      obtain ⟨hlen, hcl, hat⟩ := World.cells?_some hc
      match cs', hlen with
      | [c0, c1, c2, c3, c4, c5, c6, c7, c8, c9, ca, cb], _ =>
        obtain ⟨_, h0⟩ : ∃ y, DataW.trod enc Try.prog W 0 (fun _ => true) true m 3 ((List.drop 0 [c0, c1, c2, c3, c4, c5, c6, c7, c8, c9, ca, cb]).take (Try.prog.cellsOf 3)) = some y := hm 0 _ rfl
        obtain ⟨_, h1⟩ : ∃ y, DataW.trod enc Try.prog W 0 (fun _ => true) true m 32 ((List.drop 1 [c0, c1, c2, c3, c4, c5, c6, c7, c8, c9, ca, cb]).take (Try.prog.cellsOf 32)) = some y := hm 1 _ rfl
        obtain ⟨_, h2⟩ : ∃ y, DataW.trod enc Try.prog W 0 (fun _ => true) true m 37 ((List.drop 2 [c0, c1, c2, c3, c4, c5, c6, c7, c8, c9, ca, cb]).take (Try.prog.cellsOf 37)) = some y := hm 2 _ rfl
        obtain ⟨_, h3⟩ : ∃ y, DataW.trod enc Try.prog W 0 (fun _ => true) true m 37 ((List.drop 7 [c0, c1, c2, c3, c4, c5, c6, c7, c8, c9, ca, cb]).take (Try.prog.cellsOf 37)) = some y := hm 3 _ rfl
        rw [hCi] at h0
        rw [hCu] at h1
        rw [hCt] at h2 h3
        obtain ⟨x0, e0, -, w0⟩ := DataW.trod_int Try.underlying3 h0
        obtain ⟨x1, e1, -, w1⟩ := DataW.trod_int Try.underlying32 h1
        simp at e0 e1
        subst e0
        subst e1
        obtain ⟨t, et⟩ := tu_part h2
        obtain ⟨y, ey⟩ := tu_part h3
        simp only [List.cons.injEq, and_true] at et ey
        obtain ⟨rfl, rfl, rfl, rfl, rfl⟩ := et
        obtain ⟨rfl, rfl, rfl, rfl, rfl⟩ := ey
        have b1 := bounds_u64 w1
        exact ⟨x0, x1, t, y, ⟨b1.1, by omega⟩, fun k hk => hat k hk⟩
    refine ⟨some x, len0, _, rfl, hl, hm', ⟨fun hn => ?_⟩⟩
    obtain ⟨b, off, spot⟩ := x
    obtain ⟨kd0, id0, t0, y0, _, q0⟩ := hP 0 hn
    have q0 : W.cell? (((⟨b, off, spot⟩ : Addr).add (0 * 12)).add 0) = some (.int .i64 kd0) := q0 0 (by omega)
    have hspot : spot = Option.none := by simpa [Addr.add] using World.cell?_spot q0
    subst hspot
    refine ⟨b, off, rfl, World.block_lt_of_cell? (w := W) (a := ⟨b, off, Option.none⟩) (by simpa [Addr.add] using q0), fun i hin => ?_⟩
    obtain ⟨kd, id, t, y, hbd, hh⟩ := hP i hin
    have key : ∀ k, k < 12 → W.cell? ⟨b, off + i * 12 + k, Option.none⟩ = (acV kd id t y)[k]? := fun k hk => by
      have := hh k hk
      rwa [addr_addT, addr_addT] at this
    exact ⟨kd, id, t, y, ⟨key 0 (by omega), key 1 (by omega), key 2 (by omega), key 3 (by omega), key 4 (by omega), key 5 (by omega), key 6 (by omega), key 7 (by omega), key 8 (by omega), key 9 (by omega), key 10 (by omega), key 11 (by omega)⟩, hbd⟩
end
end Go.Proofs.Ytnhlbohdlnjaaaa
