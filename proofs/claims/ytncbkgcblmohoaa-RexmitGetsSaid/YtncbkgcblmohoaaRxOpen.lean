/-
  What comes into the laws of rexmit, opened: a beginning, a row of calls, a row of truth values.
-/
import Derived.Test.YtncbkgcblmohoaaRdSub
import Derived.Test.YtncbkgcblmohoaaFields
import Derived.Deep.Slices
import Derived.ChangeSame
namespace Go.Proofs.Ytncbkgcblmohoaa
set_option maxRecDepth 10000
open Go.Joins Go.ChangeShapes Go.WideShapes Go.ChangeAt Go.RowKit Go.Deep
set_option linter.unusedSimpArgs false
set_option linter.unusedVariables false

theorem addr_addW (b o k : Nat) : (⟨b, o, none⟩ : Addr).add k = ⟨b, o + k, none⟩ := by
  unfold Addr.add
  split <;> simp_all
/-- A call, as plain data: its kind, its bytes and where they lie, its numbers. -/
structure AV where
  wh : Int
  A : Option Addr
  n : Nat
  c : Nat
  l : List Int
  mss : Int
  nn : Int
  win : Int
  now : Int
structure AvOk (w : World) (a : AV) : Prop where
  wh : -9223372036854775808 ≤ a.wh ∧ a.wh < 9223372036854775808
  mss : -9223372036854775808 ≤ a.mss ∧ a.mss < 9223372036854775808
  nn : 0 ≤ a.nn ∧ a.nn < 4294967296
  win : 0 ≤ a.win ∧ a.win < 4294967296
  now : 0 ≤ a.now ∧ a.now < 18446744073709551616
  rd : RdC w a.A a.n a.c a.l
def avCells (a : AV) : List Value := [.int .i64 a.wh, .slice a.A a.n a.c, .int .i64 a.mss, .int .u32 a.nn, .int .u32 a.win, .int .u64 a.now]
/-- A slice of calls: each with bytes of its own (which may lie anywhere in the world). -/
structure RdAv (w : World) (A : Option Addr) (n : Nat) : Prop where
  at_ : 0 < n → ∃ b o, A = some ⟨b, o, none⟩ ∧ b < w.heap.size ∧ ∀ i, i < n → ∃ a : AV, (∀ k, k < 6 → w.cell? ⟨b, o + i * 6 + k, none⟩ = (avCells a)[k]?) ∧ AvOk w a
theorem AvOk.below {w w' : World} {a : AV} (h : AvOk w a) (hb : Below w.heap.size w w') : AvOk w' a := ⟨h.wh, h.mss, h.nn, h.win, h.now, h.rd.below hb⟩
theorem RdAv.nil (w : World) (A : Option Addr) : RdAv w A 0 := ⟨fun h => absurd h (by omega)⟩
theorem RdAv.below {w w' : World} {A : Option Addr} {n : Nat} (h : RdAv w A n) (hb : Below w.heap.size w w') : RdAv w' A n :=
  ⟨fun hn => by
    obtain ⟨b, o, e, hlt, hc⟩ := h.at_ hn
    have hB : But (fun _ => False) w w' := But.of hb
    refine ⟨b, o, e, hB.lt hlt, fun i hi => ?_⟩
    obtain ⟨a, h0, hh⟩ := hc i hi
    exact ⟨a, fun k hk => by rw [hB.cell (p := ⟨b, _, none⟩) hlt (fun f => f)]; exact h0 k hk, hh.below hb⟩⟩
theorem RdAv.index {w : World} {A : Option Addr} {n c : Nat} (h : RdAv w A n) {j : Nat} (hj : j < n) :
    ∃ (b p : Nat) (a : AV), (∀ W : World, (Instr.indexAt 26 (.slice A n c) (.int .i64 (j : Int))).run Try.prog W = .ok (.pointer (some ⟨b, p, none⟩)) W) ∧ b < w.heap.size ∧
      w.cell? ⟨b, p, none⟩ = some (.int .i64 a.wh) ∧ w.cell? ⟨b, p + 1, none⟩ = some (.slice a.A a.n a.c) ∧ w.cell? ⟨b, p + 2, none⟩ = some (.int .i64 a.mss) ∧ w.cell? ⟨b, p + 3, none⟩ = some (.int .u32 a.nn) ∧ w.cell? ⟨b, p + 4, none⟩ = some (.int .u32 a.win) ∧ w.cell? ⟨b, p + 5, none⟩ = some (.int .u64 a.now) ∧ AvOk w a := by
  obtain ⟨b, o, rfl, hb, hc⟩ := h.at_ (by omega)
  obtain ⟨a, h0, ha⟩ := hc j hj
  have k0 : (0 : Int) ≤ (j : Int) := by omega
  have k1 : (j : Int) < (n : Int) := by omega
  exact ⟨b, o + j * 6, a, fun W => by go_simp, hb, h0 0 (by omega), h0 1 (by omega), h0 2 (by omega), h0 3 (by omega), h0 4 (by omega), h0 5 (by omega), ha⟩
/-- A slice of truth values. -/
structure RdBo (w : World) (A : Option Addr) (n : Nat) (f : Nat → Bool) : Prop where
  at_ : 0 < n → ∃ b o, A = some ⟨b, o, none⟩ ∧ b < w.heap.size ∧ ∀ i, i < n → w.cell? ⟨b, o + i, none⟩ = some (.bool (f i))
theorem RdBo.nil (w : World) (A : Option Addr) (f : Nat → Bool) : RdBo w A 0 f := ⟨fun h => absurd h (by omega)⟩
theorem RdBo.below {w w' : World} {A : Option Addr} {n : Nat} {f : Nat → Bool} (h : RdBo w A n f) (hb : Below w.heap.size w w') : RdBo w' A n f :=
  ⟨fun hn => by
    obtain ⟨b, o, e, hlt, hc⟩ := h.at_ hn
    have hB : But (fun _ => False) w w' := But.of hb
    exact ⟨b, o, e, hB.lt hlt, fun i hi => by rw [hB.cell (p := ⟨b, _, none⟩) hlt (fun f => f)]; exact hc i hi⟩⟩
theorem RdBo.index {w : World} {A : Option Addr} {n c : Nat} {f : Nat → Bool} (h : RdBo w A n f) {j : Nat} (hj : j < n) :
    ∃ b p, (∀ W : World, (Instr.indexAt 75 (.slice A n c) (.int .i64 (j : Int))).run Try.prog W = .ok (.pointer (some ⟨b, p, none⟩)) W) ∧ b < w.heap.size ∧ w.cell? ⟨b, p, none⟩ = some (.bool (f j)) := by
  obtain ⟨b, o, rfl, hb, hc⟩ := h.at_ (by omega)
  have k0 : (0 : Int) ≤ (j : Int) := by omega
  have k1 : (j : Int) < (n : Int) := by omega
  exact ⟨b, o + j, fun W => by go_simp, hb, hc j hj⟩
def BoolsIn (w : World) (v : Value) : Prop := ∃ (A : Option Addr) (n c : Nat) (f : Nat → Bool), v = .slice A n c ∧ n ≤ c ∧ c ≤ maxLen ∧ RdBo w A n f
def ActsIn (w : World) (v : Value) : Prop := ∃ (A : Option Addr) (n c : Nat), v = .slice A n c ∧ n ≤ c ∧ c ≤ maxLen ∧ RdAv w A n
def BeginAt (v : Value) : Prop := ∃ x y r t : Int, v = .agg #[.int .u32 x, .int .u32 y, .int .u64 r, .int .i64 t] ∧ (0 ≤ x ∧ x < 4294967296) ∧ (0 ≤ y ∧ y < 4294967296) ∧ (0 ≤ r ∧ r < 18446744073709551616) ∧ (-9223372036854775808 ≤ t ∧ t < 9223372036854775808)
section
variable {H : Type} {enc : TypeId × Value → H} {W : World} {base : Nat} {v : Value} {d : DataW H} {p : List MemPlace}
/-- A field of bytes. -/
theorem c_part {m : Nat} {y : DataW H × List MemPlace} (hm : DataW.trod enc Try.prog W 0 (fun _ => true) true m 37 [v] = some y) : ∃ A n c l, v = .slice A n c ∧ RdC W A n c l := by
  rcases open_ints Try.underlying37 Try.underlying5 (by kernel_rfl) hm with ⟨hcs, _⟩ | ⟨x, len, cap, zs, hcs, _, hl, hm', hzl, hx, hcell, hwz⟩
  · simp at hcs
    subst hcs
    exact ⟨none, 0, 0, [], rfl, Rd.nil _ _, Nat.le_refl _, by simp [maxLen], fun _ => rfl⟩
  · simp at hcs
    subst hcs
    simp only [if_true] at hzl
    refine ⟨some x, _, _, zs.take len, rfl, ⟨by rw [List.length_take]; omega, fun z hz' => ?_, fun h0 => ?_⟩, hl, hm', fun e => by cases e⟩
    · have := bounds_u8 (hwz z (List.mem_of_mem_take hz'))
      omega
    · obtain ⟨b, o, rfl, hc⟩ := ints_at hcell (by omega)
      refine ⟨b, o, rfl, World.block_lt_of_cell? W _ (hc 0 (by omega)), fun i hi => ?_⟩
      rw [hc i (by omega)]
      simp [List.getD, List.getElem?_take_of_lt hi]
theorem begin_open (hv : Value.okWide Try.prog W .any base 25 v) (h : DataW.Trod enc Try.prog W 0 (fun _ => true) true 25 v d p) : BeginAt v := by
  obtain ⟨cs, rfl, hsz⟩ := okWide_struct Try.underlying25 hv
  obtain ⟨l⟩ := cs
  have hC : Try.prog.cellsOf 25 = 4 := by kernel_rfl
  match l, hsz.trans hC with
  | [c0, c1, c2, c3], _ =>
    obtain ⟨fuel, hf⟩ := h
    try simp only [Value.cells] at hf
    obtain ⟨m, hh⟩ := one_parts Try.underlying25 (by kernel_rfl) hf
    obtain ⟨_, h0⟩ : ∃ y, DataW.trod enc Try.prog W 0 (fun _ => true) true m 22 [c0] = some y := hh 0 _ _ rfl rfl
    obtain ⟨x0, e0, -, w0⟩ := DataW.trod_int Try.underlying22 h0
    simp at e0
    subst e0
    have b0 := bounds_u32 w0
    obtain ⟨_, h1⟩ : ∃ y, DataW.trod enc Try.prog W 0 (fun _ => true) true m 22 [c1] = some y := hh 1 _ _ rfl rfl
    obtain ⟨x1, e1, -, w1⟩ := DataW.trod_int Try.underlying22 h1
    simp at e1
    subst e1
    have b1 := bounds_u32 w1
    obtain ⟨_, h2⟩ : ∃ y, DataW.trod enc Try.prog W 0 (fun _ => true) true m 23 [c2] = some y := hh 2 _ _ rfl rfl
    obtain ⟨x2, e2, -, w2⟩ := DataW.trod_int Try.underlying23 h2
    simp at e2
    subst e2
    have b2 := bounds_u64 w2
    obtain ⟨_, h3⟩ : ∃ y, DataW.trod enc Try.prog W 0 (fun _ => true) true m 3 [c3] = some y := hh 3 _ _ rfl rfl
    obtain ⟨x3, e3, -, w3⟩ := DataW.trod_int Try.underlying3 h3
    simp at e3
    subst e3
    have b3 := bounds_i64 w3
    exact ⟨x0, x1, x2, x3, rfl, by omega, by omega, by omega, by omega⟩
set_option maxHeartbeats 1000000 in
theorem acts_open (hv : Value.okWide Try.prog W .any base 26 v) (h : DataW.Trod enc Try.prog W 0 (fun _ => true) true 26 v d p) : ActsIn W v := by
  obtain ⟨a0, len0, cap0, rfl⟩ := okWide_slice Try.underlying26 hv
  obtain ⟨fu, hm⟩ := h
  have hC : Try.prog.cellsOf 39 = 6 := by kernel_rfl
  rcases open_slice Try.underlying26 hm with ⟨hcs, _⟩ | ⟨x, len, cap, m, fu2, D, Pl, hcs, _, hl, hm', hmm, _, hi⟩
  · simp [Value.cells] at hcs
    obtain ⟨rfl, rfl, rfl⟩ := hcs
    exact ⟨Option.none, 0, 0, rfl, Nat.le_refl _, by simp [maxLen], RdAv.nil _ _⟩
  · simp [Value.cells] at hcs
    obtain ⟨rfl, rfl, rfl⟩ := hcs
    simp only [if_true] at hmm
    subst hmm
    rw [hC] at hi
    have hP : ∀ i, i < len0 → ∃ a : AV, (∀ k, k < 6 → W.cell? ((x.add (i * 6)).add k) = (avCells a)[k]?) ∧ AvOk W a := by
      intro i hin
      obtain ⟨cs', hc, ht⟩ := hi i (by omega)
      obtain ⟨m, hh⟩ := one_parts Try.underlying39 (by kernel_rfl) ht
      obtain ⟨hlen, hcl, hat⟩ := World.cells?_some hc
      match cs', hlen with
      | [c0, c1, c2, c3, c4, c5], _ =>
        obtain ⟨_, h0⟩ : ∃ y, DataW.trod enc Try.prog W 0 (fun _ => true) true m 3 [c0] = some y := hh 0 _ _ rfl rfl
        obtain ⟨x0, e0, -, w0⟩ := DataW.trod_int Try.underlying3 h0
        simp at e0
        subst e0
        have b0 := bounds_i64 w0
        obtain ⟨_, h1⟩ : ∃ y, DataW.trod enc Try.prog W 0 (fun _ => true) true m 37 [c1] = some y := hh 1 _ _ rfl rfl
        obtain ⟨AD, nD, cD, l, rfl, hd⟩ := c_part h1
        obtain ⟨_, h2⟩ : ∃ y, DataW.trod enc Try.prog W 0 (fun _ => true) true m 3 [c2] = some y := hh 2 _ _ rfl rfl
        obtain ⟨x2, e2, -, w2⟩ := DataW.trod_int Try.underlying3 h2
        simp at e2
        subst e2
        have b2 := bounds_i64 w2
        obtain ⟨_, h3⟩ : ∃ y, DataW.trod enc Try.prog W 0 (fun _ => true) true m 22 [c3] = some y := hh 3 _ _ rfl rfl
        obtain ⟨x3, e3, -, w3⟩ := DataW.trod_int Try.underlying22 h3
        simp at e3
        subst e3
        have b3 := bounds_u32 w3
        obtain ⟨_, h4⟩ : ∃ y, DataW.trod enc Try.prog W 0 (fun _ => true) true m 22 [c4] = some y := hh 4 _ _ rfl rfl
        obtain ⟨x4, e4, -, w4⟩ := DataW.trod_int Try.underlying22 h4
        simp at e4
        subst e4
        have b4 := bounds_u32 w4
        obtain ⟨_, h5⟩ : ∃ y, DataW.trod enc Try.prog W 0 (fun _ => true) true m 23 [c5] = some y := hh 5 _ _ rfl rfl
        obtain ⟨x5, e5, -, w5⟩ := DataW.trod_int Try.underlying23 h5
        simp at e5
        subst e5
        have b5 := bounds_u64 w5
        refine ⟨⟨x0, AD, nD, cD, l, x2, x3, x4, x5⟩, fun k hk => ?_, ⟨by simp only; omega, by simp only; omega, by simp only; omega, by simp only; omega, by simp only; omega, hd⟩⟩
        have k0 := hat k (by omega)
        rw [k0]
        rfl
    refine ⟨some x, len0, _, rfl, hl, hm', ⟨fun hn => ?_⟩⟩
    obtain ⟨b, off, spot⟩ := x
    obtain ⟨a, q0, _⟩ := hP 0 hn
    have q0 := q0 0 (by omega)
    have hspot : spot = Option.none := by
      have := q0
      simp [Addr.add, avCells] at this
      exact World.cell?_spot this
    subst hspot
    refine ⟨b, off, rfl, World.block_lt_of_cell? (w := W) (a := ⟨b, off, Option.none⟩) (by simpa [Addr.add, avCells] using q0), fun i hin => ?_⟩
    obtain ⟨a, h0, hh⟩ := hP i hin
    refine ⟨a, fun k hk => ?_, hh⟩
    have := h0 k hk
    rw [addr_addW, addr_addW] at this
    exact this
theorem bools_open (hv : Value.okWide Try.prog W .any base 75 v) (h : DataW.Trod enc Try.prog W 0 (fun _ => true) true 75 v d p) : BoolsIn W v := by
  obtain ⟨a0, len0, cap0, rfl⟩ := okWide_slice Try.underlying75 hv
  obtain ⟨fu, hm⟩ := h
  have hC : Try.prog.cellsOf 4 = 1 := by kernel_rfl
  rcases open_slice Try.underlying75 hm with ⟨hcs, _⟩ | ⟨x, len, cap, m, fu2, D, Pl, hcs, _, hl, hm', hmm, _, hi⟩
  · simp [Value.cells] at hcs
    obtain ⟨rfl, rfl, rfl⟩ := hcs
    exact ⟨Option.none, 0, 0, fun _ => false, rfl, Nat.le_refl _, by simp [maxLen], RdBo.nil _ _ _⟩
  · simp [Value.cells] at hcs
    obtain ⟨rfl, rfl, rfl⟩ := hcs
    simp only [if_true] at hmm
    subst hmm
    rw [hC] at hi
    have hP : ∀ i, i < len0 → ∃ b : Bool, W.cell? (x.add i) = some (.bool b) := by
      intro i hin
      obtain ⟨cs', hc, ht⟩ := hi i (by omega)
      obtain ⟨hlen, hcl, hat⟩ := World.cells?_some hc
      match cs', hlen with
      | [c0], _ =>
        obtain ⟨x0, e0, -⟩ := DataW.trod_bool Try.underlying4 ht
        simp at e0
        subst e0
        have k0 := hat 0 (by omega)
        refine ⟨x0, ?_⟩
        simpa [Addr.add] using k0
    obtain ⟨b, off, spot⟩ := x
    rcases Nat.eq_zero_or_pos len0 with h0 | h0
    · subst h0
      exact ⟨_, 0, _, fun _ => false, rfl, hl, hm', RdBo.nil _ _ _⟩
    · obtain ⟨_, q0⟩ := hP 0 h0
      have hspot : spot = Option.none := by
        have := q0
        simp [Addr.add] at this
        exact World.cell?_spot this
      subst hspot
      refine ⟨_, len0, _, fun i => if h : i < len0 then Classical.choose (hP i h) else false, rfl, hl, hm', ⟨fun _ => ⟨b, off, rfl, World.block_lt_of_cell? (w := W) (a := ⟨b, off, Option.none⟩) (by simpa [Addr.add] using q0), fun i hin => ?_⟩⟩⟩
      have h1 := Classical.choose_spec (hP i hin)
      have h2 := addr_addW b off i
      refine (congrArg W.cell? h2.symm).trans (h1.trans ?_)
      rw [dif_pos hin]
end
end Go.Proofs.Ytncbkgcblmohoaa
