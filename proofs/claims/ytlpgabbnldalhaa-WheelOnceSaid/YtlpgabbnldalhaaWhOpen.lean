/-
  What comes into the laws of wheel, opened: a row of calls; rows of numbers.
-/
import Derived.Test.YtlpgabbnldalhaaWh
import Derived.Test.YtlpgabbnldalhaaFields
import Derived.Deep.Slices
import Derived.ChangeSame
namespace Go.Proofs.Ytlpgabbnldalhaa
set_option maxRecDepth 10000
open Go.Joins Go.ChangeShapes Go.WideShapes Go.ChangeAt Go.RowKit Go.Deep
set_option linter.unusedSimpArgs false
set_option linter.unusedVariables false

theorem bounds_u64W {x : Int} (h : (Lit.int .u64 x).wf = true) : 0 ≤ x ∧ x < 18446744073709551616 := by
  have := bounds_u64 h
  omega
theorem addr_addW (b o k : Nat) : (⟨b, o, none⟩ : Addr).add k = ⟨b, o + k, none⟩ := by
  unfold Addr.add
  split <;> simp_all
/-- A slice of numbers of kind k, read alone: their list l. -/
structure RdN (w : World) (k : IntKind) (A : Option Addr) (l : List Int) : Prop where
  at_ : 0 < l.length → ∃ b o, A = some ⟨b, o, none⟩ ∧ b < w.heap.size ∧ ∀ i, i < l.length → w.cell? ⟨b, o + i, none⟩ = some (.int k (l.getD i 0))
theorem RdN.off {S : Nat → Prop} {w w' : World} {k : IntKind} {A : Option Addr} {l : List Int} (h : RdN w k A l) (hb : But S w w') (hS : ∀ k, S k → w.heap.size ≤ k) : RdN w' k A l :=
  ⟨fun hn => by
    obtain ⟨b, o, e, hlt, hc⟩ := h.at_ hn
    have hns : ¬ S b := fun hs => by have := hS b hs; omega
    exact ⟨b, o, e, hb.lt hlt, fun i hi => by rw [hb.cell (p := ⟨b, _, none⟩) hlt hns]; exact hc i hi⟩⟩
theorem RdN.below {w w' : World} {k : IntKind} {A : Option Addr} {l : List Int} (h : RdN w k A l) (hb : Below w.heap.size w w') : RdN w' k A l :=
  h.off (But.of (S := fun _ => False) hb) (fun _ hs => hs.elim)
theorem RdN.take {w : World} {k : IntKind} {A : Option Addr} {l : List Int} (h : RdN w k A l) (m : Nat) : RdN w k A (l.take m) :=
  ⟨fun hn => by
    rw [List.length_take] at hn
    obtain ⟨b, o, e, hlt, hc⟩ := h.at_ (by omega)
    refine ⟨b, o, e, hlt, fun i hi => ?_⟩
    rw [List.length_take] at hi
    rw [hc i (by omega)]
    simp [List.getD, List.getElem?_take_of_lt (show i < m by omega)]⟩
def NumsAt (w : World) (k : IntKind) (lo hi : Int) (v : Value) (l : List Int) : Prop := ∃ (A : Option Addr) (c : Nat), v = .slice A l.length c ∧ l.length ≤ c ∧ c ≤ maxLen ∧ RdN w k A l ∧ ∀ x ∈ l, lo ≤ x ∧ x < hi
theorem RdN.index_u64 {w : World} {A : Option Addr} {n c : Nat} {l : List Int} (h : RdN w .u64 A l) (hn : l.length = n) {j : Nat} (hj : j < n) :
    ∃ b p : Nat, (∀ W : World, (Instr.indexAt 37 (.slice A n c) (.int .i64 (j : Int))).run Try.prog W = .ok (.pointer (some ⟨b, p, none⟩)) W) ∧ b < w.heap.size ∧ w.cell? ⟨b, p, none⟩ = some (.int .u64 (l.getD j 0)) := by
  obtain ⟨b, o, rfl, hb, hc⟩ := h.at_ (by omega)
  have k0 : (0 : Int) ≤ (j : Int) := by omega
  have k1 : (j : Int) < (n : Int) := by omega
  exact ⟨b, o + j, fun W => by go_simp, hb, hc j (by omega)⟩
theorem RdN.index_u16 {w : World} {A : Option Addr} {n c : Nat} {l : List Int} (h : RdN w .u16 A l) (hn : l.length = n) {j : Nat} (hj : j < n) :
    ∃ b p : Nat, (∀ W : World, (Instr.indexAt 50 (.slice A n c) (.int .i64 (j : Int))).run Try.prog W = .ok (.pointer (some ⟨b, p, none⟩)) W) ∧ b < w.heap.size ∧ w.cell? ⟨b, p, none⟩ = some (.int .u16 (l.getD j 0)) := by
  obtain ⟨b, o, rfl, hb, hc⟩ := h.at_ (by omega)
  have k0 : (0 : Int) ≤ (j : Int) := by omega
  have k1 : (j : Int) < (n : Int) := by omega
  exact ⟨b, o + j, fun W => by go_simp, hb, hc j (by omega)⟩
/-- A slice of calls. -/
structure RdOp (w : World) (A : Option Addr) (n : Nat) : Prop where
  at_ : 0 < n → ∃ b o, A = some ⟨b, o, none⟩ ∧ b < w.heap.size ∧ ∀ i, i < n → ∃ kd id at_ : Int, (w.cell? ⟨b, o + i * 3, none⟩ = some (.int .i64 kd) ∧ w.cell? ⟨b, o + i * 3 + 1, none⟩ = some (.int .u64 id) ∧ w.cell? ⟨b, o + i * 3 + 2, none⟩ = some (.int .u64 at_)) ∧ (0 ≤ id ∧ id < 18446744073709551616) ∧ (0 ≤ at_ ∧ at_ < 18446744073709551616)
theorem RdOp.nil (w : World) (A : Option Addr) : RdOp w A 0 := ⟨fun h => absurd h (by omega)⟩
theorem RdOp.off {S : Nat → Prop} {w w' : World} {A : Option Addr} {n : Nat} (h : RdOp w A n) (hb : But S w w') (hS : ∀ k, S k → w.heap.size ≤ k) : RdOp w' A n :=
  ⟨fun hn => by
    obtain ⟨b, o, e, hlt, hc⟩ := h.at_ hn
    refine ⟨b, o, e, hb.lt hlt, fun i hi => ?_⟩
    obtain ⟨kd, id, at_, ⟨h0, h1, h2⟩, hh⟩ := hc i hi
    have hns : ¬ S b := fun hs => by have := hS b hs; omega
    exact ⟨kd, id, at_, ⟨by rw [hb.cell (p := ⟨b, _, none⟩) hlt hns]; exact h0, by rw [hb.cell (p := ⟨b, _, none⟩) hlt hns]; exact h1, by rw [hb.cell (p := ⟨b, _, none⟩) hlt hns]; exact h2⟩, hh⟩⟩
theorem RdOp.below {w w' : World} {A : Option Addr} {n : Nat} (h : RdOp w A n) (hb : Below w.heap.size w w') : RdOp w' A n :=
  h.off (But.of (S := fun _ => False) hb) (fun _ hs => hs.elim)
theorem RdOp.index {w : World} {A : Option Addr} {n c : Nat} (h : RdOp w A n) {j : Nat} (hj : j < n) :
    ∃ (b p : Nat) (kd id at_ : Int), (∀ W : World, (Instr.indexAt 22 (.slice A n c) (.int .i64 (j : Int))).run Try.prog W = .ok (.pointer (some ⟨b, p, none⟩)) W) ∧ b < w.heap.size ∧
      w.cell? ⟨b, p, none⟩ = some (.int .i64 kd) ∧ w.cell? ⟨b, p + 1, none⟩ = some (.int .u64 id) ∧ w.cell? ⟨b, p + 2, none⟩ = some (.int .u64 at_) ∧ (0 ≤ id ∧ id < 18446744073709551616) ∧ (0 ≤ at_ ∧ at_ < 18446744073709551616) := by
  obtain ⟨b, o, rfl, hb, hc⟩ := h.at_ (by omega)
  obtain ⟨kd, id, at_, ⟨h0, h1, h2⟩, hp, ht⟩ := hc j hj
  have k0 : (0 : Int) ≤ (j : Int) := by omega
  have k1 : (j : Int) < (n : Int) := by omega
  exact ⟨b, o + j * 3, kd, id, at_, fun W => by go_simp, hb, h0, h1, h2, hp, ht⟩
def OpsAt (w : World) (v : Value) : Prop := ∃ (A : Option Addr) (n c : Nat), v = .slice A n c ∧ n ≤ c ∧ c ≤ maxLen ∧ RdOp w A n
section
variable {H : Type} {enc : TypeId × Value → H} {W : World} {base : Nat} {v : Value} {d : DataW H} {p : List MemPlace}
theorem ops_open (hv : Value.okWide Try.prog W .any base 22 v) (h : DataW.Trod enc Try.prog W 0 (fun _ => true) true 22 v d p) : OpsAt W v := by
  obtain ⟨a0, len0, cap0, rfl⟩ := okWide_slice Try.underlying22 hv
  obtain ⟨fu, hm⟩ := h
  have hC : Try.prog.cellsOf 31 = 3 := by kernel_rfl
  rcases open_slice Try.underlying22 hm with ⟨hcs, _⟩ | ⟨x, len, cap, m, fu2, D, Pl, hcs, _, hl, hm', hmm, _, hi⟩
  · simp [Value.cells] at hcs
    obtain ⟨rfl, rfl, rfl⟩ := hcs
    exact ⟨Option.none, 0, 0, rfl, Nat.le_refl _, by simp [maxLen], RdOp.nil _ _⟩
  · simp [Value.cells] at hcs
    obtain ⟨rfl, rfl, rfl⟩ := hcs
    simp only [if_true] at hmm
    subst hmm
    rw [hC] at hi
    have hP : ∀ i, i < len0 → ∃ kd id at_ : Int, (W.cell? (x.add (i * 3)) = some (.int .i64 kd) ∧ W.cell? ((x.add (i * 3)).add 1) = some (.int .u64 id) ∧ W.cell? ((x.add (i * 3)).add 2) = some (.int .u64 at_)) ∧ (0 ≤ id ∧ id < 18446744073709551616) ∧ (0 ≤ at_ ∧ at_ < 18446744073709551616) := by
      intro i hin
      obtain ⟨cs', hc, ht⟩ := hi i (by omega)
      obtain ⟨m, hh⟩ := one_parts Try.underlying31 (by kernel_rfl) ht
      obtain ⟨hlen, hcl, hat⟩ := World.cells?_some hc
      match cs', hlen with
      | [c0, c1, c2], _ =>
        obtain ⟨_, h0⟩ : ∃ y, DataW.trod enc Try.prog W 0 (fun _ => true) true m 3 [c0] = some y := hh 0 _ _ rfl rfl
        obtain ⟨x0, e0, -, w0⟩ := DataW.trod_int Try.underlying3 h0
        simp at e0
        subst e0
        have b0 := bounds_i64 w0
        obtain ⟨_, h1⟩ : ∃ y, DataW.trod enc Try.prog W 0 (fun _ => true) true m 23 [c1] = some y := hh 1 _ _ rfl rfl
        obtain ⟨x1, e1, -, w1⟩ := DataW.trod_int Try.underlying23 h1
        simp at e1
        subst e1
        have b1 := bounds_u64W w1
        obtain ⟨_, h2⟩ : ∃ y, DataW.trod enc Try.prog W 0 (fun _ => true) true m 23 [c2] = some y := hh 2 _ _ rfl rfl
        obtain ⟨x2, e2, -, w2⟩ := DataW.trod_int Try.underlying23 h2
        simp at e2
        subst e2
        have b2 := bounds_u64W w2
        have k0 := hat 0 (by omega)
        have k1 := hat 1 (by omega)
        have k2 := hat 2 (by omega)
        simp at k0 k1 k2
        exact ⟨x0, x1, x2, ⟨by simpa [Addr.add] using k0, k1, k2⟩, by omega, by omega⟩
    refine ⟨some x, len0, _, rfl, hl, hm', ⟨fun hn => ?_⟩⟩
    obtain ⟨b, off, spot⟩ := x
    obtain ⟨_, _, _, ⟨q0, _, _⟩, _⟩ := hP 0 hn
    have hspot : spot = Option.none := by simpa [Addr.add] using World.cell?_spot q0
    subst hspot
    refine ⟨b, off, rfl, World.block_lt_of_cell? (w := W) (a := ⟨b, off, Option.none⟩) (by simpa [Addr.add] using q0), fun i hin => ?_⟩
    obtain ⟨kd, id, at_, ⟨h0, h1, h2⟩, hh⟩ := hP i hin
    rw [addr_addW] at h0 h1 h2
    rw [addr_addW] at h1 h2
    exact ⟨kd, id, at_, ⟨h0, h1, h2⟩, hh⟩
theorem nums_open_u64 (hv : Value.okWide Try.prog W .any base 37 v) (h : DataW.Trod enc Try.prog W 0 (fun _ => true) true 37 v d p) : ∃ l, NumsAt W .u64 0 18446744073709551616 v l := by
  obtain ⟨a0, len0, cap0, rfl⟩ := okWide_slice Try.underlying37 hv
  obtain ⟨fu, hm⟩ := h
  have hC : Try.prog.cellsOf 23 = 1 := by kernel_rfl
  rcases open_slice Try.underlying37 hm with ⟨hcs, _⟩ | ⟨x, len, cap, m, fu2, D, Pl, hcs, _, hl, hm', hmm, _, hi⟩
  · simp [Value.cells] at hcs
    obtain ⟨rfl, rfl, rfl⟩ := hcs
    exact ⟨[], Option.none, 0, rfl, Nat.le_refl _, by simp [maxLen], ⟨fun h => by simp at h⟩, fun x hx => by cases hx⟩
  · simp [Value.cells] at hcs
    obtain ⟨rfl, rfl, rfl⟩ := hcs
    simp only [if_true] at hmm
    subst hmm
    rw [hC] at hi
    have hP : ∀ i, i < len0 → ∃ y : Int, W.cell? (x.add i) = some (.int .u64 y) ∧ 0 ≤ y ∧ y < 18446744073709551616 := by
      intro i hin
      obtain ⟨cs', hc, ht⟩ := hi i (by omega)
      rw [Nat.mul_one] at hc
      obtain ⟨hlen, hcl, hat⟩ := World.cells?_some hc
      match cs', hlen with
      | [c0], _ =>
        obtain ⟨x0, e0, -, w0⟩ := DataW.trod_int Try.underlying23 ht
        simp at e0
        subst e0
        have b0 := bounds_u64W w0
        have k0 := hat 0 (by omega)
        simp at k0
        exact ⟨x0, by simpa [Addr.add] using k0, by omega, by omega⟩
    have hex : ∃ f : Nat → Int, ∀ i, i < len0 → W.cell? (x.add i) = some (.int .u64 (f i)) ∧ 0 ≤ f i ∧ f i < 18446744073709551616 :=
      ⟨fun i => if hin : i < len0 then (hP i hin).choose else 0, fun i hin => by
        have := (hP i hin).choose_spec
        simpa only [dif_pos hin] using this⟩
    obtain ⟨f, hf⟩ := hex
    have hll : ((List.range len0).map f).length = len0 := by simp
    refine ⟨(List.range len0).map f, some x, _, by rw [hll], by rw [hll]; exact hl, hm', ⟨fun hn => ?_⟩, fun y hy => ?_⟩
    · rw [hll] at hn
      obtain ⟨b, off, spot⟩ := x
      have q0 := (hf 0 hn).1
      have hspot : spot = Option.none := by simpa [Addr.add] using World.cell?_spot q0
      subst hspot
      refine ⟨b, off, rfl, World.block_lt_of_cell? (w := W) (a := ⟨b, off, Option.none⟩) (by simpa [Addr.add] using q0), fun i hin => ?_⟩
      rw [hll] at hin
      have := (hf i hin).1
      rw [addr_addW] at this
      rw [this]
      simp [List.getD, hin]
    · obtain ⟨i, hi1, rfl⟩ := List.mem_map.1 hy
      exact (hf i (List.mem_range.1 hi1)).2
theorem nums_open_u16 (hv : Value.okWide Try.prog W .any base 50 v) (h : DataW.Trod enc Try.prog W 0 (fun _ => true) true 50 v d p) : ∃ l, NumsAt W .u16 0 65536 v l := by
  obtain ⟨a0, len0, cap0, rfl⟩ := okWide_slice Try.underlying50 hv
  obtain ⟨fu, hm⟩ := h
  have hC : Try.prog.cellsOf 53 = 1 := by kernel_rfl
  rcases open_slice Try.underlying50 hm with ⟨hcs, _⟩ | ⟨x, len, cap, m, fu2, D, Pl, hcs, _, hl, hm', hmm, _, hi⟩
  · simp [Value.cells] at hcs
    obtain ⟨rfl, rfl, rfl⟩ := hcs
    exact ⟨[], Option.none, 0, rfl, Nat.le_refl _, by simp [maxLen], ⟨fun h => by simp at h⟩, fun x hx => by cases hx⟩
  · simp [Value.cells] at hcs
    obtain ⟨rfl, rfl, rfl⟩ := hcs
    simp only [if_true] at hmm
    subst hmm
    rw [hC] at hi
    have hP : ∀ i, i < len0 → ∃ y : Int, W.cell? (x.add i) = some (.int .u16 y) ∧ 0 ≤ y ∧ y < 65536 := by
      intro i hin
      obtain ⟨cs', hc, ht⟩ := hi i (by omega)
      rw [Nat.mul_one] at hc
      obtain ⟨hlen, hcl, hat⟩ := World.cells?_some hc
      match cs', hlen with
      | [c0], _ =>
        obtain ⟨x0, e0, -, w0⟩ := DataW.trod_int Try.underlying53 ht
        simp at e0
        subst e0
        have b0 := bounds_u16 w0
        have k0 := hat 0 (by omega)
        simp at k0
        exact ⟨x0, by simpa [Addr.add] using k0, by omega, by omega⟩
    have hex : ∃ f : Nat → Int, ∀ i, i < len0 → W.cell? (x.add i) = some (.int .u16 (f i)) ∧ 0 ≤ f i ∧ f i < 65536 :=
      ⟨fun i => if hin : i < len0 then (hP i hin).choose else 0, fun i hin => by
        have := (hP i hin).choose_spec
        simpa only [dif_pos hin] using this⟩
    obtain ⟨f, hf⟩ := hex
    have hll : ((List.range len0).map f).length = len0 := by simp
    refine ⟨(List.range len0).map f, some x, _, by rw [hll], by rw [hll]; exact hl, hm', ⟨fun hn => ?_⟩, fun y hy => ?_⟩
    · rw [hll] at hn
      obtain ⟨b, off, spot⟩ := x
      have q0 := (hf 0 hn).1
      have hspot : spot = Option.none := by simpa [Addr.add] using World.cell?_spot q0
      subst hspot
      refine ⟨b, off, rfl, World.block_lt_of_cell? (w := W) (a := ⟨b, off, Option.none⟩) (by simpa [Addr.add] using q0), fun i hin => ?_⟩
      rw [hll] at hin
      have := (hf i hin).1
      rw [addr_addW] at this
      rw [this]
      simp [List.getD, hin]
    · obtain ⟨i, hi1, rfl⟩ := List.mem_map.1 hy
      exact (hf i (List.mem_range.1 hi1)).2
end
end Go.Proofs.Ytlpgabbnldalhaa
