/-
  A row of calls on a buffer that comes into a law, opened: two numbers and bytes each.
-/
import Derived.Test.YtmmnicnebammhaaRmOpen
namespace Go.Proofs.Ytmmnicnebammhaa
set_option maxRecDepth 10000
open Go.Joins Go.ChangeShapes Go.WideShapes Go.ChangeAt Go.RowKit Go.Deep
set_option linter.unusedSimpArgs false
set_option linter.unusedVariables false

/-- A slice of calls: each has a kind, a number and bytes of its own (which may lie anywhere in the world). -/
structure RdOs (w : World) (A : Option Addr) (n : Nat) : Prop where
  at_ : 0 < n → ∃ b o, A = some ⟨b, o, none⟩ ∧ b < w.heap.size ∧ ∀ i, i < n → ∃ (wh at_ : Int) (AD : Option Addr) (nD cD : Nat) (l : List Int), (w.cell? ⟨b, o + i * 3, none⟩ = some (.int .i64 wh) ∧ w.cell? ⟨b, o + i * 3 + 1, none⟩ = some (.int .i32 at_) ∧ w.cell? ⟨b, o + i * 3 + 2, none⟩ = some (.slice AD nD cD)) ∧ (-9223372036854775808 ≤ wh ∧ wh < 9223372036854775808) ∧ (-2147483648 ≤ at_ ∧ at_ < 2147483648) ∧ RdC w AD nD cD l
theorem RdOs.nil (w : World) (A : Option Addr) : RdOs w A 0 := ⟨fun h => absurd h (by omega)⟩
theorem RdOs.below {w w' : World} {A : Option Addr} {n : Nat} (h : RdOs w A n) (hb : Below w.heap.size w w') : RdOs w' A n :=
  ⟨fun hn => by
    obtain ⟨b, o, e, hlt, hc⟩ := h.at_ hn
    have hB : But (fun _ => False) w w' := But.of hb
    refine ⟨b, o, e, hB.lt hlt, fun i hi => ?_⟩
    obtain ⟨wh, at_, AD, nD, cD, l, ⟨h0, h1, h2⟩, hh, hh2, hd⟩ := hc i hi
    exact ⟨wh, at_, AD, nD, cD, l, ⟨by rw [hB.cell (p := ⟨b, _, none⟩) hlt (fun f => f)]; exact h0, by rw [hB.cell (p := ⟨b, _, none⟩) hlt (fun f => f)]; exact h1, by rw [hB.cell (p := ⟨b, _, none⟩) hlt (fun f => f)]; exact h2⟩, hh, hh2, hd.below hb⟩⟩
theorem RdOs.index {w : World} {A : Option Addr} {n c : Nat} (h : RdOs w A n) {j : Nat} (hj : j < n) :
    ∃ (b p : Nat) (wh at_ : Int) (AD : Option Addr) (nD cD : Nat) (l : List Int), (∀ W : World, (Instr.indexAt 23 (.slice A n c) (.int .i64 (j : Int))).run Try.prog W = .ok (.pointer (some ⟨b, p, none⟩)) W) ∧ b < w.heap.size ∧
      w.cell? ⟨b, p, none⟩ = some (.int .i64 wh) ∧ w.cell? ⟨b, p + 1, none⟩ = some (.int .i32 at_) ∧ w.cell? ⟨b, p + 2, none⟩ = some (.slice AD nD cD) ∧ (-9223372036854775808 ≤ wh ∧ wh < 9223372036854775808) ∧ (-2147483648 ≤ at_ ∧ at_ < 2147483648) ∧ RdC w AD nD cD l := by
  obtain ⟨b, o, rfl, hb, hc⟩ := h.at_ (by omega)
  obtain ⟨wh, at_, AD, nD, cD, l, ⟨h0, h1, h2⟩, hp, hq, hd⟩ := hc j hj
  have k0 : (0 : Int) ≤ (j : Int) := by omega
  have k1 : (j : Int) < (n : Int) := by omega
  exact ⟨b, o + j * 3, wh, at_, AD, nD, cD, l, fun W => by go_simp, hb, h0, h1, h2, hp, hq, hd⟩
def OpsIn (w : World) (v : Value) : Prop := ∃ (A : Option Addr) (n c : Nat), v = .slice A n c ∧ n ≤ c ∧ c ≤ maxLen ∧ RdOs w A n
section
variable {H : Type} {enc : TypeId × Value → H} {W : World} {base : Nat} {v : Value} {d : DataW H} {p : List MemPlace}
/-- A field of bytes. -/
theorem c_part {m : Nat} {y : DataW H × List MemPlace} (hm : DataW.trod enc Try.prog W 0 (fun _ => true) true m 32 [v] = some y) : ∃ A n c l, v = .slice A n c ∧ RdC W A n c l := by
  rcases open_ints Try.underlying32 Try.underlying5 (by kernel_rfl) hm with ⟨hcs, _⟩ | ⟨x, len, cap, zs, hcs, _, hl, hm', hzl, hx, hcell, hwz⟩
  · simp at hcs
    subst hcs
    exact ⟨none, 0, 0, [], rfl, Rd.nil _ _, Nat.le_refl _, by simp [maxLen], fun _ => rfl⟩
  · simp at hcs
    subst hcs
    simp only [if_true] at hzl
    refine ⟨some x, _, _, zs.take len, rfl, ⟨by rw [List.length_take]; omega, fun z hz' => ?_, fun h0 => ?_⟩, hl, hm', fun e => by cases e⟩
    · have := bounds_u8 (hwz z (List.mem_of_mem_take hz'))
      omega
    · obtain ⟨b, o, rfl, hc⟩ := ints_at hcell (by omega)
      refine ⟨b, o, rfl, World.block_lt_of_cell? W _ (hc 0 (by omega)), fun i hi => ?_⟩
      rw [hc i (by omega)]
      simp [List.getD, List.getElem?_take_of_lt hi]
theorem ros_open (hv : Value.okWide Try.prog W .any base 23 v) (h : DataW.Trod enc Try.prog W 0 (fun _ => true) true 23 v d p) : OpsIn W v := by
  obtain ⟨a0, len0, cap0, rfl⟩ := okWide_slice Try.underlying23 hv
  obtain ⟨fu, hm⟩ := h
  have hC : Try.prog.cellsOf 34 = 3 := by kernel_rfl
  rcases open_slice Try.underlying23 hm with ⟨hcs, _⟩ | ⟨x, len, cap, m, fu2, D, Pl, hcs, _, hl, hm', hmm, _, hi⟩
  · simp [Value.cells] at hcs
    obtain ⟨rfl, rfl, rfl⟩ := hcs
    exact ⟨Option.none, 0, 0, rfl, Nat.le_refl _, by simp [maxLen], RdOs.nil _ _⟩
  · simp [Value.cells] at hcs
    obtain ⟨rfl, rfl, rfl⟩ := hcs
    simp only [if_true] at hmm
    subst hmm
    rw [hC] at hi
    have hP : ∀ i, i < len0 → ∃ (wh at_ : Int) (AD : Option Addr) (nD cD : Nat) (l : List Int), (W.cell? (x.add (i * 3)) = some (.int .i64 wh) ∧ W.cell? ((x.add (i * 3)).add 1) = some (.int .i32 at_) ∧ W.cell? ((x.add (i * 3)).add 2) = some (.slice AD nD cD)) ∧ (-9223372036854775808 ≤ wh ∧ wh < 9223372036854775808) ∧ (-2147483648 ≤ at_ ∧ at_ < 2147483648) ∧ RdC W AD nD cD l := by
      intro i hin
      obtain ⟨cs', hc, ht⟩ := hi i (by omega)
      obtain ⟨m, hh⟩ := one_parts Try.underlying34 (by kernel_rfl) ht
      obtain ⟨hlen, hcl, hat⟩ := World.cells?_some hc
      match cs', hlen with
      | [c0, c1, c2], _ =>
        obtain ⟨_, h0⟩ : ∃ y, DataW.trod enc Try.prog W 0 (fun _ => true) true m 3 [c0] = some y := hh 0 _ _ rfl rfl
        obtain ⟨x0, e0, -, w0⟩ := DataW.trod_int Try.underlying3 h0
        simp at e0
        subst e0
        have b0 := bounds_i64 w0
        obtain ⟨_, h1⟩ : ∃ y, DataW.trod enc Try.prog W 0 (fun _ => true) true m 21 [c1] = some y := hh 1 _ _ rfl rfl
        obtain ⟨x1, e1, -, w1⟩ := DataW.trod_int Try.underlying21 h1
        simp at e1
        subst e1
        have b1 := bounds_i32 w1
        obtain ⟨_, h2⟩ : ∃ y, DataW.trod enc Try.prog W 0 (fun _ => true) true m 32 [c2] = some y := hh 2 _ _ rfl rfl
        obtain ⟨AD, nD, cD, l, rfl, hd⟩ := c_part h2
        have k0 := hat 0 (by omega)
        have k1 := hat 1 (by omega)
        have k2 := hat 2 (by omega)
        simp at k0 k1 k2
        exact ⟨x0, x1, AD, nD, cD, l, ⟨by simpa [Addr.add] using k0, k1, k2⟩, by omega, by omega, hd⟩
    refine ⟨some x, len0, _, rfl, hl, hm', ⟨fun hn => ?_⟩⟩
    obtain ⟨b, off, spot⟩ := x
    obtain ⟨_, _, _, _, _, _, ⟨q0, _, _⟩, _⟩ := hP 0 hn
    have hspot : spot = Option.none := by simpa [Addr.add] using World.cell?_spot q0
    subst hspot
    refine ⟨b, off, rfl, World.block_lt_of_cell? (w := W) (a := ⟨b, off, Option.none⟩) (by simpa [Addr.add] using q0), fun i hin => ?_⟩
    obtain ⟨wh, at_, AD, nD, cD, l, ⟨h0, h1, h2⟩, hh⟩ := hP i hin
    rw [addr_addW] at h0 h1 h2
    rw [addr_addW] at h1 h2
    exact ⟨wh, at_, AD, nD, cD, l, ⟨h0, h1, h2⟩, hh⟩
end
end Go.Proofs.Ytmmnicnebammhaa
