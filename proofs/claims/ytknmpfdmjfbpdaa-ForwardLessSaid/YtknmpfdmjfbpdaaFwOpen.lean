/-
  What comes into the laws of forward, opened: a configuration, a list of forwards.
-/
import Derived.Test.YtknmpfdmjfbpdaaFwIn
import Derived.Test.YtknmpfdmjfbpdaaFields
import Derived.Deep.Slices
import Derived.ChangeSame
namespace Go.Proofs.Ytknmpfdmjfbpdaa
set_option maxRecDepth 10000
open Go.Joins Go.ChangeShapes Go.WideShapes Go.ChangeAt Go.RowKit Go.Deep
set_option linter.unusedSimpArgs false
set_option linter.unusedVariables false

theorem addr_addW (b o k : Nat) : (⟨b, o, none⟩ : Addr).add k = ⟨b, o + k, none⟩ := by
  unfold Addr.add
  split <;> simp_all
def CfgAt (_w : World) (v : Value) : Prop := ∃ k : Cfg, v = .agg #[.int .u32 k.ins, .int .u32 k.msk, k.v2, .int .u16 k.lo, .int .u16 k.hi, k.v5, k.v6, k.v7, k.v8, k.v9, k.va, k.vb, k.vc, k.vd, k.ve, k.vf, k.vg, k.vh, k.vi]
def FwsAt (w : World) (v : Value) : Prop := ∃ (A : Option Addr) (n c : Nat) (L : FWL), v = .slice A n c ∧ n ≤ c ∧ c ≤ maxLen ∧ L.length = n ∧ RdW w A L ∧ (A = none → c = 0)
def TuAt (_w : World) (v : Value) : Prop := ∃ t : Tu, v = .agg #[.int .u8 t.pr, .int .u32 t.sr, .int .u32 t.ds, .int .u16 t.sp, .int .u16 t.dp]
section
variable {H : Type} {enc : TypeId × Value → H} {W : World} {base : Nat} {v : Value} {d : DataW H} {p : List MemPlace}
theorem tu_open (hv : Value.okWide Try.prog W .any base 31 v) (h : DataW.Trod enc Try.prog W 0 (fun _ => true) true 31 v d p) : TuAt W v := by
  obtain ⟨cs, rfl, hsz⟩ := okWide_struct Try.underlying31 hv
  obtain ⟨l⟩ := cs
  have hC : Try.prog.cellsOf 31 = 5 := by kernel_rfl
  match l, hsz.trans hC with
  | [c0, c1, c2, c3, c4], _ =>
    obtain ⟨fuel, hf⟩ := h
    try simp only [Value.cells] at hf
    obtain ⟨m, hh⟩ := one_parts Try.underlying31 (by kernel_rfl) hf
    obtain ⟨_, h0⟩ : ∃ y, DataW.trod enc Try.prog W 0 (fun _ => true) true m 5 [c0] = some y := hh 0 _ _ rfl rfl
    obtain ⟨x0, e0, -, w0⟩ := DataW.trod_int Try.underlying5 h0
    simp at e0
    subst e0
    obtain ⟨_, h1⟩ : ∃ y, DataW.trod enc Try.prog W 0 (fun _ => true) true m 22 [c1] = some y := hh 1 _ _ rfl rfl
    obtain ⟨x1, e1, -, w1⟩ := DataW.trod_int Try.underlying22 h1
    simp at e1
    subst e1
    obtain ⟨_, h2⟩ : ∃ y, DataW.trod enc Try.prog W 0 (fun _ => true) true m 22 [c2] = some y := hh 2 _ _ rfl rfl
    obtain ⟨x2, e2, -, w2⟩ := DataW.trod_int Try.underlying22 h2
    simp at e2
    subst e2
    obtain ⟨_, h3⟩ : ∃ y, DataW.trod enc Try.prog W 0 (fun _ => true) true m 23 [c3] = some y := hh 3 _ _ rfl rfl
    obtain ⟨x3, e3, -, w3⟩ := DataW.trod_int Try.underlying23 h3
    simp at e3
    subst e3
    obtain ⟨_, h4⟩ : ∃ y, DataW.trod enc Try.prog W 0 (fun _ => true) true m 23 [c4] = some y := hh 4 _ _ rfl rfl
    obtain ⟨x4, e4, -, w4⟩ := DataW.trod_int Try.underlying23 h4
    simp at e4
    subst e4
    exact ⟨⟨x0, x1, x2, x3, x4⟩, rfl⟩
theorem cfg_open (hv : Value.okWide Try.prog W .any base 29 v) (h : DataW.Trod enc Try.prog W 0 (fun _ => true) true 29 v d p) : CfgAt W v := by
  obtain ⟨cs, rfl, hsz⟩ := okWide_struct Try.underlying29 hv
  obtain ⟨l⟩ := cs
  have hC : Try.prog.cellsOf 29 = 19 := by kernel_rfl
  match l, hsz.trans hC with
  | [c0, c1, c2, c3, c4, c5, c6, c7, c8, c9, ca, cb, cc, cd, ce, cf, cg, ch, ci], _ =>
    obtain ⟨fuel, hf⟩ := h
    try simp only [Value.cells] at hf
    obtain ⟨m, hh⟩ := one_parts Try.underlying29 (by kernel_rfl) hf
    obtain ⟨_, h0⟩ : ∃ y, DataW.trod enc Try.prog W 0 (fun _ => true) true m 22 [c0] = some y := hh 0 _ _ rfl rfl
    obtain ⟨x0, e0, -, w0⟩ := DataW.trod_int Try.underlying22 h0
    simp at e0
    subst e0
    obtain ⟨_, h1⟩ : ∃ y, DataW.trod enc Try.prog W 0 (fun _ => true) true m 22 [c1] = some y := hh 1 _ _ rfl rfl
    obtain ⟨x1, e1, -, w1⟩ := DataW.trod_int Try.underlying22 h1
    simp at e1
    subst e1
    obtain ⟨_, h3⟩ : ∃ y, DataW.trod enc Try.prog W 0 (fun _ => true) true m 23 [c3] = some y := hh 3 _ _ rfl rfl
    obtain ⟨x3, e3, -, w3⟩ := DataW.trod_int Try.underlying23 h3
    simp at e3
    subst e3
    obtain ⟨_, h4⟩ : ∃ y, DataW.trod enc Try.prog W 0 (fun _ => true) true m 23 [c4] = some y := hh 4 _ _ rfl rfl
    obtain ⟨x4, e4, -, w4⟩ := DataW.trod_int Try.underlying23 h4
    simp at e4
    subst e4
    exact ⟨⟨x0, x1, x3, x4, c2, c5, c6, c7, c8, c9, ca, cb, cc, cd, ce, cf, cg, ch, ci⟩, rfl⟩
theorem fw_part {fuel : Nat} {c0 c1 c2 c3 : Value} {y : DataW H × List MemPlace} (h : DataW.trod enc Try.prog W 0 (fun _ => true) true fuel 40 [c0, c1, c2, c3] = some y) : ∃ f : Fw, [c0, c1, c2, c3] = fwV f := by
  obtain ⟨m, hh⟩ := one_parts Try.underlying40 (by kernel_rfl) h
  obtain ⟨_, h0⟩ : ∃ y, DataW.trod enc Try.prog W 0 (fun _ => true) true m 5 [c0] = some y := hh 0 _ _ rfl rfl
  obtain ⟨x0, e0, -, w0⟩ := DataW.trod_int Try.underlying5 h0
  simp at e0
  subst e0
  obtain ⟨_, h1⟩ : ∃ y, DataW.trod enc Try.prog W 0 (fun _ => true) true m 23 [c1] = some y := hh 1 _ _ rfl rfl
  obtain ⟨x1, e1, -, w1⟩ := DataW.trod_int Try.underlying23 h1
  simp at e1
  subst e1
  obtain ⟨_, h2⟩ : ∃ y, DataW.trod enc Try.prog W 0 (fun _ => true) true m 22 [c2] = some y := hh 2 _ _ rfl rfl
  obtain ⟨x2, e2, -, w2⟩ := DataW.trod_int Try.underlying22 h2
  simp at e2
  subst e2
  obtain ⟨_, h3⟩ : ∃ y, DataW.trod enc Try.prog W 0 (fun _ => true) true m 23 [c3] = some y := hh 3 _ _ rfl rfl
  obtain ⟨x3, e3, -, w3⟩ := DataW.trod_int Try.underlying23 h3
  simp at e3
  subst e3
  exact ⟨⟨x0, x1, x2, x3⟩, rfl⟩
theorem list_of {n : Nat} {P : Nat → Fw → Prop} (h : ∀ i, i < n → ∃ f, P i f) : ∃ L : FWL, L.length = n ∧ ∀ i, i < n → P i (L.getD i fw0) := by
  induction n with
  | zero => exact ⟨[], rfl, fun i hi => by omega⟩
  | succ n ih =>
    obtain ⟨L, hl, hL⟩ := ih (fun i hi => h i (by omega))
    obtain ⟨f, hf⟩ := h n (by omega)
    refine ⟨L ++ [f], by simp [hl], fun i hi => ?_⟩
    by_cases e : i < n
    · have : (L ++ [f]).getD i fw0 = L.getD i fw0 := by simp only [List.getD]; rw [List.getElem?_append_left (by omega)]
      rw [this]
      exact hL i e
    · obtain rfl : i = n := by omega
      have : (L ++ [f]).getD i fw0 = f := by simp [List.getD, ← hl]
      rw [this]
      exact hf
theorem fws_open (hv : Value.okWide Try.prog W .any base 27 v) (h : DataW.Trod enc Try.prog W 0 (fun _ => true) true 27 v d p) : FwsAt W v := by
  obtain ⟨a0, len0, cap0, rfl⟩ := okWide_slice Try.underlying27 hv
  obtain ⟨fu, hm⟩ := h
  have hC : Try.prog.cellsOf 40 = 4 := by kernel_rfl
  rcases open_slice Try.underlying27 hm with ⟨hcs, _⟩ | ⟨x, len, cap, m, fu2, D, Pl, hcs, _, hl, hm', hmm, _, hi⟩
  · simp [Value.cells] at hcs
    obtain ⟨rfl, rfl, rfl⟩ := hcs
    exact ⟨Option.none, 0, 0, [], rfl, Nat.le_refl _, by simp [maxLen], rfl, RdW.nil _ _, fun _ => rfl⟩
  · simp [Value.cells] at hcs
    obtain ⟨rfl, rfl, rfl⟩ := hcs
    simp only [if_true] at hmm
    subst hmm
    rw [hC] at hi
    have hP : ∀ i, i < len0 → ∃ f : Fw, ∀ k, k < 4 → W.cell? ((x.add (i * 4)).add k) = (fwV f)[k]? := by
      intro i hin
      obtain ⟨cs', hc, ht⟩ := hi i (by omega)
      obtain ⟨hlen, hcl, hat⟩ := World.cells?_some hc
      match cs', hlen with
      | [c0, c1, c2, c3], _ =>
        obtain ⟨f, ef⟩ := fw_part ht
        exact ⟨f, fun k hk => by rw [← ef]; exact hat k hk⟩
    obtain ⟨L, hL, hLc⟩ := list_of hP
    refine ⟨some x, len0, _, L, rfl, hl, hm', hL, ⟨fun hn => ?_⟩, fun e => by cases e⟩
    obtain ⟨b, off, spot⟩ := x
    have q0 : W.cell? (((⟨b, off, spot⟩ : Addr).add (0 * 4)).add 0) = (fwV (L.getD 0 fw0))[0]? := hLc 0 (by omega) 0 (by omega)
    have q0 : W.cell? (((⟨b, off, spot⟩ : Addr).add (0 * 4)).add 0) = some (.int .u8 (L.getD 0 fw0).pr) := q0
    have hspot : spot = Option.none := by simpa [Addr.add] using World.cell?_spot q0
    subst hspot
    refine ⟨b, off, rfl, World.block_lt_of_cell? (w := W) (a := ⟨b, off, Option.none⟩) (by simpa [Addr.add] using q0), fun i hin => ?_⟩
    have key : ∀ k, k < 4 → W.cell? ⟨b, off + i * 4 + k, Option.none⟩ = (fwV (L.getD i fw0))[k]? := fun k hk => by
      have := hLc i (by omega) k hk
      rwa [addr_addW, addr_addW] at this
    exact ⟨key 0 (by omega), key 1 (by omega), key 2 (by omega), key 3 (by omega)⟩
end
end Go.Proofs.Ytknmpfdmjfbpdaa
