/-
  RexmitGets, plain: one round's Tick; a piece more of what came.
-/
import Derived.Test.YtncbkgcblmohoaaRxGetP
namespace Go.Proofs.Ytncbkgcblmohoaa
set_option maxRecDepth 10000
set_option linter.unusedSimpArgs false
set_option linter.unusedVariables false

section
variable {s : XS} {x win r : Int} {data : List Int} {q c : Nat}
theorem GtX.round_tick (h : GtX s x data q c win r) (hq : q < data.length) (hc : c ≤ 8) (hw : 1 ≤ win ∧ win ≤ 9) (hr : 1 ≤ r ∧ r ≤ 50) (now : Int) (hn : 0 ≤ now ∧ now ≤ 4398046511104) (ha : s.alarm ≤ now + 60000) (hby : ∀ y ∈ data, 0 ≤ y ∧ y < 256) :
    ∃ (s2 : XS) (xa : Int) (is : Bool) (ld : List Int) (c2 : Nat), tickS 4 now s = s2 ∧ tickA 4 now s = xa ∧ tickB 4 now s = is ∧ tickE 4 now s = 0 ∧ tickD 4 now s = ld ∧ GtX s2 x data q c2 win r ∧ (∀ y ∈ ld, 0 ≤ y ∧ y < 256) ∧ s.sent ≤ s2.sent ∧ s2.alarm ≤ now + 60000 ∧ (is = true → c2 = c + 1 ∧ xa = numX (x + (q : Int)) ∧ PiG x data q (q + s2.sent) (xa, ld)) ∧ (is = false → c2 = c ∧ now < s.alarm) := by
  cases hd : dueX now s with
  | true =>
    obtain ⟨h1, h2, h3, h4, h5, h6, h7⟩ := h.tick hq hc hw now hd hn
    have hs := h1.small hr.2
    refine ⟨_, _, _, _, c + 1, rfl, rfl, h4, h5, rfl, h1, ?_, h6, ?_, fun _ => ⟨rfl, h3, h2⟩, fun e => by cases e⟩
    · obtain ⟨o, -, e2, -⟩ := h2
      have e2 : tickD 4 now s = (data.drop o).take (tickD 4 now s).length := e2
      rw [e2]
      intro y hy
      exact hby y (List.mem_of_mem_drop (List.mem_of_mem_take hy))
    · rw [h7]; omega
  | false =>
    obtain ⟨e1, e2, e3, e4, e5⟩ := tick_two (h.idle now hd)
    refine ⟨s, 0, false, [], c, e1, e2, e3, e4, e5, h, by simp, Nat.le_refl _, ha, fun e => (by cases e), fun _ => ⟨rfl, ?_⟩⟩
    have hs := (h.set_ (by omega)).1
    unfold dueX at hd
    rw [hs, decide_eq_true hq] at hd
    simp at hd
    exact hd
end
/-- A piece, and what came: e bytes. -/
theorem piece_at {x : Int} {data : List Int} {q Q : Nat} {p : Int × List Int} (h : PiG x data q Q p) {m : Nat} (hm : p.2.length = m) (hl : data.length ≤ 60) (hby : ∀ y ∈ data, 0 ≤ y ∧ y < 256) :
    ∃ o : Nat, numX (x + (o : Int)) = p.1 ∧ q ≤ o ∧ o + m ≤ Q ∧ o + m ≤ data.length ∧ 0 < m ∧ (∀ y ∈ p.2, 0 ≤ y ∧ y < 256) ∧ ∀ e, o ≤ e → data.take e ++ p.2.drop (e - o) = data.take (e + (m - (e - o))) := by
  obtain ⟨o, h1, h2, h3, h4, h5⟩ := h
  subst hm
  have hlen : p.2.length = min p.2.length (data.length - o) := by
    have := congrArg List.length h2
    rw [List.length_take, List.length_drop] at this
    exact this
  refine ⟨o, h1.symm, h4, h5, by omega, h3, ?_, fun e he => ?_⟩
  · rw [h2]
    intro y hy
    exact hby y (List.mem_of_mem_drop (List.mem_of_mem_take hy))
  · rw [h2, List.drop_take, List.drop_drop, List.length_take, List.length_drop, show o + (e - o) = e by omega, ← List.take_add]
    congr 1
    omega
theorem num_inj {x : Int} {o q : Nat} (ho : o ≤ 1000) (hq : q ≤ 1000) (h : numX (x + (o : Int)) = numX (x + (q : Int))) : o = q := by
  unfold numX at h
  omega
end Go.Proofs.Ytncbkgcblmohoaa
