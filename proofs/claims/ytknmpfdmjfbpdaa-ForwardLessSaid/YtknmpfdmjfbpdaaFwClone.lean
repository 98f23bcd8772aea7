/-
  The contract of slices.Clone at forwards, of whatever reads as forwards.
-/
import Derived.Test.YtknmpfdmjfbpdaaFwDoor
import Derived.Lib.SliceRun
import Derived.OwnWalk
namespace Go.Proofs.Ytknmpfdmjfbpdaa
set_option maxRecDepth 10000
open Go.RowKit
set_option linter.unusedSimpArgs false
set_option linter.unusedVariables false

theorem RdW.src {w : World} {A : Option Addr} {L : FWL} (h : RdW w A L) {n : Nat} (hn : L.length = n) (c : Nat) (hnil : A = none → c = 0) : Src Try.prog 4 27 (.slice A n c) n (flatW4 L) w := by
  subst hn
  cases A with
  | none =>
    have hL : L = [] := by
      cases L with
      | nil => rfl
      | cons f L =>
        obtain ⟨b, o, e, _⟩ := h.at_ (by simp)
        cases e
    subst hL
    exact Src.ofNil w Try.underlying27 c
  | some a =>
    refine Src.ofSlice w Try.underlying27 a _ c _ (flatW4_length L) (fun j u hj => ?_) (flatW4_one L)
    obtain ⟨hjl, he⟩ := List.getElem?_eq_some_iff.1 hj
    rw [flatW4_length] at hjl
    obtain ⟨b, o, e, _, hc⟩ := h.at_ (by omega)
    injection e with e
    subst e
    have hd := hc (j / 4) (by omega)
    have hm : j % 4 < 4 := Nat.mod_lt _ (by omega)
    have hg := flatW4_get L (i := j / 4) (k := j % 4) (by omega) hm
    rw [show j / 4 * 4 + j % 4 = j by omega, hj] at hg
    have key : w.cell? ⟨b, o + j / 4 * 4 + j % 4, none⟩ = (fwV (L.getD (j / 4) fw0))[j % 4]? := by
      obtain ⟨d0, d1, d2, d3⟩ := hd
      have : j % 4 = 0 ∨ j % 4 = 1 ∨ j % 4 = 2 ∨ j % 4 = 3 := by omega
      rcases this with e | e | e | e <;> rw [e]
      · exact d0
      · exact d1
      · exact d2
      · exact d3
    rw [Go.WideShapes.add_plain, hg, ← key]
    congr 2
    omega
def CloneIsW (M : FWL) (w : World) (e : Ending) (w' : World) : Prop := ∃ A c, e = .returned (.slice A M.length c) ∧ SlV w' 40 4 (.slice A M.length c) M.length (flatW4 M) ∧ (∀ b, (Value.slice A M.length c).ownBlock = some b → w.heap.size ≤ b) ∧ Below w.heap.size w w'
theorem clone_anyW (A : Option Addr) (n c : Nat) (M : FWL) (w : World) (h : RdW w A M) (hm : M.length = n) (hn : n ≤ 1000000) :
    Calls Try.prog 28 #[.slice A n c] w (CloneIsW M w) := by
  subst hm
  cases A with
  | none =>
    have hM : M = [] := by
      cases M with
      | nil => rfl
      | cons f L =>
        obtain ⟨b, o, e, _⟩ := h.at_ (by simp)
        cases e
    subst hM
    have hnil := fun w => Lib.run_eql_slice_nil (P := Try.prog) w 27 40 none 0 c 0 0 Try.underlying27
    go_enter Try.func28, Try.ntmps28
    go_wp2_with fail
    go_ret
    exact ⟨none, 0, rfl, .inl ⟨rfl, rfl, rfl⟩, fun b hb => (by cases hb), Below.refl _ _⟩
  | some a =>
    obtain ⟨n, hm⟩ : ∃ n, M.length = n := ⟨_, rfl⟩
    rw [hm] at hn ⊢
    have hnil := fun w => Lib.run_eql_slice_nil (P := Try.prog) w 27 40 (some a) n c 0 0 Try.underlying27
    have hB := (But.refl (fun _ => False) w).alloc (.cells #[] 40)
    have h0 : SlV (w.alloc (.cells #[] 40)) 40 4 (.slice (some ⟨w.heap.size, 0, none⟩) 0 0) 0 [] := .inr ⟨_, 0, 0, rfl, #[], heap_alloc_new w _, by simp, by simp, Nat.le_refl _, by simp [maxLen], fun i hi => by simp at hi⟩
    obtain ⟨A2, c2, w2, hr2, hs2, hb2, hblk2, hat2⟩ := sv_app_src (P := Try.prog) (w.alloc (.cells #[] 40)) 27 27 40 _ 4 12 Try.underlying27 info_tfw (by omega) rfl _ _ 0 n [] _ h0 ((h.below (hB.below (fun _ h => h.elim) (Nat.le_refl _))).src hm c (fun e => by cases e)) (by omega)
    rw [List.nil_append, Nat.zero_add] at hs2
    rw [Nat.zero_add] at hr2 hblk2
    have HF := Lib.hid (show CloneIsW M w (.returned (.slice A2 n c2)) w2 by
      refine ⟨A2, c2, by rw [hm], by rw [hm]; exact hs2, fun b hb => ?_, ?_⟩
      · have h3 := hB.size
        rw [hm] at hb
        rcases hblk2 with hk | hk
        · rw [hb] at hk
          injection hk with hk
          simp only at hk
          omega
        · rw [hb] at hk
          injection hk with hk
          omega
      · refine ((hB.mono (S' := fun k => k = w.heap.size) (fun k _ hk => hk.elim)).trans2 hb2 (fun k hk hk2 => ?_)).below (fun k hk => by omega) (Nat.le_refl _)
        injection hk2 with hk2
        simp only at hk2
        omega)
    have Hr2 := Lib.hid hr2
    clear h hB hr2 hs2 hb2 hblk2 hat2 h0 hm
    go_enter Try.func28, Try.ntmps28
    go_wp2_with (at_builtin; refine wpList_appX rfl (.tmp 5) (.tmp 6) _ _ rfl rfl _ _ _ w2 rfl rfl Hr2.out ?_)
    go_ret
    exact HF.out
end Go.Proofs.Ytknmpfdmjfbpdaa
