/-
  The contract of slices.Clone at the program's alarms.
-/
import Derived.Test.YtlpgabbnldalhaaAlmDel
import Derived.Lib.SliceRun
import Derived.OwnWalk
namespace Go.Proofs.Ytlpgabbnldalhaa
set_option maxRecDepth 10000
open Go.RowKit
set_option linter.unusedSimpArgs false
set_option linter.unusedVariables false

def CloneIsA (M : AL) (w : World) (e : Ending) (w' : World) : Prop := ∃ A c, e = .returned (.slice A M.length c) ∧ SlV w' 65 2 (.slice A M.length c) M.length (flatA M) ∧ (∀ b, (Value.slice A M.length c).ownBlock = some b → w.heap.size ≤ b) ∧ Below w.heap.size w w'
theorem clone_anyA (A : Option Addr) (n c : Nat) (M : AL) (w : World) (h : SlV w 65 2 (.slice A n c) n (flatA M)) (hm : M.length = n) (hn : n ≤ 1000000) :
    Calls Try.prog 30 #[.slice A n c] w (CloneIsA M w) := by
  subst hm
  rcases id h with ⟨e, en, _⟩ | ⟨g, o, c', e, hr⟩
  · injection e with e1 e2 e3
    subst e1; subst e3
    have hM : M = [] := List.eq_nil_of_length_eq_zero en
    subst hM
    have hnil := fun w => Lib.run_eql_slice_nil (P := Try.prog) w 57 65 none 0 0 0 0 Try.underlying57
    go_enter Try.func30, Try.ntmps30
    go_wp2_with fail
    go_ret
    exact ⟨none, 0, rfl, .inl ⟨rfl, rfl, rfl⟩, fun b hb => (by cases hb), Below.refl _ _⟩
  · injection e with e1 e2 e3
    subst e1; subst e3
    obtain ⟨n, hm⟩ : ∃ n, M.length = n := ⟨_, rfl⟩
    rw [hm] at h hr hn ⊢
    have hnil := fun w => Lib.run_eql_slice_nil (P := Try.prog) w 57 65 (some ⟨g, o, none⟩) n c 0 0 Try.underlying57
    have hB := (But.refl (fun _ => False) w).alloc (.cells #[] 65)
    have h0 : SlV (w.alloc (.cells #[] 65)) 65 2 (.slice (some ⟨w.heap.size, 0, none⟩) 0 0) 0 [] := .inr ⟨_, 0, 0, rfl, #[], heap_alloc_new w _, by simp, by simp, Nat.le_refl _, by simp [maxLen], fun i hi => by simp at hi⟩
    obtain ⟨A2, c2, w2, hr2, hs2, hb2, hblk2, hat2⟩ := sv_app (P := Try.prog) (w.alloc (.cells #[] 65)) 57 57 65 _ 2 16 Try.underlying57 info_walarm (by omega) rfl _ _ 0 n [] _ h0 (h.but hB (fun _ _ x => x)) (flatA_one M) (by omega)
    rw [List.nil_append, Nat.zero_add] at hs2
    rw [Nat.zero_add] at hr2 hblk2
    have HF := Lib.hid (show CloneIsA M w (.returned (.slice A2 n c2)) w2 by
      refine ⟨A2, c2, by rw [hm], by rw [hm]; exact hs2, fun b hb => ?_, ?_⟩
      · have h3 := hB.size
        rw [hm] at hb
        rcases hblk2 with hk | hk
        · rw [hb] at hk
          injection hk with hk
          simp only at hk
          omega
        · rw [hb] at hk
          injection hk with hk
          omega
      · refine ((hB.mono (S' := fun k => k = w.heap.size) (fun k _ hk => hk.elim)).trans2 hb2 (fun k hk hk2 => ?_)).below (fun k hk => by omega) (Nat.le_refl _)
        injection hk2 with hk2
        simp only at hk2
        omega)
    have Hr2 := Lib.hid hr2
    clear h hr hB hr2 hs2 hb2 hblk2 hat2 h0 hm
    go_enter Try.func30, Try.ntmps30
    go_wp2_with (at_builtin; refine wpList_appX rfl (.tmp 5) (.tmp 6) _ _ rfl rfl _ _ _ w2 rfl rfl Hr2.out ?_)
    go_ret
    exact HF.out
end Go.Proofs.Ytlpgabbnldalhaa
