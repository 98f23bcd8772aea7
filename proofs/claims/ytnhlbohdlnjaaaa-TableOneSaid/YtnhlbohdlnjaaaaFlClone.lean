/-
  The contract of slices.Clone at the program's flows.
-/
import Derived.Test.YtnhlbohdlnjaaaaFlDel
import Derived.Lib.SliceRun
import Derived.OwnWalk
namespace Go.Proofs.Ytnhlbohdlnjaaaa
set_option maxRecDepth 10000
open Go.RowKit
set_option linter.unusedSimpArgs false
set_option linter.unusedVariables false

def CloneIsF (M : TL) (w : World) (e : Ending) (w' : World) : Prop := ∃ A c, e = .returned (.slice A M.length c) ∧ SlV w' 51 12 (.slice A M.length c) M.length (flatF M) ∧ (∀ b, (Value.slice A M.length c).ownBlock = some b → w.heap.size ≤ b) ∧ Below w.heap.size w w'
theorem clone_anyF (A : Option Addr) (n c : Nat) (M : TL) (w : World) (h : SlV w 51 12 (.slice A n c) n (flatF M)) (hm : M.length = n) (hn : n ≤ 1000000) :
    Calls Try.prog 43 #[.slice A n c] w (CloneIsF M w) := by
  subst hm
  rcases id h with ⟨e, en, _⟩ | ⟨g, o, c', e, hr⟩
  · injection e with e1 e2 e3
    subst e1; subst e3
    have hM : M = [] := List.eq_nil_of_length_eq_zero en
    subst hM
    have hnil := fun w => Lib.run_eql_slice_nil (P := Try.prog) w 61 51 none 0 0 0 0 Try.underlying61
    go_enter Try.func43, Try.ntmps43
    go_wp2_with fail
    go_ret
    exact ⟨none, 0, rfl, .inl ⟨rfl, rfl, rfl⟩, fun b hb => (by cases hb), Below.refl _ _⟩
  · injection e with e1 e2 e3
    subst e1; subst e3
    obtain ⟨n, hm⟩ : ∃ n, M.length = n := ⟨_, rfl⟩
    rw [hm] at h hr hn ⊢
    have hnil := fun w => Lib.run_eql_slice_nil (P := Try.prog) w 61 51 (some ⟨g, o, none⟩) n c 0 0 Try.underlying61
    have hB := (But.refl (fun _ => False) w).alloc (.cells #[] 51)
    have h0 : SlV (w.alloc (.cells #[] 51)) 51 12 (.slice (some ⟨w.heap.size, 0, none⟩) 0 0) 0 [] := .inr ⟨_, 0, 0, rfl, #[], heap_alloc_new w _, by simp, by simp, Nat.le_refl _, by simp [maxLen], fun i hi => by simp at hi⟩
    obtain ⟨A2, c2, w2, hr2, hs2, hb2, hblk2, hat2⟩ := sv_app (P := Try.prog) (w.alloc (.cells #[] 51)) 61 61 51 _ 12 48 Try.underlying61 info_tflow (by omega) rfl _ _ 0 n [] _ h0 (h.but hB (fun _ _ x => x)) (flatF_one M) (by omega)
    rw [List.nil_append, Nat.zero_add] at hs2
    rw [Nat.zero_add] at hr2 hblk2
    have HF := Lib.hid (show CloneIsF M w (.returned (.slice A2 n c2)) w2 by
      refine ⟨A2, c2, by rw [hm], by rw [hm]; exact hs2, fun b hb => ?_, ?_⟩
      · have h3 := hB.size
        rw [hm] at hb
        rcases hblk2 with hk | hk
        · rw [hb] at hk
          injection hk with hk
          simp only at hk
          omega
        · rw [hb] at hk
          injection hk with hk
          omega
      · refine ((hB.mono (S' := fun k => k = w.heap.size) (fun k _ hk => hk.elim)).trans2 hb2 (fun k hk hk2 => ?_)).below (fun k hk => by omega) (Nat.le_refl _)
        injection hk2 with hk2
        simp only at hk2
        omega)
    have Hr2 := Lib.hid hr2
    clear h hr hB hr2 hs2 hb2 hblk2 hat2 h0 hm
    go_enter Try.func43, Try.ntmps43
    go_wp2_with (at_builtin; refine wpList_appX rfl (.tmp 5) (.tmp 6) _ _ rfl rfl _ _ _ w2 rfl rfl Hr2.out ?_)
    go_ret
    exact HF.out
end Go.Proofs.Ytnhlbohdlnjaaaa
