/-
  The contracts of slices.Clone at package pool's three types.
-/
import Derived.Test.YtlifldionfoddaaPoolNew
import Derived.Lib.SliceRun
import Derived.OwnWalk
namespace Go.Proofs.Ytlifldionfoddaa
set_option maxRecDepth 10000
open Go.RowKit
set_option linter.unusedSimpArgs false
set_option linter.unusedVariables false

def CloneIs (T : TypeId) (k : IntKind) (l : List Int) (w : World) (e : Ending) (w' : World) : Prop := ∃ A n c, e = .returned (.slice A n c) ∧ Sl w' T k (.slice A n c) l ∧ (∀ b, (Value.slice A n c).ownBlock = some b → w.heap.size ≤ b) ∧ Below w.heap.size w w' ∧ At0 (.slice A n c)
theorem clone_state (v : Value) (l : List Int) (w : World) (h : Sl w 53 .u8 v l) (hn : l.length ≤ 65536) :
    Calls Try.prog 22 #[v] w (CloneIs 53 .u8 l w) := by
  rcases id h with ⟨rfl, rfl⟩ | ⟨g, o, c, rfl, hr⟩
  · have hnil := fun w => Lib.run_eql_slice_nil (P := Try.prog) w 47 53 none 0 0 0 0 Try.underlying47
    go_enter Try.func22, Try.ntmps22
    go_wp2_with fail
    go_ret
    exact ⟨none, 0, 0, rfl, Sl.nil _ _ _, fun b hb => (by cases hb), Below.refl _ _, fun g o n c e => (by cases e)⟩
  · have hnil := fun w => Lib.run_eql_slice_nil (P := Try.prog) w 47 53 (some ⟨g, o, none⟩) l.length c 0 0 Try.underlying47
    have hB := (But.refl (fun _ => False) w).alloc (.cells #[] 53)
    obtain ⟨A2, n2, c2, w2, hr2, hs2, hb2, hblk2, hat2⟩ := sl_app_form (P := Try.prog) (w.alloc (.cells #[] 53)) 47 47 53 .u8 1 Try.underlying47 info_state (by omega) _ _ [] l (Row.empty 53 .u8 w.heap.size rfl) (h.but hB (fun _ _ x => x)) (by simp; omega)
    have Hr2 := Lib.hid hr2
    have HF := Lib.hid (show Sl w2 53 .u8 (.slice A2 n2 c2) l ∧ (∀ b, (Value.slice A2 n2 c2).ownBlock = some b → w.heap.size ≤ b) ∧ Below w.heap.size w w2 ∧ At0 (.slice A2 n2 c2) by
      refine ⟨hs2, fun b hb => ?_, ?_, hat2 (fun g o n c e => by injection e with e; injection e with e; injection e with _ e; exact e.symm)⟩
      · have h3 := hB.size
        rcases hblk2 with hk | hk
        · rw [hb] at hk
          injection hk with hk
          simp only at hk
          omega
        · rw [hb] at hk
          injection hk with hk
          omega
      · refine ((hB.mono (S' := fun k => k = w.heap.size) (fun k _ hk => hk.elim)).trans2 hb2 (fun k hk hk2 => ?_)).below (fun k hk => by omega) (Nat.le_refl _)
        injection hk2 with hk2
        simp only at hk2
        omega)
    clear h hr hB hr2 hs2 hb2 hblk2
    go_enter Try.func22, Try.ntmps22
    go_wp2_with (at_builtin; refine wpList_appX rfl (.tmp 5) (.tmp 6) _ _ rfl rfl _ _ _ w2 rfl rfl Hr2.out ?_)
    go_ret
    exact ⟨A2, n2, c2, rfl, HF.out⟩
theorem clone_u64 (v : Value) (l : List Int) (w : World) (h : Sl w 23 .u64 v l) (hn : l.length ≤ 65536) :
    Calls Try.prog 23 #[v] w (CloneIs 23 .u64 l w) := by
  rcases id h with ⟨rfl, rfl⟩ | ⟨g, o, c, rfl, hr⟩
  · have hnil := fun w => Lib.run_eql_slice_nil (P := Try.prog) w 50 23 none 0 0 0 0 Try.underlying50
    go_enter Try.func23, Try.ntmps23
    go_wp2_with fail
    go_ret
    exact ⟨none, 0, 0, rfl, Sl.nil _ _ _, fun b hb => (by cases hb), Below.refl _ _, fun g o n c e => (by cases e)⟩
  · have hnil := fun w => Lib.run_eql_slice_nil (P := Try.prog) w 50 23 (some ⟨g, o, none⟩) l.length c 0 0 Try.underlying50
    have hB := (But.refl (fun _ => False) w).alloc (.cells #[] 23)
    obtain ⟨A2, n2, c2, w2, hr2, hs2, hb2, hblk2, hat2⟩ := sl_app_form (P := Try.prog) (w.alloc (.cells #[] 23)) 50 50 23 .u64 8 Try.underlying50 info_u64s (by omega) _ _ [] l (Row.empty 23 .u64 w.heap.size rfl) (h.but hB (fun _ _ x => x)) (by simp; omega)
    have Hr2 := Lib.hid hr2
    have HF := Lib.hid (show Sl w2 23 .u64 (.slice A2 n2 c2) l ∧ (∀ b, (Value.slice A2 n2 c2).ownBlock = some b → w.heap.size ≤ b) ∧ Below w.heap.size w w2 ∧ At0 (.slice A2 n2 c2) by
      refine ⟨hs2, fun b hb => ?_, ?_, hat2 (fun g o n c e => by injection e with e; injection e with e; injection e with _ e; exact e.symm)⟩
      · have h3 := hB.size
        rcases hblk2 with hk | hk
        · rw [hb] at hk
          injection hk with hk
          simp only at hk
          omega
        · rw [hb] at hk
          injection hk with hk
          omega
      · refine ((hB.mono (S' := fun k => k = w.heap.size) (fun k _ hk => hk.elim)).trans2 hb2 (fun k hk hk2 => ?_)).below (fun k hk => by omega) (Nat.le_refl _)
        injection hk2 with hk2
        simp only at hk2
        omega)
    clear h hr hB hr2 hs2 hb2 hblk2
    go_enter Try.func23, Try.ntmps23
    go_wp2_with (at_builtin; refine wpList_appX rfl (.tmp 5) (.tmp 6) _ _ rfl rfl _ _ _ w2 rfl rfl Hr2.out ?_)
    go_ret
    exact ⟨A2, n2, c2, rfl, HF.out⟩
theorem clone_u16 (v : Value) (l : List Int) (w : World) (h : Sl w 22 .u16 v l) (hn : l.length ≤ 65536) :
    Calls Try.prog 24 #[v] w (CloneIs 22 .u16 l w) := by
  rcases id h with ⟨rfl, rfl⟩ | ⟨g, o, c, rfl, hr⟩
  · have hnil := fun w => Lib.run_eql_slice_nil (P := Try.prog) w 61 22 none 0 0 0 0 Try.underlying61
    go_enter Try.func24, Try.ntmps24
    go_wp2_with fail
    go_ret
    exact ⟨none, 0, 0, rfl, Sl.nil _ _ _, fun b hb => (by cases hb), Below.refl _ _, fun g o n c e => (by cases e)⟩
  · have hnil := fun w => Lib.run_eql_slice_nil (P := Try.prog) w 61 22 (some ⟨g, o, none⟩) l.length c 0 0 Try.underlying61
    have hB := (But.refl (fun _ => False) w).alloc (.cells #[] 22)
    obtain ⟨A2, n2, c2, w2, hr2, hs2, hb2, hblk2, hat2⟩ := sl_app_form (P := Try.prog) (w.alloc (.cells #[] 22)) 61 61 22 .u16 2 Try.underlying61 info_u16e (by omega) _ _ [] l (Row.empty 22 .u16 w.heap.size rfl) (h.but hB (fun _ _ x => x)) (by simp; omega)
    have Hr2 := Lib.hid hr2
    have HF := Lib.hid (show Sl w2 22 .u16 (.slice A2 n2 c2) l ∧ (∀ b, (Value.slice A2 n2 c2).ownBlock = some b → w.heap.size ≤ b) ∧ Below w.heap.size w w2 ∧ At0 (.slice A2 n2 c2) by
      refine ⟨hs2, fun b hb => ?_, ?_, hat2 (fun g o n c e => by injection e with e; injection e with e; injection e with _ e; exact e.symm)⟩
      · have h3 := hB.size
        rcases hblk2 with hk | hk
        · rw [hb] at hk
          injection hk with hk
          simp only at hk
          omega
        · rw [hb] at hk
          injection hk with hk
          omega
      · refine ((hB.mono (S' := fun k => k = w.heap.size) (fun k _ hk => hk.elim)).trans2 hb2 (fun k hk hk2 => ?_)).below (fun k hk => by omega) (Nat.le_refl _)
        injection hk2 with hk2
        simp only at hk2
        omega)
    clear h hr hB hr2 hs2 hb2 hblk2
    go_enter Try.func24, Try.ntmps24
    go_wp2_with (at_builtin; refine wpList_appX rfl (.tmp 5) (.tmp 6) _ _ rfl rfl _ _ _ w2 rfl rfl Hr2.out ?_)
    go_ret
    exact ⟨A2, n2, c2, rfl, HF.out⟩
end Go.Proofs.Ytlifldionfoddaa
