/-
  The contract of slices.Delete at the program's flows: one of them goes.
-/
import Derived.Test.YtnhlbohdlnjaaaaBi
import Derived.Test.YtnhlbohdlnjaaaaTbMem
import Derived.Deep.RegionHeld3
namespace Go.Proofs.Ytnhlbohdlnjaaaa
set_option maxRecDepth 10000
open Go.RowKit
set_option linter.unusedSimpArgs false
set_option linter.unusedVariables false

theorem flV_one (f : Fl) : ∀ u ∈ flV f, u.oneCell' = true := by
  intro u hu
  exact flatF_one [f] u (by simpa [flatF] using hu)
def RowIsF (v : Value) (M : TL) (w : World) (e : Ending) (w' : World) : Prop :=
  ∃ A c, e = .returned (.slice A M.length c) ∧ SlV w' 51 12 (.slice A M.length c) M.length (flatF M) ∧ But (fun k => v.ownBlock = some k) w w' ∧ ∀ b, (Value.slice A M.length c).ownBlock = some b → v.ownBlock = some b ∨ w.heap.size ≤ b
theorem zero1F : (Builtin.zeroCells zFl.cells 1).toList = flV f0 := by kernel_rfl
set_option maxHeartbeats 1000000 in
theorem del_anyF (g o c i n m : Nat) (y : Int) (M : TL) (w : World) (h : RowV w 51 12 g o n (flatF M) c) (hn : M.length = n) (hb : n ≤ 1000000) (hi : i + m + 1 = n) (hy : y = ((i + 1 : Nat) : Int)) :
    Calls Try.prog 33 #[.slice (some ⟨g, o, none⟩) n c, .int .i64 (i : Int), .int .i64 y] w (RowIsF (.slice (some ⟨g, o, none⟩) n c) (M.eraseIdx i) w) := by
  subst hy
  have hnc : n ≤ c := by obtain ⟨_, _, _, _, h, _⟩ := h; exact h
  obtain ⟨vx, hcut3⟩ := run_cut3 (P := Try.prog) Try.underlying61 info_tflow (some ⟨g, o, none⟩) n c i (i + 1) n (by omega) (by omega) hnc
  have hcutT := run_cut_to (P := Try.prog) Try.underlying61 info_tflow g o n c i (by omega) (by omega)
  have hd0 := h.of_block (w' := w.drew) rfl
  obtain ⟨A2, c2, hcutF, hsF, hoF⟩ := sv_from (P := Try.prog) Try.underlying61 info_tflow (.inr ⟨g, o, c, rfl, hd0⟩) (k := i + 1) (by omega)
  obtain ⟨w2, hr2, hw2, hB2⟩ := sv_room (P := Try.prog) Try.underlying61 info_tflow w.drew 61 _ g o i (n - (i + 1)) c _ _ (hd0.take (k := i) (by omega)) hsF (fun u hu => flatF_one M u (List.mem_of_mem_drop hu)) (by omega)
  have hM : flatF (M.eraseIdx i) = (flatF M).take (i * 12) ++ (flatF M).drop ((i + 1) * 12) := by
    rw [List.eraseIdx_eq_take_drop_succ, flatF_append, flatF_take, flatF_drop]
  have hlen : (M.eraseIdx i).length = i + m := by rw [List.length_eraseIdx, if_pos (by omega)]; omega
  rw [← hM, show i + (n - (i + 1)) = i + m by omega] at hw2
  rw [show n - (i + 1) = m by omega] at hcutF
  rw [show n - (i + 1) = m by omega] at hr2
  have hcutC := run_cut_both (P := Try.prog) Try.underlying61 info_tflow g o (i + m) c (i + m) n (by omega) hnc (by omega)
  have HF : ∃ w3, (Builtin.clear_ #[61] 0 #[.slice (some ⟨g, o + (i + m) * 12, none⟩) 1 (c - (i + m))]).run Try.prog w2 = .ok (.tuple #[]) w3 ∧ RowV w3 51 12 g o (i + m) (flatF (M.eraseIdx i)) c ∧ But (fun k => k = g) w2 w3 := by
    obtain ⟨C, hg, hC, hl, hnc2, hm, hc⟩ := hw2
    have hfl := flatF_length (M.eraseIdx i)
    have hrun := run_clear_sz (P := Try.prog) Try.underlying61 info_tflow w2 0 g (o + (i + m) * 12) 1 (c - (i + m)) (by omega) C hg rfl (by rw [zero1F]; exact flV_one f0) (by omega)
    obtain ⟨C', d1, d2, d3, d4, d5⟩ := setCells_blk hg (o + (i + m) * 12) (Builtin.zeroCells zFl.cells 1).toList (by rw [zero1F, flV_length]; omega)
    exact ⟨_, hrun, ⟨C', d1, by omega, hl, hnc2, hm, fun j hj => by rw [d4 _ (by omega)]; exact hc j hj⟩, d5⟩
  obtain ⟨w3, hr3, hw3, hB3⟩ := HF
  have Hr2 := Lib.hid hr2
  have Hr3 := Lib.hid hr3
  have HW := Lib.hid (show RowIsF (.slice (some ⟨g, o, none⟩) n c) (M.eraseIdx i) w (.returned (.slice (some ⟨g, o, none⟩) (i + m) c)) w3 from by
    refine ⟨some ⟨g, o, none⟩, c, by rw [hlen], ?_, (((But.refl _ w).drew.trans (hB2.mono (fun k _ e => by rw [e]; rfl))).trans (hB3.mono (fun k _ e => by rw [e]; rfl))), fun b hb => .inl hb⟩
    rw [hlen]
    exact .inr ⟨g, o, c, rfl, hw3⟩)
  have hne : (((i : Int)) == (((i + 1 : Nat)) : Int)) = false := by simp; omega
  have hone : n - (i + m) = 1 := by omega
  rw [hone] at hcutC
  obtain ⟨j, hj⟩ : ∃ j, i + 1 = j := ⟨_, rfl⟩
  obtain ⟨q, hq⟩ : ∃ q, i + m = q := ⟨_, rfl⟩
  rw [hj] at hcut3 hcutF hne ⊢
  rw [hq] at hcutC Hr2 Hr3 HW
  have Hq := Lib.hid hq
  have Hj := Lib.hid hj
  clear hq hj
  clear hr2 hr3 hw2 hw3 hB2 hB3 hd0 hsF hoF h hM hlen
  go_enter Try.func33, Try.ntmps33
  go_wp2_with fail
  refine wp_region_held_drew (S := fun w' => True) (by kernel_rfl) trivial (fun hHeld => ?_)
  refine wpAnyH_take (i := 0) (oi := { dst := some 20, op := Go.Op.move (Go.Operand.tmp 0), type := 61, pos := "slices.go:232", after := #[], guard := none }) (v := ?_) rfl (by kernel_rfl) (by kernel_rfl) (by kernel_rfl) (fun _ _ _ h => h) (Or.inl ⟨by rfl, ?_⟩) (by assumption) ?_
  rotate_left 1
  · intro w' hSw; (go_simp <;> (with_reducible rfl))
  (try simp only [Act.put, List.setIfInBounds_toArray, List.set_cons_zero, List.set_cons_succ])
  refine wpAnyH_take (i := 1) (oi := { dst := some 21, op := Go.Op.move (Go.Operand.tmp 1), type := 3, pos := "slices.go:232", after := #[], guard := none }) (v := ?_) rfl (by kernel_rfl) (by kernel_rfl) (by kernel_rfl) (fun _ _ _ h => h) (Or.inl ⟨by rfl, ?_⟩) (by assumption) ?_
  rotate_left 1
  · intro w' hSw; (go_simp <;> (with_reducible rfl))
  (try simp only [Act.put, List.setIfInBounds_toArray, List.set_cons_zero, List.set_cons_succ])
  refine wpAnyH_take (i := 2) (oi := { dst := some 22, op := Go.Op.slice 61 (Go.Operand.tmp 20) none (some (Go.Operand.tmp 21)) none, type := 61, pos := "slices.go:232", after := #[{ on := 0, ground := Go.Ground.data }, { on := 1, ground := Go.Ground.data }], guard := none }) (v := ?_) rfl (by kernel_rfl) (by kernel_rfl) (by kernel_rfl) (fun _ _ _ h => h) (Or.inl ⟨by rfl, ?_⟩) (by assumption) ?_
  rotate_left 1
  · intro w' hSw; (go_simp <;> (with_reducible rfl))
  (try simp only [Act.put, List.setIfInBounds_toArray, List.set_cons_zero, List.set_cons_succ])
  refine wpAnyH_take (i := 3) (oi := { dst := some 23, op := Go.Op.move (Go.Operand.tmp 0), type := 61, pos := "slices.go:232", after := #[], guard := none }) (v := ?_) rfl (by kernel_rfl) (by kernel_rfl) (by kernel_rfl) (fun _ _ _ h => h) (Or.inl ⟨by rfl, ?_⟩) (by assumption) ?_
  rotate_left 1
  · intro w' hSw; (go_simp <;> (with_reducible rfl))
  (try simp only [Act.put, List.setIfInBounds_toArray, List.set_cons_zero, List.set_cons_succ])
  refine wpAnyH_take (i := 4) (oi := { dst := some 24, op := Go.Op.move (Go.Operand.tmp 2), type := 3, pos := "slices.go:232", after := #[], guard := none }) (v := ?_) rfl (by kernel_rfl) (by kernel_rfl) (by kernel_rfl) (fun _ _ _ h => h) (Or.inl ⟨by rfl, ?_⟩) (by assumption) ?_
  rotate_left 1
  · intro w' hSw; (go_simp <;> (with_reducible rfl))
  (try simp only [Act.put, List.setIfInBounds_toArray, List.set_cons_zero, List.set_cons_succ])
  refine wpAnyH_take (i := 5) (oi := { dst := some 25, op := Go.Op.slice 61 (Go.Operand.tmp 23) (some (Go.Operand.tmp 24)) none none, type := 61, pos := "slices.go:232", after := #[{ on := 3, ground := Go.Ground.data }, { on := 4, ground := Go.Ground.data }], guard := none }) (v := ?_) rfl (by kernel_rfl) (by kernel_rfl) (by kernel_rfl) (fun _ _ _ h => h) (Or.inl ⟨by rfl, ?_⟩) (by assumption) ?_
  rotate_left 1
  · intro w' hSw; (go_simp <;> (with_reducible rfl))
  (try simp only [Act.put, List.setIfInBounds_toArray, List.set_cons_zero, List.set_cons_succ])
  refine wpAnyH_ready (rs := [6]) (by kernel_rfl) (by simp) ?_
  refine AllReadyH.cons (o := { dst := some 26, op := Go.Op.call { callee := Go.Callee.builtin Go.Builtin.append, args := #[Go.Operand.tmp 22, Go.Operand.tmp 25], argTypes := #[61, 61] }, type := 61, pos := "slices.go:232", after := #[{ on := 2, ground := Go.Ground.data }, { on := 5, ground := Go.Ground.data }], guard := none }) rfl (fun K hK => ?_) AllReadyH.nil
  refine step_appX rfl (.tmp 22) (.tmp 25) _ _ rfl rfl _ _ _ w2 rfl rfl Hr2.out ?_
  refine hK.out _ _ ?_ (fun hHeld => ?_)
  · exact trivial
  clear hK K
  (try simp only [Act.put, List.setIfInBounds_toArray, List.set_cons_zero, List.set_cons_succ])
  refine wpAnyH_take (i := 7) (oi := { dst := some 0, op := Go.Op.assign (Go.Operand.tmp 26), type := 61, pos := "slices.go:232", after := #[{ on := 6, ground := Go.Ground.data }, { on := 6, ground := Go.Ground.chain }, { on := 0, ground := Go.Ground.phase }, { on := 1, ground := Go.Ground.phase }, { on := 2, ground := Go.Ground.phase }, { on := 3, ground := Go.Ground.phase }, { on := 4, ground := Go.Ground.phase }, { on := 5, ground := Go.Ground.phase }, { on := 6, ground := Go.Ground.phase }], guard := none }) (v := ?_) rfl (by kernel_rfl) (by kernel_rfl) (by kernel_rfl) (fun _ _ _ h => h) (Or.inl ⟨by rfl, ?_⟩) (by assumption) ?_
  rotate_left 1
  · intro w' hSw; (go_simp <;> (with_reducible rfl))
  (try simp only [Act.put, List.setIfInBounds_toArray, List.set_cons_zero, List.set_cons_succ])
  refine wpAnyH_done (by kernel_rfl) ?_ _
  clear hHeld
  have hr3 := Hr3.out
  go_wp2_with fail
  go_ret
  exact HW.out
end Go.Proofs.Ytnhlbohdlnjaaaa
