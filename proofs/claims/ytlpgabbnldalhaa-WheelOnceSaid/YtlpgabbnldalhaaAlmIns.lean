/-
  The contract of slices.Insert at the program's alarms: one of them comes.
-/
import Derived.Test.YtlpgabbnldalhaaAlmDel
import Derived.Lib.Overlaps
namespace Go.Proofs.Ytlpgabbnldalhaa
set_option maxRecDepth 10000
open Go.RowKit
set_option linter.unusedSimpArgs false
set_option linter.unusedVariables false

def insL (i : Nat) (a : Int × Int) (M : AL) : AL := M.take i ++ a :: M.drop i
theorem insL_length (i : Nat) (a : Int × Int) (M : AL) (h : i ≤ M.length) : (insL i a M).length = M.length + 1 := by simp [insL]; omega
theorem flat_ins (i : Nat) (a : Int × Int) (M : AL) : flatA (insL i a M) = (flatA M).take (i * 2) ++ ([.int .u64 a.2, .int .u64 a.1] ++ (flatA M).drop (i * 2)) := by
  simp [insL, flatA_append, flatA_take, flatA_cons, flatA_drop]
theorem ins_get {i : Nat} {a : Int × Int} {M : AL} (h : i ≤ M.length) (j : Nat) : (flatA (insL i a M))[j]? = if j < i * 2 then (flatA M)[j]? else if j < i * 2 + 2 then [Value.int .u64 a.2, .int .u64 a.1][j - i * 2]? else (flatA M)[j - 2]? := by
  have hl := flatA_length M
  rw [flat_ins]
  by_cases h1 : j < i * 2
  · rw [if_pos h1, List.getElem?_append_left (by rw [List.length_take]; omega), List.getElem?_take_of_lt h1]
  · rw [if_neg h1, List.getElem?_append_right (by rw [List.length_take]; omega), List.length_take, show min (i * 2) (flatA M).length = i * 2 by omega]
    by_cases h2 : j < i * 2 + 2
    · rw [if_pos h2, List.getElem?_append_left (by simp; omega)]
    · rw [if_neg h2, List.getElem?_append_right (by simp; omega), List.getElem?_drop]
      congr 1
      simp
      omega
/-- The literal that is to come. -/
def LitA (w : World) (z : Nat) (a : Int × Int) : Prop := w.heap[z]? = some (.cells #[.int .u64 a.2, .int .u64 a.1] 65 (0, 0))
theorem LitA.sl {w : World} {z : Nat} {a : Int × Int} (h : LitA w z a) : SlV w 65 2 (.slice (some ⟨z, 0, none⟩) 1 1) 1 (flatA [a]) := by
  refine .inr ⟨z, 0, 1, rfl, _, h, by simp, by simp [flatA_cons, flatA_nil], Nat.le_refl _, by simp [maxLen], fun i hi => ?_⟩
  simp [flatA_cons, flatA_nil] at hi ⊢
theorem ins_endA (A : Option Addr) (n c z : Nat) (a : Int × Int) (M : AL) (w : World) (h : SlV w 65 2 (.slice A n c) n (flatA M)) (hn : M.length = n) (hb : n ≤ 1000000) (hz : LitA w z a) :
    Calls Try.prog 33 #[.slice A n c, .int .i64 (n : Int), .slice (some ⟨z, 0, none⟩) 1 1] w (RowIsA (.slice A n c) (insL n a M) w) := by
  obtain ⟨A2, c2, hcutF, hsF, hoF⟩ := sv_from (P := Try.prog) Try.underlying57 info_walarm h (k := n) (Nat.le_refl _)
  obtain ⟨A3, c3, w3, hr3, hs3, hb3, ho3, ha3⟩ := sv_app (P := Try.prog) w 57 57 65 _ 2 16 Try.underlying57 info_walarm (by omega) rfl _ _ n 1 _ _ h hz.sl (flatA_one _) (by omega)
  have hlen := insL_length n a M (by omega)
  rw [hn] at hlen
  have hfl : flatA M ++ flatA [a] = flatA (insL n a M) := by
    rw [← flatA_append]
    congr 1
    simp [insL, ← hn]
  rw [hfl] at hs3
  have Hr3 := Lib.hid hr3
  have HW := Lib.hid (show RowIsA (.slice A n c) (insL n a M) w (.returned (.slice A3 (n + 1) c3)) w3 from by
    refine ⟨A3, c3, by rw [hlen], by rw [hlen]; exact hs3, hb3, fun b hb => ?_⟩
    rw [hlen] at hb
    rcases ho3 with e | e
    · exact .inl (e ▸ hb)
    · rw [hb] at e
      injection e with e
      exact .inr (by omega))
  have hne : (((n : Int)) == (n : Int)) = true := by simp
  clear hr3 hs3 hb3 ho3 ha3 hsF hoF h hfl hlen hn hz
  go_enter Try.func33, Try.ntmps33
  go_wp2_with (at_builtin; refine wpList_appX rfl (.tmp 23) (.tmp 24) _ _ rfl rfl _ _ _ w3 rfl rfl Hr3.out ?_)
  go_ret
  exact HW.out
set_option maxHeartbeats 1000000 in
theorem ins_growA (g o n c i z : Nat) (a : Int × Int) (M : AL) (w : World) (h : RowV w 65 2 g o n (flatA M) c) (hn : M.length = n) (hb : n ≤ 1000000) (hz : LitA w z a) (hi : i < n) (hc : c < n + 1) :
    Calls Try.prog 33 #[.slice (some ⟨g, o, none⟩) n c, .int .i64 (i : Int), .slice (some ⟨z, 0, none⟩) 1 1] w (RowIsA (.slice (some ⟨g, o, none⟩) n c) (insL i a M) w) := by
  have hnc : n ≤ c := by obtain ⟨_, _, _, _, h, _⟩ := h; exact h
  obtain rfl : c = n := by omega
  obtain ⟨m, hm⟩ : ∃ m, c + 1 - i = m := ⟨_, rfl⟩
  have hcut1 := run_cut_from (P := Try.prog) Try.underlying57 info_walarm g o c c i (by omega) hi
  have hcut2 := run_cut_to (P := Try.prog) Try.underlying57 info_walarm g o c c i (by omega) (by omega)
  have hr2 := run_append_made (P := Try.prog) Try.underlying57 info_walarm (by omega) 3 Try.underlying3 w 57 g o i c m _ (by omega) (h.take (k := i) (by omega)) (by omega) (by omega) (by omega)
  have him : i + m = c + 1 := by omega
  rw [him] at hr2
  obtain ⟨c2, ec2⟩ : ∃ c2, grownCap w (c + 1) c 65 = c2 := ⟨_, rfl⟩
  have hc2 : c + 1 ≤ c2 := by rw [← ec2]; exact grownCap_ge w (c + 1) c _
  have hc2m : c2 ≤ maxLen := by rw [← ec2]; exact grownCap_le_maxLen w _ c _ (by simp [maxLen]; omega)
  rw [ec2] at hr2
  obtain ⟨C1, eC1⟩ : ∃ C1 : Array Value, ((flatA M).take (i * 2)).toArray ++ Builtin.zeroCells (Value.agg #[.int .u64 0, .int .u64 0]).cells m ++ Builtin.zeroCells (Value.agg #[.int .u64 0, .int .u64 0]).cells (c2 - (c + 1)) = C1 := ⟨_, rfl⟩
  have hfl := flatA_length M
  have hC1 : C1.size = c2 * 2 := by
    rw [← eC1]
    simp only [Array.size_append, List.size_toArray, List.length_take, size_zeroCells, show (Value.agg #[Value.int .u64 0, .int .u64 0]).cells.size = 2 from rfl]
    omega
  have hC1g : ∀ q, q < i * 2 → C1[q]? = (flatA M)[q]? := fun q hq => by
    rw [← eC1, Array.append_assoc, Array.getElem?_append_left (by simp; omega)]
    simp only [List.getElem?_toArray]
    rw [List.getElem?_take_of_lt hq]
  rw [eC1] at hr2
  obtain ⟨z2, ez2⟩ : ∃ z2, w.heap.size = z2 := ⟨_, rfl⟩
  obtain ⟨w2, ew2⟩ : ∃ w2, w.drew.alloc (.cells C1 65) = w2 := ⟨_, rfl⟩
  have hB2 : Below w.heap.size w w2 := by rw [← ew2]; exact (Below.drew (Below.refl _ _)).alloc (Nat.le_refl _) _
  have hk2 : w2.heap[z2]? = some (.cells C1 65 (0, 0)) := by rw [← ew2, ← ez2]; exact heap_alloc_new w.drew _
  rw [ez2, ew2] at hr2
  have hz2 : LitA w2 z a := by unfold LitA; exact (hB2.block z (lt_of_block hz)).trans hz
  have hzl := lt_of_block hz
  have hcut3 := run_cut_from (P := Try.prog) Try.underlying57 info_walarm z2 0 (c + 1) c2 i (by omega) (by omega)
  have hlit : ∀ (j : Nat) u, [Value.int .u64 a.2, .int .u64 a.1][j]? = some u → w2.cell? ⟨z, 0 + j, none⟩ = some u := fun j u hj => by
    rw [blk_cell hz2, Nat.zero_add]
    simpa using hj
  have hr3 := run_copy_sz (P := Try.prog) Try.underlying57 info_walarm w2 3 z2 (0 + i * 2) (c + 1 - i) (c2 - i) z 0 1 1 1 (show min 1 (c + 1 - i) = 1 by omega) C1 hk2 [.int .u64 a.2, .int .u64 a.1] rfl hlit (by intro u hu; simp at hu; rcases hu with rfl | rfl <;> rfl) (by simp; omega)
  obtain ⟨C2, d1, d2, d3, d4, d5⟩ := setCells_blk hk2 (0 + i * 2) [.int .u64 a.2, .int .u64 a.1] (by simp; omega)
  obtain ⟨w3, ew3⟩ : ∃ w3, w2.setCells z2 (0 + i * 2) [.int .u64 a.2, .int .u64 a.1] = w3 := ⟨_, rfl⟩
  rw [ew3] at hr3 d1 d5
  have hg2 : g ≠ z2 := by have := h.lt; omega
  have h3 : RowV w3 65 2 g o c (flatA M) c := (h.but (But.of (S := fun _ => False) hB2) (fun x => x)).but d5 hg2
  have h3d := (h3.drop (k := i) (by omega)).of_block (w' := w3.drew) rfl
  have hcut4 := run_cut_from (P := Try.prog) Try.underlying57 info_walarm z2 0 (c + 1) c2 (i + 1) (by omega) (by omega)
  have hd1 : w3.drew.heap[z2]? = some (.cells C2 65 (0, 0)) := d1
  have hsub : c + 1 - (i + 1) = c - i := by omega
  rw [hsub] at hcut4
  have hr4 := run_copy_sz (P := Try.prog) Try.underlying57 info_walarm w3.drew 3 z2 (0 + (i + 1) * 2) (c - i) (c2 - (i + 1)) g (o + i * 2) (c - i) (c - i) (c - i) (show min (c - i) (c - i) = c - i by omega) C2 hd1 ((flatA M).drop (i * 2)) (by rw [List.length_drop, hfl]; omega)
    (fun j u hj => by
      obtain ⟨hjl, he⟩ := List.getElem?_eq_some_iff.1 hj
      rw [h3d.cell hjl, he]) (fun u hu => flatA_one M u (List.mem_of_mem_drop hu)) (by rw [List.length_drop, hfl]; omega)
  obtain ⟨C3, f1, f2, f3, f4, f5⟩ := setCells_blk hd1 (0 + (i + 1) * 2) ((flatA M).drop (i * 2)) (by rw [List.length_drop, hfl]; omega)
  obtain ⟨w4, ew4⟩ : ∃ w4, w3.drew.setCells z2 (0 + (i + 1) * 2) ((flatA M).drop (i * 2)) = w4 := ⟨_, rfl⟩
  rw [ew4] at hr4 f1 f5
  have hlen := insL_length i a M (by omega)
  rw [hn] at hlen
  have hL := ins_get (i := i) (a := a) (M := M) (by omega)
  have HW := Lib.hid (show RowIsA (.slice (some ⟨g, o, none⟩) c c) (insL i a M) w (.returned (.slice (some ⟨z2, 0, none⟩) (c + 1) c2)) w4 from by
    refine ⟨some ⟨z2, 0, none⟩, c2, by rw [hlen], ?_, ?_, fun b hb => .inr (by injection hb with hb; simp only at hb; omega)⟩
    · rw [hlen]
      refine .inr ⟨z2, 0, c2, rfl, C3, f1, by omega, by rw [flatA_length, hlen], hc2, hc2m, fun j hj => ?_⟩
      rw [flatA_length, hlen] at hj
      rw [List.length_drop, hfl] at f4 f3
      simp only [List.length_cons, List.length_nil] at d3 d4
      rw [hL j]
      by_cases h1 : j < i * 2
      · rw [if_pos h1, f4 _ (by omega), d4 _ (by omega), Nat.zero_add, hC1g j h1]
      · rw [if_neg h1]
        by_cases h2 : j < i * 2 + 2
        · rw [if_pos h2, f4 _ (by omega), ← d3 (j - i * 2) (by omega)]
          congr 1
          omega
        · rw [if_neg h2]
          have := f3 (j - i * 2 - 2) (by omega)
          rw [List.getElem?_drop] at this
          rw [show i * 2 + (j - i * 2 - 2) = j - 2 by omega] at this
          rw [← this]
          congr 1
          omega
    · have b1 : But (fun k => (Value.slice (some ⟨g, o, none⟩) c c).ownBlock = some k) w w2 := But.of hB2
      have b2 : But (fun k => k = z2) w2 w4 := (d5.drew).trans f5
      exact b1.trans2 (b2.mono (S' := fun k => k = z2) (fun k _ e => e)) (fun k hk e => by omega))
  rw [Nat.zero_add] at hr3 hr4
  have hcut3 := hcut3
  rw [Nat.zero_add] at hcut3 hcut4
  have Hr2 := Lib.hid hr2
  have Hr4 := Lib.hid hr4
  have hne : (((i : Int)) == (c : Int)) = false := by simp; omega
  have hmm : (c : Int) + 1 - (i : Int) = (m : Int) := by omega
  rw [show (((i + 1 : Nat)) : Int) = (i : Int) + 1 by omega] at hcut4
  rw [← hmm] at Hr2
  have hw1 : IntKind.i64.wrap ((c : Int) + 1) = (c : Int) + 1 := by rw [IntKind.wrap_i64]; omega
  have hw2 : IntKind.i64.wrap ((c : Int) + 1 - (i : Int)) = (c : Int) + 1 - (i : Int) := by rw [IntKind.wrap_i64]; omega
  have hw3 : IntKind.i64.wrap ((i : Int) + 1) = (i : Int) + 1 := by rw [IntKind.wrap_i64]; omega
  have hlt : (c : Int) < (c : Int) + 1 := by omega
  clear hmm hr2 hr4 hcut1 him hc2 hc2m ec2 eC1 hfl hC1 hC1g ez2 ew2 hB2 hk2 hz2 hzl hlit d1 d2 d3 d4 d5 ew3 hg2 h3 h3d hd1 hsub f1 f2 f3 f4 f5 ew4 hlen hL hnc hm h hn hz
  have hcut1 := run_cut_from (P := Try.prog) Try.underlying57 info_walarm g o c c i (by omega) hi
  go_enter Try.func33, Try.ntmps33
  go_wp2_with (at_builtin; refine wpList_bi2 rfl .append Builtin.append_ (fun _ _ _ _ => rfl) (.tmp 34) (.tmp 39) _ _ rfl rfl _ _ _ w2 rfl rfl Hr2.out ?_)
  have hr4 := Hr4.out
  refine wp_region_held_drew (S := fun w' => True) (by kernel_rfl) trivial (fun hHeld => ?_)
  refine wpAnyH_take (i := 0) (oi := { dst := some 46, op := Go.Op.move (Go.Operand.tmp 9), type := 57, pos := "slices.go:154", after := #[], guard := none }) (v := ?_) rfl (by kernel_rfl) (by kernel_rfl) (by kernel_rfl) (fun _ _ _ h => h) (Or.inl ⟨by rfl, ?_⟩) (by assumption) ?_
  rotate_left 1
  · intro w' hSw; (go_simp <;> (with_reducible rfl))
  (try simp only [Act.put, List.setIfInBounds_toArray, List.set_cons_zero, List.set_cons_succ])
  refine wpAnyH_take (i := 1) (oi := { dst := some 47, op := Go.Op.move (Go.Operand.tmp 1), type := 3, pos := "slices.go:154", after := #[], guard := none }) (v := ?_) rfl (by kernel_rfl) (by kernel_rfl) (by kernel_rfl) (fun _ _ _ h => h) (Or.inl ⟨by rfl, ?_⟩) (by assumption) ?_
  rotate_left 1
  · intro w' hSw; (go_simp <;> (with_reducible rfl))
  (try simp only [Act.put, List.setIfInBounds_toArray, List.set_cons_zero, List.set_cons_succ])
  refine wpAnyH_take (i := 2) (oi := { dst := some 48, op := Go.Op.move (Go.Operand.tmp 7), type := 3, pos := "slices.go:154", after := #[], guard := none }) (v := ?_) rfl (by kernel_rfl) (by kernel_rfl) (by kernel_rfl) (fun _ _ _ h => h) (Or.inl ⟨by rfl, ?_⟩) (by assumption) ?_
  rotate_left 1
  · intro w' hSw; (go_simp <;> (with_reducible rfl))
  (try simp only [Act.put, List.setIfInBounds_toArray, List.set_cons_zero, List.set_cons_succ])
  refine wpAnyH_take (i := 3) (oi := { dst := some 49, op := Go.Op.binOp Go.BinOp.add 3 (Go.Operand.tmp 47) (Go.Operand.tmp 48) 3, type := 3, pos := "slices.go:154", after := #[{ on := 1, ground := Go.Ground.data }, { on := 2, ground := Go.Ground.data }], guard := none }) (v := ?_) rfl (by kernel_rfl) (by kernel_rfl) (by kernel_rfl) (fun _ _ _ h => h) (Or.inl ⟨by rfl, ?_⟩) (by assumption) ?_
  rotate_left 1
  · intro w' hSw; (go_simp <;> (with_reducible rfl))
  (try simp only [Act.put, List.setIfInBounds_toArray, List.set_cons_zero, List.set_cons_succ])
  refine wpAnyH_take (i := 4) (oi := { dst := some 50, op := Go.Op.slice 57 (Go.Operand.tmp 46) (some (Go.Operand.tmp 49)) none none, type := 57, pos := "slices.go:154", after := #[{ on := 0, ground := Go.Ground.data }, { on := 3, ground := Go.Ground.data }], guard := none }) (v := ?_) rfl (by kernel_rfl) (by kernel_rfl) (by kernel_rfl) (fun _ _ _ h => h) (Or.inl ⟨by rfl, ?_⟩) (by assumption) ?_
  rotate_left 1
  · intro w' hSw; (go_simp <;> (with_reducible rfl))
  (try simp only [Act.put, List.setIfInBounds_toArray, List.set_cons_zero, List.set_cons_succ])
  refine wpAnyH_take (i := 5) (oi := { dst := some 51, op := Go.Op.move (Go.Operand.tmp 0), type := 57, pos := "slices.go:154", after := #[], guard := none }) (v := ?_) rfl (by kernel_rfl) (by kernel_rfl) (by kernel_rfl) (fun _ _ _ h => h) (Or.inl ⟨by rfl, ?_⟩) (by assumption) ?_
  rotate_left 1
  · intro w' hSw; (go_simp <;> (with_reducible rfl))
  (try simp only [Act.put, List.setIfInBounds_toArray, List.set_cons_zero, List.set_cons_succ])
  refine wpAnyH_take (i := 6) (oi := { dst := some 52, op := Go.Op.move (Go.Operand.tmp 1), type := 3, pos := "slices.go:154", after := #[], guard := none }) (v := ?_) rfl (by kernel_rfl) (by kernel_rfl) (by kernel_rfl) (fun _ _ _ h => h) (Or.inl ⟨by rfl, ?_⟩) (by assumption) ?_
  rotate_left 1
  · intro w' hSw; (go_simp <;> (with_reducible rfl))
  (try simp only [Act.put, List.setIfInBounds_toArray, List.set_cons_zero, List.set_cons_succ])
  refine wpAnyH_take (i := 7) (oi := { dst := some 53, op := Go.Op.slice 57 (Go.Operand.tmp 51) (some (Go.Operand.tmp 52)) none none, type := 57, pos := "slices.go:154", after := #[{ on := 5, ground := Go.Ground.data }, { on := 6, ground := Go.Ground.data }], guard := none }) (v := ?_) rfl (by kernel_rfl) (by kernel_rfl) (by kernel_rfl) (fun _ _ _ h => h) (Or.inl ⟨by rfl, ?_⟩) (by assumption) ?_
  rotate_left 1
  · intro w' hSw; (go_simp <;> (with_reducible rfl))
  (try simp only [Act.put, List.setIfInBounds_toArray, List.set_cons_zero, List.set_cons_succ])
  refine wpAnyH_ready (rs := [8]) (by kernel_rfl) (by simp) ?_
  refine AllReadyH.cons (o := { dst := some 54, op := Go.Op.call { callee := Go.Callee.builtin Go.Builtin.copy, args := #[Go.Operand.tmp 50, Go.Operand.tmp 53], argTypes := #[57, 57] }, type := 3, pos := "slices.go:154", after := #[{ on := 4, ground := Go.Ground.data }, { on := 7, ground := Go.Ground.data }], guard := none }) rfl (fun K hK => ?_) AllReadyH.nil
  go_simp
  skip
  refine hK.out _ _ ?_ (fun hHeld => ?_)
  · exact trivial
  clear hK K
  (try simp only [Act.put, List.setIfInBounds_toArray, List.set_cons_zero, List.set_cons_succ])
  refine wpAnyH_done (by kernel_rfl) ?_ _
  clear hHeld
  go_wp2_with fail
  go_ret
  exact HW.out
set_option maxHeartbeats 1000000 in
theorem ins_inA (g o n c i z : Nat) (a : Int × Int) (M : AL) (w : World) (h : RowV w 65 2 g o n (flatA M) c) (hn : M.length = n) (hb : n ≤ 1000000) (hz : LitA w z a) (hgz : g ≠ z) (hi : i < n) (hc : n + 1 ≤ c) :
    Calls Try.prog 33 #[.slice (some ⟨g, o, none⟩) n c, .int .i64 (i : Int), .slice (some ⟨z, 0, none⟩) 1 1] w (RowIsA (.slice (some ⟨g, o, none⟩) n c) (insL i a M) w) := by
  have hnc : n ≤ c := by omega
  have hcm : c ≤ maxLen := by obtain ⟨_, _, _, _, _, h, _⟩ := h; exact h
  obtain ⟨C, hg, hC, hfl0, _, _, hcl⟩ := id h
  have hfl := flatA_length M
  have hcut1 := run_cut_from (P := Try.prog) Try.underlying57 info_walarm g o n c i (by omega) (by omega)
  have hcut2 := run_cut_to (P := Try.prog) Try.underlying57 info_walarm g o n c (n + 1) (by omega) (by omega)
  have hcut3 := run_cut_from (P := Try.prog) Try.underlying57 info_walarm g o (n + 1) c (i + 1) (by omega) (by omega)
  have hcut4 := run_cut_from (P := Try.prog) Try.underlying57 info_walarm g o (n + 1) c i (by omega) (by omega)
  have hzl := lt_of_block hz
  have hov := Lib.run_overlaps_apart (P := Try.prog) w 57 4 65 Try.underlying57 2 Try.sizeOf65 ⟨z, 0, none⟩ ⟨g, o + (i + 1) * 2, none⟩ 1 1 (n + 1 - (i + 1)) (c - (i + 1)) (fun e => hgz e.symm) 65 65 2 C.size
    (by unfold LitA at hz; simp [World.shape?, hz]) (by simp [World.shape?, hg]) (by omega) (blk_free hz _) (blk_free hz _)
  have hgd : w.drew.heap[g]? = some (.cells C 65 (0, 0)) := hg
  have hd := (h.drop (k := i) (by omega)).of_block (w' := w.drew) rfl
  have hr2 := run_copy_sz (P := Try.prog) Try.underlying57 info_walarm w.drew 3 g (o + (i + 1) * 2) (n + 1 - (i + 1)) (c - (i + 1)) g (o + i * 2) (n + 1 - i) (c - i) (n - i) (show min (n + 1 - i) (n + 1 - (i + 1)) = n - i by omega) C hgd ((flatA M).drop (i * 2)) (by rw [List.length_drop, hfl]; omega)
    (fun j u hj => by
      obtain ⟨hjl, he⟩ := List.getElem?_eq_some_iff.1 hj
      rw [hd.cell hjl, he]) (fun u hu => flatA_one M u (List.mem_of_mem_drop hu)) (by rw [List.length_drop, hfl]; omega)
  obtain ⟨C2, d1, d2, d3, d4, d5⟩ := setCells_blk hgd (o + (i + 1) * 2) ((flatA M).drop (i * 2)) (by rw [List.length_drop, hfl]; omega)
  obtain ⟨w2, ew2⟩ : ∃ w2, w.drew.setCells g (o + (i + 1) * 2) ((flatA M).drop (i * 2)) = w2 := ⟨_, rfl⟩
  rw [ew2] at hr2 d1 d5
  have hzd : LitA w.drew z a := hz
  have hz2 : LitA w2 z a := d5.blk hzd (fun e => hgz e.symm)
  have hlit : ∀ (j : Nat) u, [Value.int .u64 a.2, .int .u64 a.1][j]? = some u → w2.cell? ⟨z, 0 + j, none⟩ = some u := fun j u hj => by
    rw [blk_cell hz2, Nat.zero_add]
    simpa using hj
  have hr3 := run_copy_sz (P := Try.prog) Try.underlying57 info_walarm w2 3 g (o + i * 2) (n + 1 - i) (c - i) z 0 1 1 1 (show min 1 (n + 1 - i) = 1 by omega) C2 d1 [.int .u64 a.2, .int .u64 a.1] rfl hlit (by intro u hu; simp at hu; rcases hu with rfl | rfl <;> rfl) (by simp; omega)
  obtain ⟨C3, f1, f2, f3, f4, f5⟩ := setCells_blk d1 (o + i * 2) [.int .u64 a.2, .int .u64 a.1] (by simp; omega)
  obtain ⟨w3, ew3⟩ : ∃ w3, w2.setCells g (o + i * 2) [.int .u64 a.2, .int .u64 a.1] = w3 := ⟨_, rfl⟩
  rw [ew3] at hr3 f1 f5
  have hlen := insL_length i a M (by omega)
  rw [hn] at hlen
  have hL := ins_get (i := i) (a := a) (M := M) (by omega)
  have HW := Lib.hid (show RowIsA (.slice (some ⟨g, o, none⟩) n c) (insL i a M) w (.returned (.slice (some ⟨g, o, none⟩) (n + 1) c)) w3 from by
    refine ⟨some ⟨g, o, none⟩, c, by rw [hlen], ?_, ?_, fun b hb => .inl hb⟩
    · rw [hlen]
      refine .inr ⟨g, o, c, rfl, C3, f1, by omega, by rw [flatA_length, hlen], hc, hcm, fun j hj => ?_⟩
      rw [flatA_length, hlen] at hj
      rw [List.length_drop, hfl] at d4 d3
      simp only [List.length_cons, List.length_nil] at f3 f4
      rw [hL j]
      by_cases h1 : j < i * 2
      · rw [if_pos h1, f4 _ (by omega), d4 _ (by omega), hcl _ (by omega)]
      · rw [if_neg h1]
        by_cases h2 : j < i * 2 + 2
        · rw [if_pos h2, ← f3 (j - i * 2) (by omega)]
          congr 1
          omega
        · rw [if_neg h2]
          have := d3 (j - i * 2 - 2) (by omega)
          rw [List.getElem?_drop] at this
          rw [show i * 2 + (j - i * 2 - 2) = j - 2 by omega] at this
          rw [← this, ← f4 _ (by omega)]
          congr 1
          omega
    · exact (((But.refl _ w).drew.trans (d5.mono (fun k _ e => by rw [e]; rfl))).trans (f5.mono (fun k _ e => by rw [e]; rfl))))
  rw [show n + 1 - (i + 1) = n - i by omega] at hov hr2 hcut3
  have Hr2 := Lib.hid hr2
  have Hr3 := Lib.hid hr3
  have Hov := Lib.hid hov
  have hne : (((i : Int)) == (n : Int)) = false := by simp; omega
  rw [show (((i + 1 : Nat)) : Int) = (i : Int) + 1 by omega] at hcut3
  rw [show (((n + 1 : Nat)) : Int) = (n : Int) + 1 by omega] at hcut2
  have hw1 : IntKind.i64.wrap ((n : Int) + 1) = (n : Int) + 1 := by rw [IntKind.wrap_i64]; omega
  have hw3 : IntKind.i64.wrap ((i : Int) + 1) = (i : Int) + 1 := by rw [IntKind.wrap_i64]; omega
  have hlt : ¬ (c : Int) < (n : Int) + 1 := by omega
  clear hr2 hr3 hov hlit d1 d2 d3 d4 d5 f1 f2 f3 f4 f5 ew2 ew3 hz2 hzd hzl hlen hL hgd hd hfl hcl hfl0 hC hg h hn hz hnc hcm
  go_enter Try.func33, Try.ntmps33
  go_wp2_with fail
  rw [run_callFunc_extern Try.func38 (by kernel_rfl) (by kernel_rfl) (by kernel_rfl) (e := Extern.SlicesOverlaps.overlaps #[57, 57] #[4]) (by kernel_rfl), Hov.out]
  simp only [Result.andThen]
  rw [Oper.upon_value]
  have hr2 := Hr2.out
  have hr3 := Hr3.out
  go_wp2_with fail
  refine wp_region_held_drew (S := fun w' => True) (by kernel_rfl) trivial (fun hHeld => ?_)
  refine wpAnyH_take (i := 0) (oi := { dst := some 69, op := Go.Op.move (Go.Operand.tmp 0), type := 57, pos := "slices.go:178", after := #[], guard := none }) (v := ?_) rfl (by kernel_rfl) (by kernel_rfl) (by kernel_rfl) (fun _ _ _ h => h) (Or.inl ⟨by rfl, ?_⟩) (by assumption) ?_
  rotate_left 1
  · intro w' hSw; (go_simp <;> (with_reducible rfl))
  (try simp only [Act.put, List.setIfInBounds_toArray, List.set_cons_zero, List.set_cons_succ])
  refine wpAnyH_take (i := 1) (oi := { dst := some 70, op := Go.Op.move (Go.Operand.tmp 1), type := 3, pos := "slices.go:178", after := #[], guard := none }) (v := ?_) rfl (by kernel_rfl) (by kernel_rfl) (by kernel_rfl) (fun _ _ _ h => h) (Or.inl ⟨by rfl, ?_⟩) (by assumption) ?_
  rotate_left 1
  · intro w' hSw; (go_simp <;> (with_reducible rfl))
  (try simp only [Act.put, List.setIfInBounds_toArray, List.set_cons_zero, List.set_cons_succ])
  refine wpAnyH_take (i := 2) (oi := { dst := some 71, op := Go.Op.move (Go.Operand.tmp 7), type := 3, pos := "slices.go:178", after := #[], guard := none }) (v := ?_) rfl (by kernel_rfl) (by kernel_rfl) (by kernel_rfl) (fun _ _ _ h => h) (Or.inl ⟨by rfl, ?_⟩) (by assumption) ?_
  rotate_left 1
  · intro w' hSw; (go_simp <;> (with_reducible rfl))
  (try simp only [Act.put, List.setIfInBounds_toArray, List.set_cons_zero, List.set_cons_succ])
  refine wpAnyH_take (i := 3) (oi := { dst := some 72, op := Go.Op.binOp Go.BinOp.add 3 (Go.Operand.tmp 70) (Go.Operand.tmp 71) 3, type := 3, pos := "slices.go:178", after := #[{ on := 1, ground := Go.Ground.data }, { on := 2, ground := Go.Ground.data }], guard := none }) (v := ?_) rfl (by kernel_rfl) (by kernel_rfl) (by kernel_rfl) (fun _ _ _ h => h) (Or.inl ⟨by rfl, ?_⟩) (by assumption) ?_
  rotate_left 1
  · intro w' hSw; (go_simp <;> (with_reducible rfl))
  (try simp only [Act.put, List.setIfInBounds_toArray, List.set_cons_zero, List.set_cons_succ])
  refine wpAnyH_take (i := 4) (oi := { dst := some 73, op := Go.Op.slice 57 (Go.Operand.tmp 69) (some (Go.Operand.tmp 72)) none none, type := 57, pos := "slices.go:178", after := #[{ on := 0, ground := Go.Ground.data }, { on := 3, ground := Go.Ground.data }], guard := none }) (v := ?_) rfl (by kernel_rfl) (by kernel_rfl) (by kernel_rfl) (fun _ _ _ h => h) (Or.inl ⟨by rfl, ?_⟩) (by assumption) ?_
  rotate_left 1
  · intro w' hSw; (go_simp <;> (with_reducible rfl))
  (try simp only [Act.put, List.setIfInBounds_toArray, List.set_cons_zero, List.set_cons_succ])
  refine wpAnyH_take (i := 5) (oi := { dst := some 74, op := Go.Op.move (Go.Operand.tmp 0), type := 57, pos := "slices.go:178", after := #[], guard := none }) (v := ?_) rfl (by kernel_rfl) (by kernel_rfl) (by kernel_rfl) (fun _ _ _ h => h) (Or.inl ⟨by rfl, ?_⟩) (by assumption) ?_
  rotate_left 1
  · intro w' hSw; (go_simp <;> (with_reducible rfl))
  (try simp only [Act.put, List.setIfInBounds_toArray, List.set_cons_zero, List.set_cons_succ])
  refine wpAnyH_take (i := 6) (oi := { dst := some 75, op := Go.Op.move (Go.Operand.tmp 1), type := 3, pos := "slices.go:178", after := #[], guard := none }) (v := ?_) rfl (by kernel_rfl) (by kernel_rfl) (by kernel_rfl) (fun _ _ _ h => h) (Or.inl ⟨by rfl, ?_⟩) (by assumption) ?_
  rotate_left 1
  · intro w' hSw; (go_simp <;> (with_reducible rfl))
  (try simp only [Act.put, List.setIfInBounds_toArray, List.set_cons_zero, List.set_cons_succ])
  refine wpAnyH_take (i := 7) (oi := { dst := some 76, op := Go.Op.slice 57 (Go.Operand.tmp 74) (some (Go.Operand.tmp 75)) none none, type := 57, pos := "slices.go:178", after := #[{ on := 5, ground := Go.Ground.data }, { on := 6, ground := Go.Ground.data }], guard := none }) (v := ?_) rfl (by kernel_rfl) (by kernel_rfl) (by kernel_rfl) (fun _ _ _ h => h) (Or.inl ⟨by rfl, ?_⟩) (by assumption) ?_
  rotate_left 1
  · intro w' hSw; (go_simp <;> (with_reducible rfl))
  (try simp only [Act.put, List.setIfInBounds_toArray, List.set_cons_zero, List.set_cons_succ])
  refine wpAnyH_ready (rs := [8]) (by kernel_rfl) (by simp) ?_
  refine AllReadyH.cons (o := { dst := some 77, op := Go.Op.call { callee := Go.Callee.builtin Go.Builtin.copy, args := #[Go.Operand.tmp 73, Go.Operand.tmp 76], argTypes := #[57, 57] }, type := 3, pos := "slices.go:178", after := #[{ on := 4, ground := Go.Ground.data }, { on := 7, ground := Go.Ground.data }], guard := none }) rfl (fun K hK => ?_) AllReadyH.nil
  go_simp
  skip
  refine hK.out _ _ ?_ (fun hHeld => ?_)
  · exact trivial
  clear hK K
  (try simp only [Act.put, List.setIfInBounds_toArray, List.set_cons_zero, List.set_cons_succ])
  refine wpAnyH_done (by kernel_rfl) ?_ _
  clear hHeld
  go_wp2_with fail
  go_ret
  exact HW.out
theorem ins_anyA (A : Option Addr) (n c i z : Nat) (a : Int × Int) (M : AL) (w : World) (h : SlV w 65 2 (.slice A n c) n (flatA M)) (hn : M.length = n) (hb : n ≤ 1000000) (hz : LitA w z a) (hzv : (Value.slice A n c).ownBlock ≠ some z) (hi : i ≤ n) :
    Calls Try.prog 33 #[.slice A n c, .int .i64 (i : Int), .slice (some ⟨z, 0, none⟩) 1 1] w (RowIsA (.slice A n c) (insL i a M) w) := by
  by_cases hin : i = n
  · subst hin
    exact ins_endA A i c z a M w h hn hb hz
  · rcases id h with ⟨e, en, _⟩ | ⟨g, o, c', e, hr⟩
    · omega
    · injection e with e1 e2 e3
      subst e1; subst e3
      by_cases hc : n + 1 ≤ c
      · exact ins_inA g o n c i z a M w hr hn hb hz (fun e => hzv (by rw [e]; rfl)) (by omega) hc
      · exact ins_growA g o n c i z a M w hr hn hb hz (by omega) (by omega)
end Go.Proofs.Ytlpgabbnldalhaa
