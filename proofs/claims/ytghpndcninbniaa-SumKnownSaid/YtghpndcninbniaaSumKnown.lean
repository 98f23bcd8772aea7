/-
  SumKnown holds: the chapter's rows; the sum of nothing and of noughts; a row of 131072 bytes ff. A closed statement: no condition.
-/
import Derived.Test.YtghpndcninbniaaSumPseudo
namespace Go.Proofs.Ytghpndcninbniaa.sumKnown
open Go.ChangeShapes Go.WideShapes Go.ChangeAt Go.RowKit
set_option linter.unusedVariables false

theorem make_bytes (m : Nat) (hm : m ≤ 2147483647) (w : World) :
    (Instr.makeSlice 23 (.int .i64 (m : Int)) (.int .i64 (m : Int))).run Try.prog w = .ok (.slice (some ⟨w.heap.size, 0, none⟩) m m) (w.alloc (.cells (madeCells (Value.int .u8 0).cells m) 5)) := by
  obtain ⟨i0, hi, hz0, hz1, hz2⟩ := info_parts info5
  have h := run_make (P := Try.prog) w 23 5 i0 (.int .u8 0) Try.underlying23 hi hz0 .i64 .i64 (m : Int) (m : Int) (by omega) (by omega) (by rw [hz2]; omega) (by omega)
  rw [hz1] at h
  simpa using h

theorem flat1 (l : List Int) : [l].flatten = l := by simp
theorem ws_ff (k : Nat) : ws false (List.replicate (2 * k) 255) = 65535 * (k : Int) := by
  induction k with
  | zero => rfl
  | succ k ih => rw [show 2 * (k + 1) = (2 * k + 1) + 1 by omega, List.replicate_succ, List.replicate_succ]; simp only [ws]; rw [ih]; omega
theorem ws_oo (k : Nat) (p : Bool) : ws p (List.replicate k 0) = 0 := by
  induction k generalizing p with
  | zero => cases p <;> rfl
  | succ k ih => rw [List.replicate_succ]; cases p <;> simp only [ws] <;> rw [ih] <;> rfl

theorem blk_cell {w : World} {g : Nat} {C : Array Value} {t : TypeId} (h : w.heap[g]? = some (.cells C t (0, 0))) (i : Nat) : w.cell? ⟨g, i, none⟩ = C[i]? := by simp [World.cell?, h]
theorem blk_free {w : World} {g : Nat} {C : Array Value} {t : TypeId} (h : w.heap[g]? = some (.cells C t (0, 0))) (i : Nat) : w.frozen? ⟨g, i, none⟩ = false := by simp [World.frozen?, h]
theorem blk_set {w : World} {g : Nat} {C : Array Value} {t : TypeId} (h : w.heap[g]? = some (.cells C t (0, 0))) (i : Nat) (u : Value) : (w.setCell ⟨g, i, none⟩ u).heap[g]? = some (.cells (C.setIfInBounds i u) t (0, 0)) := by
  simp [World.setCell, Array.getElem?_modify, h]
theorem blk_lt {w : World} {g : Nat} {o : Obj} (h : w.heap[g]? = some o) : g < w.heap.size := by
  rcases Nat.lt_or_ge g w.heap.size with h' | h'
  · exact h'
  · rw [Array.getElem?_eq_none h'] at h; cases h

theorem made_size (m : Nat) : (madeCells (Value.int .u8 0).cells m).size = m := by simp [size_madeCells, Value.cells]

/-- How far the row has been filled. -/
structure Filled (w : World) (m k : Nat) (wr : World) : Prop where
  blk : ∃ C, wr.heap[w.heap.size]? = some (.cells C 5 (0, 0)) ∧ C.size = m ∧ ∀ j, j < k → C[j]? = some (.int .u8 255)
  below : Below w.heap.size w wr
theorem Filled.start (w : World) (m : Nat) : Filled w m 0 (w.alloc (.cells (madeCells (Value.int .u8 0).cells m) 5)) :=
  ⟨⟨_, heap_alloc_new w _, made_size m, fun _ h => by omega⟩, (Below.refl _ _).alloc (Nat.le_refl _) _⟩
theorem Filled.cell {w : World} {m k : Nat} {wr : World} (h : Filled w m k wr) (hk : k < m) : ∃ v, wr.cell? ⟨w.heap.size, k, none⟩ = some v ∧ wr.frozen? ⟨w.heap.size, k, none⟩ = false := by
  obtain ⟨C, h1, h2, _⟩ := h.blk
  exact ⟨C[k]'(by omega), by rw [blk_cell h1, Array.getElem?_eq_getElem (by omega)], blk_free h1 _⟩
theorem Filled.next {w : World} {m k : Nat} {wr : World} (h : Filled w m k wr) (hk : k < m) : Filled w m (k + 1) (wr.setCell ⟨w.heap.size, k, none⟩ (.int .u8 255)) := by
  obtain ⟨C, h1, h2, h3⟩ := h.blk
  refine ⟨⟨_, blk_set h1 k _, by simpa using h2, fun j hj => ?_⟩, h.below.setCell (Nat.le_refl _) _⟩
  rw [Array.getElem?_setIfInBounds]
  by_cases e : k = j
  · subst e; rw [if_pos rfl, if_pos (by omega)]
  · rw [if_neg e]; exact h3 j (by omega)
theorem Filled.rd {w : World} {m : Nat} {wr : World} (h : Filled w m m wr) : Rd wr (some ⟨w.heap.size, 0, none⟩) m (List.replicate m 255) := by
  obtain ⟨C, h1, h2, h3⟩ := h.blk
  refine ⟨by simp, fun x hx => by rw [List.eq_of_mem_replicate hx]; omega, fun _ => ⟨_, 0, rfl, blk_lt h1, fun i hi => ?_⟩⟩
  rw [blk_cell h1, Nat.zero_add, h3 i hi]
  simp [List.getD, hi]

theorem made_rd (w : World) (m : Nat) : Rd (w.alloc (.cells (madeCells #[Value.int .u8 0] m) 5)) (some ⟨w.heap.size, 0, none⟩) m (List.replicate m 0) := by
  refine ⟨by simp, fun x hx => by rw [List.eq_of_mem_replicate hx]; omega, fun _ => ⟨_, 0, rfl, by simp, fun i hi => ?_⟩⟩
  rw [blk_cell (heap_alloc_new w _), Nat.zero_add, ← Array.getElem?_toList, toList_madeCells_one]
  simp [List.getD, hi]
theorem made_rd_ (w : World) (g : Nat) (hg : w.heap.size = g) (m : Nat) : Rd (w.alloc (.cells (madeCells #[Value.int .u8 0] m) 5)) (some ⟨g, 0, none⟩) m (List.replicate m 0) := by subst hg; exact made_rd w m

theorem rdl_none (w : World) : RdL w none 0 [] := ⟨rfl, fun h => absurd h (by omega)⟩

/-- Four parts of which the second is none. -/
theorem four (w : World) : RdL ((((w.alloc (.cells #[.int .u8 1] 5)).alloc (.cells #[.int .u8 2] 5)).alloc (.cells #[.int .u8 3] 5)).alloc (.cells #[.slice (some ⟨w.heap.size, 0, none⟩) 1 1, .slice none 0 0, .slice (some ⟨w.heap.size + 1, 0, none⟩) 1 1, .slice (some ⟨w.heap.size + 1 + 1, 0, none⟩) 1 1] 23)) (some ⟨w.heap.size + 1 + 1 + 1, 0, none⟩) 4 [[1], [], [2], [3]] := by
  refine RdL.row _ _ (by simp) _ _ [_, _, _, _] [[1], [], [2], [3]] (fun i hi => ?_)
  have h1 := ((Rd.const_ w _ rfl [1] 5 (0, 0) (by decide)).below ((Below.refl _ _).alloc (Nat.le_refl _) (.cells #[.int .u8 2] 5))).below ((Below.refl _ _).alloc (Nat.le_refl _) (.cells #[.int .u8 3] 5))
  have h2 := (Rd.const_ (w.alloc (.cells #[.int .u8 1] 5)) (w.heap.size + 1) (by simp) [2] 5 (0, 0) (by decide)).below ((Below.refl _ _).alloc (Nat.le_refl _) (.cells #[.int .u8 3] 5))
  have h3 := Rd.const_ ((w.alloc (.cells #[.int .u8 1] 5)).alloc (.cells #[.int .u8 2] 5)) (w.heap.size + 1 + 1) (by simp) [3] 5 (0, 0) (by decide)
  simp at hi
  obtain rfl | rfl | rfl | rfl : i = 0 ∨ i = 1 ∨ i = 2 ∨ i = 3 := by omega
  · exact ⟨_, 1, rfl, by simp, by simp [maxLen], h1⟩
  · exact ⟨_, 0, rfl, by simp, by simp [maxLen], Rd.nil _ _⟩
  · exact ⟨_, 1, rfl, by simp, by simp [maxLen], h2⟩
  · exact ⟨_, 1, rfl, by simp, by simp [maxLen], h3⟩

set_option maxHeartbeats 4000000 in
theorem walk (w : World) :
    Calls Try.prog 9 #[] w fun e w' => e = .returned (.bool true) ∧ Below w.heap.size w w' := by
  obtain ⟨m, em⟩ : ∃ m : Nat, m = 131072 := ⟨_, rfl⟩
  have hmk : ∀ w, (Instr.makeSlice 23 (.int .i64 131072) (.int .i64 131072)).run Try.prog w = .ok (.slice (some ⟨w.heap.size, 0, none⟩) m m) (w.alloc (.cells (madeCells (Value.int .u8 0).cells m) 5)) := fun w => by
    have := make_bytes m (by omega) w
    rw [show ((m : Nat) : Int) = 131072 by omega] at this
    exact this
  have hmk2 : ∀ w, (Instr.makeSlice 23 (.int .i64 99) (.int .i64 99)).run Try.prog w = .ok (.slice (some ⟨w.heap.size, 0, none⟩) 99 99) (w.alloc (.cells (madeCells (Value.int .u8 0).cells 99) 5)) := fun w => make_bytes 99 (by omega) w
  have hsum : Hid (sumL [List.replicate m 255].flatten = 65535) := by
    show _ = _
    subst em
    rw [flat1]
    unfold sumL
    exact (congrArg fold16 (ws_ff 65536)).trans (by decide)
  have hm : m ≤ 131072 := by omega
  have hm0 : Hid (m = 131072) := em
  clear em
  go_enter Try.func9, Try.ntmps9
  go_wp2_with fail
  go_loopg [2] m (fun gk i wr => ∃ k : Nat, Hid (gk + k = m) ∧ k ≤ m ∧ i = .int .i64 (k : Int) ∧ Filled w m k wr)
  case atStart => exact ⟨0, rfl, Nat.zero_le _, rfl, Filled.start w m⟩
  case round =>
    obtain ⟨k, hgk, hk, rfl, hfill⟩ := hrel
    by_cases hlt : k < m
    · obtain ⟨v, hc, hf⟩ := hfill.cell hlt
      go_wp2_with fail
      go_roundg (gk - 1)
      case measure => have := hgk.out; omega
      case rel => exact ⟨k + 1, by have := hgk.out; show gk - 1 + (k + 1) = _; omega, by omega, by go_num, hfill.next hlt⟩
    · obtain rfl : k = m := by omega
      have hr := hfill.rd
      have hB := hfill.below
      clear hfill hmk
      go_wp2_with fail
      refine (sum_told _ 0 0 [] _ 0 (by omega) (rdl_none _) (by decide)).mono ?_
      rintro e w1 ⟨rfl, hb⟩
      have hr := hr.below hb
      have hB := below_trans hB hb
      clear hb
      go_wp2_with fail
      refine (field_told _ 0 0 [] _ 65535 (by omega) (rdl_none _) (by decide)).mono ?_
      rintro e w2 ⟨rfl, hb⟩
      have hr := hr.below hb
      have hB := below_trans hB hb
      clear hb
      go_wp2_with fail
      refine (right_told _ 0 0 [] _ false (by omega) (rdl_none _) (by decide)).mono ?_
      rintro e w3 ⟨rfl, hb⟩
      have hr := hr.below hb
      have hB := below_trans hB hb
      clear hb
      go_wp2_with fail
      refine (sum_told _ 1 1 [List.replicate 99 0] _ 0 (by omega) (RdL.one _ _ (by simp) _ _ _ 99 99 _ (made_rd_ _ _ rfl 99) (by omega) (by simp [maxLen])) (by rw [flat1]; unfold sumL; rw [ws_oo]; rfl)).mono ?_
      rintro e w4 ⟨rfl, hb⟩
      have hr := hr.below ((((Below.refl _ _).alloc (Nat.le_refl _) _).alloc (by simp) _).trans (hb.mono (by simp <;> omega)))
      have hB := below_trans ((hB.alloc (by have := hB.size; simp <;> omega) _).alloc (by have := hB.size; simp <;> omega) _) hb
      clear hb
      go_wp2_with fail
      refine (sum_told _ 1 1 [List.replicate k 255] _ 65535 (by omega) (RdL.one _ _ rfl _ _ _ k k _ hr (by omega) (by unfold maxLen; omega)) hsum.out).mono ?_
      rintro e w5 ⟨rfl, hb⟩
      have hr := hr.below (((Below.refl _ _).alloc (Nat.le_refl _) _).trans (hb.mono (by simp <;> omega)))
      have hB := below_trans (hB.alloc (by have := hB.size; simp <;> omega) _) hb
      clear hb
      go_wp2_with fail
      refine (right_told _ 1 1 [List.replicate k 255] _ true (by omega) (RdL.one _ _ rfl _ _ _ k k _ hr (by omega) (by unfold maxLen; omega)) (by rw [hsum.out]; rfl)).mono ?_
      rintro e w6 ⟨rfl, hb⟩
      have hB := below_trans (hB.alloc (by have := hB.size; simp <;> omega) _) hb
      clear hb
      clear hr hsum hm0
      go_wp2_with fail
      refine (sum_told _ 4 4 [[1], [], [2], [3]] _ 1026 (by omega) (four _) (by decide)).mono ?_
      rintro e w7 ⟨rfl, hb⟩
      have hB := below_trans ((((hB.alloc (by have := hB.size; simp <;> omega) _).alloc (by have := hB.size; simp <;> omega) _).alloc (by have := hB.size; simp <;> omega) _).alloc (by have := hB.size; simp <;> omega) _) hb
      clear hb
      have hp12 : pseudoL 16909060 84281096 9 2571 = [1, 2, 3, 4, 5, 6, 7, 8, 0, 9, 10, 11] := by decide
      have hpa := pseudo_any 16909060 84281096 9 2571 w7 (by omega)
      rw [hp12] at hpa
      clear hp12
      have Hpa := Lib.hid hpa
      clear hpa
      have hs : ((strOfNums [1, 2, 3, 4, 5, 6, 7, 8, 0, 9, 10, 11]).toList == [1, 2, 3, 4, 5, 6, 7, 8, 0, 9, 10, 11]) = true := by rw [ByteArray.toList_eq]; decide
      go_wp2_with fail
      refine Hpa.out.mono ?_
      rintro e w8 ⟨A8, c8, rfl, -, hr8, hb⟩
      have hcv := conv_rd hr8 c8
      have hB := below_trans hB hb
      clear hb
      go_wp2_with (go_at_call 16; refine (wakes_any _).mono ?_; rintro e w9 ⟨rfl, hbel⟩)
      go_ret
      exact ⟨rfl, below_trans hB hbel⟩

theorem own : ownKnob Try.prog.godebug = none := by kernel_rfl
theorem laidOut : laidOutB Try.prog = true := by kernel_rfl

set_option maxRecDepth 100000 in
theorem lifted (os : Os) (started : os.Started) (H : Type) (enc : TypeId × Value → H) :
    ReturnsInHanded {} Try.checked os 9 .any (Rows.sumKnownSpec.pre6 enc Try.prog Try.f9 Rows.sumKnownRow.domain false) (Rows.sumKnownSpec.post enc Try.prog Try.f9 false true false false) := by
  refine returnsInHanded_of_change (C := Try.checked) own started (by kernel_rfl) Try.func9
    (ChangeSpec.witness6 (enc := enc) (C := Try.checked) false ⟨#[], #[], []⟩ 8 (by kernel_rfl) (by kernel_rfl) (by kernel_rfl) (by kernel_rfl)) ?_
  intro W base args ds gs before hval0 hW hcnd _
  have hval : ∀ (j : Nat) t v, Try.f9.params[j]? = some t → args[j]? = some v → Value.okWide Try.prog W .any base t v := hval0
  have hW' := hW
  obtain ⟨p, q, hA0, hV, rfl, hfz, hnd⟩ := hW
  have hA : DataW.TrodAll enc Try.prog W 0 (fun _ => true) true Try.f9.params.toList args.toList ds p := hA0
  rw [Try.params9] at hA hval
  obtain ⟨rfl, rfl, rfl⟩ := trodAll_none hA
  obtain ⟨rfl, rfl⟩ := trodVars_none hV
  clear hA0 hval0
  refine (walk W ).mono fun e W' ⟨he, bel⟩ => ?_
  subst he
  exact ⟨_, rfl, _, _, _, [], _, [], hW', trodAll_mk1 (shut_bool Try.underlying4 _), trodAll_mk0, rfl, bel.frame _, fun h => by cases h⟩

theorem over : Rows.sumKnownRow.holds Try.pinned (OpenSpec.ofChange Rows.sumKnownSpec) :=
  OpenClaim.holds_of_wide 9 Try.f9 rfl rfl rfl rfl rfl rfl rfl ⟨rfl, rfl, rfl, rfl, rfl⟩ rfl rfl rfl rfl rfl (by kernel_rfl) Try.func9 (by kernel_rfl)
    (of_decide_eq_true (by kernel_rfl)) (by unfold Func.isWrapper; first | (rw [if_pos (by decide +kernel)]; kernel_rfl) | (rw [if_neg (by decide +kernel)]; exact ⟨rfl, rfl⟩))
    (fun os started H enc _ => lifted os started H enc)

/-- The statement. -/
theorem proved : Rows.SumKnownSaid := over
#print axioms proved
end Go.Proofs.Ytghpndcninbniaa.sumKnown
