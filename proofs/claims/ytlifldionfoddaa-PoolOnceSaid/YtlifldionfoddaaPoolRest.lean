/-
  The contract of package pool's layToRest.
-/
import Derived.Test.YtlifldionfoddaaPoolLay
namespace Go.Proofs.Ytlifldionfoddaa
set_option maxRecDepth 10000
open Go.RowKit
set_option linter.unusedSimpArgs false
set_option linter.unusedVariables false

theorem mem_append_new {L : List (Int × List Nat)} {E : Int} {i : Nat} (hno : ¬ ∃ ps, (E, ps) ∈ L) : ∀ a ps, (a, ps) ∈ L ++ [(E, [i])] ↔ (a ≠ E ∧ (a, ps) ∈ L) ∨ (a = E ∧ ps = [] ++ [i]) := by
  intro a ps
  simp only [List.mem_append, List.mem_singleton, Prod.mk.injEq, List.nil_append]
  constructor
  · rintro (h | h)
    · exact .inl ⟨fun e => hno ⟨ps, by rw [← e]; exact h⟩, h⟩
    · exact .inr h
  · rintro (h | h)
    · exact .inl h.2
    · exact .inr h
theorem mem_append_old {L0 : List (Int × List Nat)} {E : Int} {i : Nat} {ps0 : List Nat} (hs : (L0 ++ [(E, ps0)]).Pairwise (fun a b => a.1 < b.1)) : ∀ a ps, (a, ps) ∈ L0 ++ [(E, ps0 ++ [i])] ↔ (a ≠ E ∧ (a, ps) ∈ L0 ++ [(E, ps0)]) ∨ (a = E ∧ ps = ps0 ++ [i]) := by
  intro a ps
  rw [List.pairwise_append] at hs
  simp only [List.mem_append, List.mem_singleton, Prod.mk.injEq]
  constructor
  · rintro (h | h)
    · refine .inl ⟨fun e => ?_, .inl h⟩
      have := hs.2.2 _ h (E, ps0) (by simp)
      simp only at this
      omega
    · exact .inr h
  · rintro (⟨h0, h | h⟩ | h)
    · exact .inl h
    · exact absurd h.1 h0
    · exact .inr h
set_option maxHeartbeats 1000000 in
theorem lay_new (S : Nat → Prop) (g gp cp gm i : Nat) (vE : Value) (R : Int → Value) (q : PS) (w : World) (h : MemAt w S g gp cp gm vE R q) (hq : q.ok) (hi : i < q.st.length) (hs : q.st.getD i 0 = 1) (hno : ¬ ∃ ps, (q.now + q.rest, ps) ∈ q.L) :
    Calls Try.prog 18 #[.pointer (some ⟨g, 0, none⟩), .int .u16 (q.lo + (i : Int))] w (LayIs S g gp cp gm i q w) := by
  obtain ⟨E, eE⟩ : ∃ E, q.now + q.rest = E := ⟨_, rfl⟩
  have hEb : 0 ≤ E ∧ E ≤ 2199023255552 := by have := hq.now; have := hq.rest; unfold bigT at *; omega
  have q1 : IntKind.u64.wrap (q.now + q.rest) = E := by rw [eE]; simp [IntKind.wrap, IntKind.bits, IntKind.signed]; omega
  unfold LayIs
  rw [eE] at hno ⊢
  have hA := added_new (i := i) hq.sorted hq.ne (fun e' ps hm => by have := hq.ends e' ps hm; rw [eE] at this; exact this.2) hno
  have HA := Lib.hid hA
  have hsz := hq.sizes
  have hhi := hq.hi
  have hlo := hq.lo
  obtain ⟨k0, k1, k2, k3, k4, k5, k6, k7, k8, k9⟩ := cells10 h.box
  have HM := Lib.hid h
  have hlook := fun k => (HM.out.drewN k).map.look_no_ok hno
  have HNo := Lib.hid hno
  have Hs := Lib.hid hs
  obtain ⟨A9, n9, c9, e9⟩ := sl_form2 h.ends
  rw [e9] at k9
  have E9 := Lib.hid e9
  clear h hq hA hno k0 k1 k4 k5 k6 k7 e9 hs
  go_enter Try.func18, Try.ntmps18
  go_wp2_with fail
  go_quiet (fail)
  have HM1 := Lib.hid (HM.out.drewN nq)
  have HB0 := Lib.hid ((But.refl S w).drewN nq)
  have d8 : (w.drewN nq).cell? ⟨g, 8, none⟩ = some (.map (some gm)) := k8
  have d9 : (w.drewN nq).cell? ⟨g, 9, none⟩ = some (.slice A9 n9 c9) := k9
  have dl := hlook nq
  clear k8 k9 hlook k2 k3
  obtain ⟨w1, ew1⟩ : ∃ w1, w.drewN nq = w1 := ⟨_, rfl⟩
  have esz : w.heap.size = w1.heap.size := by rw [← ew1]; rfl
  rw [ew1] at HM1 HB0 d8 d9 dl ⊢
  clear ew1
  obtain ⟨A2, n2, c2, w2, hr2, hs2, hb2, hblk2, _⟩ := sl_app_form (P := Try.prog) (w1.alloc (.cells #[.int .u64 E] 23)) 50 50 23 .u64 8 Try.underlying50 info_u64s (by omega) vE _ (q.L.map Prod.fst) [E]
    (HM1.out.ends.but ((But.refl (fun _ => False) _).alloc _) (fun _ _ x => x)) (Row.one _ _ _ _ rfl) (by simp; omega)
  rw [E9.out] at hr2
  have Hr2 := Lib.hid hr2
  clear hr2
  have hb12 : But (fun k => vE.ownBlock = some k) w1 w2 := ((But.refl _ _).alloc _).trans hb2
  have hgE : ¬ vE.ownBlock = some g := fun e => (HM1.out.e_ne e).1 rfl
  have hbox2 := hb12.blk HM1.out.box hgE
  have hc9 := (cells10 hbox2).2.2.2.2.2.2.2.2.2
  rw [E9.out] at hc9
  have hf9 := blk_free hbox2 9
  have hbox3 := heap_setCell_at hbox2 9 (.slice A2 n2 c2)
  have hs3 : Sl (w2.setCell ⟨g, 9, none⟩ (.slice A2 n2 c2)) 23 .u64 (.slice A2 n2 c2) ((q.L ++ [(E, [i])]).map Prod.fst) := by
    rw [List.map_append]
    refine hs2.but ((But.refl (fun k => k = g) _).setCell rfl _) (fun b hb0 hk => ?_)
    subst hk
    obtain ⟨C, hC⟩ := hs2.type hb0
    rw [hbox2] at hC
    injection hC with e
    injection e with _ e
    revert e; decide
  have hb13 : But (fun k => k = g ∨ vE.ownBlock = some k) w1 (w2.setCell ⟨g, 9, none⟩ (.slice A2 n2 c2)) := (hb12.mono (fun k _ hk => .inr hk)).setCell (.inl rfl) _
  have hvb : (Value.slice A2 n2 c2).ownBlock = vE.ownBlock ∨ ∀ b, (Value.slice A2 n2 c2).ownBlock = some b → w1.heap.size ≤ b := by
    rcases hblk2 with hk | hk
    · exact .inl hk
    · refine .inr (fun b hb0 => ?_)
      rw [hk] at hb0
      injection hb0 with hb0
      have h2 := ((But.refl (fun _ => False) w1).alloc (.cells #[.int .u64 E] 23)).size
      omega
  obtain ⟨A0, n0, c0, A5, n5, c5, w5, w6, e0, hof, hr5, hb5, hr6, hM6, hB16, hsub⟩ := put_runs (i := i) (ps0 := []) HM1.out (by simp) (.inl ⟨rfl, rfl, HNo.out⟩) hb13 hbox3 hs3 hvb (mem_append_new HNo.out)
  obtain ⟨rfl, rfl, rfl⟩ : A0 = none ∧ n0 = 0 ∧ c0 = 0 := by injection e0 with e01 e02 e03; exact ⟨e01.symm, e02.symm, e03.symm⟩
  clear e0
  have Ht := Lib.hid (turn_mem (a := 1) (b := 2) (.inr (.inl ⟨rfl, rfl⟩)) _ g gp cp gm i _ _ { q with L := q.L ++ [(E, [i])] } (q.lo + (i : Int)) w6 hM6 (by simp only; omega) (by simp only; omega) hi Hs.out rfl)
  have Hsub := Lib.hid (show ∀ k, _ → S k ∨ w.heap.size ≤ k from fun k hk => by rw [esz]; exact hsub k hk)
  have HB1 := Lib.hid (HB0.out.trans hB16)
  have Hof := Lib.hid hof
  have Hr5 := Lib.hid hr5
  have Hb5 := Lib.hid hb5
  clear hr5 hof hb5 hM6 hB16 hsub hs3 hbox3 hb13 hvb hbox2 hb12 hb2 hblk2 hs2 hgE
  obtain ⟨w3, ew3⟩ : ∃ w3, w2.setCell ⟨g, 9, none⟩ (.slice A2 n2 c2) = w3 := ⟨_, rfl⟩
  rw [ew3] at Hr5 Hof Hb5
  go_wp2_with (at_builtin; refine wpList_appX rfl (.tmp 31) (.tmp 33) _ _ rfl rfl _ _ _ w2 rfl rfl Hr2.out ?_)
  try rw [ew3]
  clear ew3
  obtain ⟨wd, ewd⟩ : ∃ wd, w3.drew = wd := ⟨_, rfl⟩
  refine wp_region_heldL (S := fun w' => w'.cell? ⟨g, 8, none⟩ = some (.map (some gm)) ∧ (Instr.lookup 49 (.map (some gm)) (.int .u64 E) false).run Try.prog w' = .ok (.slice none 0 0) w') 14 (by kernel_rfl) (Hof.out _ (But.refl _ _)) (fun hHeld => ?_)
  rw [ewd] at hHeld Hr5 Hof Hb5 ⊢
  clear ewd
  refine anyHL_take (i := 0) (oi := { dst := some 37, op := Go.Op.move (Go.Operand.tmp 0), type := 28, pos := "pool.go:162", after := #[], guard := none }) (v := ?_) rfl (by kernel_rfl) (by kernel_rfl) (by kernel_rfl) (by kernel_rfl) (fun _ _ _ h => h) (Or.inl ⟨by rfl, ?_⟩) (by assumption) ?_
  rotate_left 1
  · intro w' hSw; (go_simp <;> (with_reducible rfl))
  (try simp only [Act.put, List.setIfInBounds_toArray, List.set_cons_zero, List.set_cons_succ])
  refine anyHL_take (i := 1) (oi := { dst := some 38, op := Go.Op.nilCheck (Go.Operand.tmp 37), type := 0, pos := "pool.go:162", after := #[{ on := 0, ground := Go.Ground.data }], guard := none }) (v := ?_) rfl (by kernel_rfl) (by kernel_rfl) (by kernel_rfl) (by kernel_rfl) (fun _ _ _ h => h) (Or.inl ⟨by rfl, ?_⟩) (by assumption) ?_
  rotate_left 1
  · intro w' hSw; (go_simp <;> (with_reducible rfl))
  (try simp only [Act.put, List.setIfInBounds_toArray, List.set_cons_zero, List.set_cons_succ])
  refine anyHL_take (i := 2) (oi := { dst := some 39, op := Go.Op.fieldAddr 52 (Go.Operand.tmp 38) 6, type := 0, pos := "pool.go:162", after := #[{ on := 1, ground := Go.Ground.data }], guard := none }) (v := ?_) rfl (by kernel_rfl) (by kernel_rfl) (by kernel_rfl) (by kernel_rfl) (fun _ _ _ h => h) (Or.inl ⟨by rfl, ?_⟩) (by assumption) ?_
  rotate_left 1
  · intro w' hSw; (go_simp <;> (with_reducible rfl))
  (try simp only [Act.put, List.setIfInBounds_toArray, List.set_cons_zero, List.set_cons_succ])
  refine anyHL_take (i := 3) (oi := { dst := some 40, op := Go.Op.load 49 (Go.Operand.tmp 39), type := 49, pos := "pool.go:162", after := #[{ on := 2, ground := Go.Ground.data }], guard := none }) (v := ?_) rfl (by kernel_rfl) (by kernel_rfl) (by kernel_rfl) (by kernel_rfl) (fun _ _ _ h => h) (Or.inl ⟨by rfl, ?_⟩) (by assumption) ?_
  rotate_left 1
  · intro w' hSw; (go_simp <;> (with_reducible rfl))
  (try simp only [Act.put, List.setIfInBounds_toArray, List.set_cons_zero, List.set_cons_succ])
  refine anyHL_take (i := 4) (oi := { dst := some 41, op := Go.Op.move (Go.Operand.tmp 4), type := 23, pos := "pool.go:162", after := #[], guard := none }) (v := ?_) rfl (by kernel_rfl) (by kernel_rfl) (by kernel_rfl) (by kernel_rfl) (fun _ _ _ h => h) (Or.inl ⟨by rfl, ?_⟩) (by assumption) ?_
  rotate_left 1
  · intro w' hSw; (go_simp <;> (with_reducible rfl))
  (try simp only [Act.put, List.setIfInBounds_toArray, List.set_cons_zero, List.set_cons_succ])
  refine anyHL_take (i := 5) (oi := { dst := some 42, op := Go.Op.move (Go.Operand.tmp 0), type := 28, pos := "pool.go:162", after := #[], guard := none }) (v := ?_) rfl (by kernel_rfl) (by kernel_rfl) (by kernel_rfl) (by kernel_rfl) (fun _ _ _ h => h) (Or.inl ⟨by rfl, ?_⟩) (by assumption) ?_
  rotate_left 1
  · intro w' hSw; (go_simp <;> (with_reducible rfl))
  (try simp only [Act.put, List.setIfInBounds_toArray, List.set_cons_zero, List.set_cons_succ])
  refine anyHL_take (i := 6) (oi := { dst := some 43, op := Go.Op.nilCheck (Go.Operand.tmp 42), type := 0, pos := "pool.go:162", after := #[{ on := 5, ground := Go.Ground.data }], guard := none }) (v := ?_) rfl (by kernel_rfl) (by kernel_rfl) (by kernel_rfl) (by kernel_rfl) (fun _ _ _ h => h) (Or.inl ⟨by rfl, ?_⟩) (by assumption) ?_
  rotate_left 1
  · intro w' hSw; (go_simp <;> (with_reducible rfl))
  (try simp only [Act.put, List.setIfInBounds_toArray, List.set_cons_zero, List.set_cons_succ])
  refine anyHL_take (i := 7) (oi := { dst := some 44, op := Go.Op.fieldAddr 52 (Go.Operand.tmp 43) 6, type := 0, pos := "pool.go:162", after := #[{ on := 6, ground := Go.Ground.data }], guard := none }) (v := ?_) rfl (by kernel_rfl) (by kernel_rfl) (by kernel_rfl) (by kernel_rfl) (fun _ _ _ h => h) (Or.inl ⟨by rfl, ?_⟩) (by assumption) ?_
  rotate_left 1
  · intro w' hSw; (go_simp <;> (with_reducible rfl))
  (try simp only [Act.put, List.setIfInBounds_toArray, List.set_cons_zero, List.set_cons_succ])
  refine anyHL_take (i := 8) (oi := { dst := some 45, op := Go.Op.load 49 (Go.Operand.tmp 44), type := 49, pos := "pool.go:162", after := #[{ on := 7, ground := Go.Ground.data }], guard := none }) (v := ?_) rfl (by kernel_rfl) (by kernel_rfl) (by kernel_rfl) (by kernel_rfl) (fun _ _ _ h => h) (Or.inl ⟨by rfl, ?_⟩) (by assumption) ?_
  rotate_left 1
  · intro w' hSw; (go_simp <;> (with_reducible rfl))
  (try simp only [Act.put, List.setIfInBounds_toArray, List.set_cons_zero, List.set_cons_succ])
  refine anyHL_take (i := 9) (oi := { dst := some 46, op := Go.Op.move (Go.Operand.tmp 4), type := 23, pos := "pool.go:162", after := #[], guard := none }) (v := ?_) rfl (by kernel_rfl) (by kernel_rfl) (by kernel_rfl) (by kernel_rfl) (fun _ _ _ h => h) (Or.inl ⟨by rfl, ?_⟩) (by assumption) ?_
  rotate_left 1
  · intro w' hSw; (go_simp <;> (with_reducible rfl))
  (try simp only [Act.put, List.setIfInBounds_toArray, List.set_cons_zero, List.set_cons_succ])
  refine anyHL_take (i := 10) (oi := { dst := some 47, op := Go.Op.lookup 49 (Go.Operand.tmp 45) (Go.Operand.tmp 46) false, type := 61, pos := "pool.go:162", after := #[{ on := 8, ground := Go.Ground.data }, { on := 9, ground := Go.Ground.data }], guard := none }) (v := ?_) rfl (by kernel_rfl) (by kernel_rfl) (by kernel_rfl) (by kernel_rfl) (fun _ _ _ h => h) (Or.inl ⟨by rfl, ?_⟩) (by assumption) ?_
  rotate_left 1
  · intro w' hSw; (go_simp <;> (with_reducible rfl))
  (try simp only [Act.put, List.setIfInBounds_toArray, List.set_cons_zero, List.set_cons_succ])
  refine anyHL_take (i := 11) (oi := { dst := some 48, op := Go.Op.move (Go.Operand.tmp 1), type := 22, pos := "pool.go:162", after := #[], guard := none }) (v := ?_) rfl (by kernel_rfl) (by kernel_rfl) (by kernel_rfl) (by kernel_rfl) (fun _ _ _ h => h) (Or.inl ⟨by rfl, ?_⟩) (by assumption) ?_
  rotate_left 1
  · intro w' hSw; (go_simp <;> (with_reducible rfl))
  (try simp only [Act.put, List.setIfInBounds_toArray, List.set_cons_zero, List.set_cons_succ])
  refine anyHL_one (i := 12) (o := { dst := some 49, op := Go.Op.buildSlice 61 1 #[(0, Go.Operand.tmp 48)], type := 61, pos := "pool.go:162", after := #[{ on := 11, ground := Go.Ground.data }], guard := none }) (by kernel_rfl) rfl (by kernel_rfl) (fun K hK => ?_)
  go_simp
  skip
  refine hK.out _ _ ?_ (fun hHeld => ?_)
  · exact Hof.out _ ((But.refl _ _).alloc _)
  clear hK K
  (try simp only [Act.put, List.setIfInBounds_toArray, List.set_cons_zero, List.set_cons_succ])
  refine anyHL_one (i := 13) (o := { dst := some 50, op := Go.Op.call { callee := Go.Callee.builtin Go.Builtin.append, args := #[Go.Operand.tmp 47, Go.Operand.tmp 49], argTypes := #[61, 61] }, type := 61, pos := "pool.go:162", after := #[{ on := 10, ground := Go.Ground.data }, { on := 12, ground := Go.Ground.data }], guard := none }) (by kernel_rfl) rfl (by kernel_rfl) (fun K hK => ?_)
  refine step_appX rfl (.tmp 47) (.tmp 49) _ _ rfl rfl _ _ _ w5 rfl rfl Hr5.out ?_
  refine hK.out _ _ ?_ (fun hHeld => ?_)
  · exact Hof.out _ Hb5.out
  clear hK K
  (try simp only [Act.put, List.setIfInBounds_toArray, List.set_cons_zero, List.set_cons_succ])
  refine anyHL_last (o := { dst := none, op := Go.Op.mapUpdate 49 (Go.Operand.tmp 40) (Go.Operand.tmp 41) (Go.Operand.tmp 50), type := 0, pos := "pool.go:162", after := #[{ on := 3, ground := Go.Ground.data }, { on := 4, ground := Go.Ground.data }, { on := 13, ground := Go.Ground.data }, { on := 13, ground := Go.Ground.chain }, { on := 0, ground := Go.Ground.phase }, { on := 1, ground := Go.Ground.phase }, { on := 2, ground := Go.Ground.phase }, { on := 3, ground := Go.Ground.phase }, { on := 4, ground := Go.Ground.phase }, { on := 5, ground := Go.Ground.phase }, { on := 6, ground := Go.Ground.phase }, { on := 7, ground := Go.Ground.phase }, { on := 8, ground := Go.Ground.phase }, { on := 9, ground := Go.Ground.phase }, { on := 10, ground := Go.Ground.phase }, { on := 11, ground := Go.Ground.phase }, { on := 12, ground := Go.Ground.phase }, { on := 13, ground := Go.Ground.phase }], guard := none }) (by kernel_rfl) rfl (by kernel_rfl) (fun K hK => ?_)
  go_simp
  skip
  refine hK.out _ _ ?_
  clear hK K
  (try simp only [Act.put, List.setIfInBounds_toArray, List.set_cons_zero, List.set_cons_succ])
  go_wp2_with fail
  refine Ht.out.mono ?_
  rintro e w7 ⟨rfl, M7, B7⟩
  have HM7 := Lib.hid M7
  have HB7 := Lib.hid B7
  clear M7 B7
  go_wp2_with fail
  go_end0
  refine ⟨rfl, _, _, _, _, HM7.out, HA.out, ?_, Hsub.out⟩
  exact HB1.out.trans2 HB7.out (fun k hk hS => (Hsub.out k hS).elim id (fun h2 => absurd h2 (by omega)))
set_option maxHeartbeats 1000000 in
theorem lay_old (S : Nat → Prop) (g gp cp gm i : Nat) (vE : Value) (R : Int → Value) (q : PS) (w : World) (h : MemAt w S g gp cp gm vE R q) (hq : q.ok) (hi : i < q.st.length) (hs : q.st.getD i 0 = 1) (ps0 : List Nat) (hin : (q.now + q.rest, ps0) ∈ q.L) :
    Calls Try.prog 18 #[.pointer (some ⟨g, 0, none⟩), .int .u16 (q.lo + (i : Int))] w (LayIs S g gp cp gm i q w) := by
  obtain ⟨E, eE⟩ : ∃ E, q.now + q.rest = E := ⟨_, rfl⟩
  have hEb : 0 ≤ E ∧ E ≤ 2199023255552 := by have := hq.now; have := hq.rest; unfold bigT at *; omega
  have q1 : IntKind.u64.wrap (q.now + q.rest) = E := by rw [eE]; simp [IntKind.wrap, IntKind.bits, IntKind.signed]; omega
  unfold LayIs
  rw [eE] at hin ⊢
  obtain ⟨L0, hL0⟩ := last_of hq.sorted (fun e' ps hm => by have := hq.ends e' ps hm; rw [eE] at this; exact this.2) hin
  have hsort := hq.sorted
  have hne := hq.ne
  have hsz := (hq.sizes).2 E ps0 hin
  have hhi := hq.hi
  have hlo := hq.lo
  rw [hL0] at hsort hne
  have HA := Lib.hid (show Added E i q.L (L0 ++ [(E, ps0 ++ [i])]) by rw [hL0]; exact added_old hsort hne)
  have HL := Lib.hid (show ∀ a ps, (a, ps) ∈ L0 ++ [(E, ps0 ++ [i])] ↔ (a ≠ E ∧ (a, ps) ∈ q.L) ∨ (a = E ∧ ps = ps0 ++ [i]) by rw [hL0]; exact mem_append_old hsort)
  have Hfst := Lib.hid (show (L0 ++ [(E, ps0 ++ [i])]).map Prod.fst = q.L.map Prod.fst by rw [hL0]; simp)
  clear hsort hne hL0
  obtain ⟨k0, k1, k2, k3, k4, k5, k6, k7, k8, k9⟩ := cells10 h.box
  have HM := Lib.hid h
  have hlook := fun k => (HM.out.drewN k).map.look_ok ⟨ps0, hin⟩
  obtain ⟨A0, n0, c0, e0⟩ := sl_form2 (h.rows E ps0 hin)
  rw [e0] at hlook
  have E0 := Lib.hid e0
  have HIn := Lib.hid hin
  have Hs := Lib.hid hs
  clear h hq hin k0 k1 k4 k5 k6 k7 k9 hs e0
  go_enter Try.func18, Try.ntmps18
  go_wp2_with fail
  go_quiet (fail)
  have HM1 := Lib.hid (HM.out.drewN nq)
  have HB0 := Lib.hid ((But.refl S w).drewN nq)
  have d8 : (w.drewN nq).cell? ⟨g, 8, none⟩ = some (.map (some gm)) := k8
  have dl := hlook nq
  clear k8 hlook k2 k3
  obtain ⟨w3, ew1⟩ : ∃ w3, w.drewN nq = w3 := ⟨_, rfl⟩
  have esz : w.heap.size = w3.heap.size := by rw [← ew1]; rfl
  rw [ew1] at HM1 HB0 d8 dl ⊢
  clear ew1
  have hgE : ¬ vE.ownBlock = some g := fun e => (HM1.out.e_ne e).1 rfl
  obtain ⟨A0', n0', c0', A5, n5, c5, w5, w6, e0, hof, hr5, hb5, hr6, hM6, hB16, hsub⟩ := put_runs (i := i) (ps0 := ps0) (w3 := w3) (v' := vE) HM1.out (by omega) (.inr ⟨rfl, HIn.out⟩) (But.refl _ _) HM1.out.box (by rw [Hfst.out]; exact HM1.out.ends) (.inl rfl) HL.out
  rw [E0.out] at e0
  obtain ⟨rfl, rfl, rfl⟩ : A0 = A0' ∧ n0 = n0' ∧ c0 = c0' := by injection e0 with e01 e02 e03; exact ⟨e01, e02, e03⟩
  clear e0
  have Ht := Lib.hid (turn_mem (a := 1) (b := 2) (.inr (.inl ⟨rfl, rfl⟩)) _ g gp cp gm i _ _ { q with L := L0 ++ [(E, ps0 ++ [i])] } (q.lo + (i : Int)) w6 hM6 (by simp only; omega) (by simp only; omega) hi Hs.out rfl)
  have Hsub := Lib.hid (show ∀ k, _ → S k ∨ w.heap.size ≤ k from fun k hk => by rw [esz]; exact hsub k hk)
  have HB1 := Lib.hid (HB0.out.trans hB16)
  have Hof := Lib.hid hof
  have Hr5 := Lib.hid hr5
  have Hb5 := Lib.hid hb5
  clear hr5 hof hb5 hM6 hB16 hsub hgE
  go_wp2_with fail
  obtain ⟨wd, ewd⟩ : ∃ wd, w3.drew = wd := ⟨_, rfl⟩
  refine wp_region_heldL (S := fun w' => w'.cell? ⟨g, 8, none⟩ = some (.map (some gm)) ∧ (Instr.lookup 49 (.map (some gm)) (.int .u64 E) false).run Try.prog w' = .ok (.slice A0 n0 c0) w') 14 (by kernel_rfl) (Hof.out _ (But.refl _ _)) (fun hHeld => ?_)
  rw [ewd] at hHeld Hr5 Hof Hb5 ⊢
  clear ewd
  refine anyHL_take (i := 0) (oi := { dst := some 37, op := Go.Op.move (Go.Operand.tmp 0), type := 28, pos := "pool.go:162", after := #[], guard := none }) (v := ?_) rfl (by kernel_rfl) (by kernel_rfl) (by kernel_rfl) (by kernel_rfl) (fun _ _ _ h => h) (Or.inl ⟨by rfl, ?_⟩) (by assumption) ?_
  rotate_left 1
  · intro w' hSw; (go_simp <;> (with_reducible rfl))
  (try simp only [Act.put, List.setIfInBounds_toArray, List.set_cons_zero, List.set_cons_succ])
  refine anyHL_take (i := 1) (oi := { dst := some 38, op := Go.Op.nilCheck (Go.Operand.tmp 37), type := 0, pos := "pool.go:162", after := #[{ on := 0, ground := Go.Ground.data }], guard := none }) (v := ?_) rfl (by kernel_rfl) (by kernel_rfl) (by kernel_rfl) (by kernel_rfl) (fun _ _ _ h => h) (Or.inl ⟨by rfl, ?_⟩) (by assumption) ?_
  rotate_left 1
  · intro w' hSw; (go_simp <;> (with_reducible rfl))
  (try simp only [Act.put, List.setIfInBounds_toArray, List.set_cons_zero, List.set_cons_succ])
  refine anyHL_take (i := 2) (oi := { dst := some 39, op := Go.Op.fieldAddr 52 (Go.Operand.tmp 38) 6, type := 0, pos := "pool.go:162", after := #[{ on := 1, ground := Go.Ground.data }], guard := none }) (v := ?_) rfl (by kernel_rfl) (by kernel_rfl) (by kernel_rfl) (by kernel_rfl) (fun _ _ _ h => h) (Or.inl ⟨by rfl, ?_⟩) (by assumption) ?_
  rotate_left 1
  · intro w' hSw; (go_simp <;> (with_reducible rfl))
  (try simp only [Act.put, List.setIfInBounds_toArray, List.set_cons_zero, List.set_cons_succ])
  refine anyHL_take (i := 3) (oi := { dst := some 40, op := Go.Op.load 49 (Go.Operand.tmp 39), type := 49, pos := "pool.go:162", after := #[{ on := 2, ground := Go.Ground.data }], guard := none }) (v := ?_) rfl (by kernel_rfl) (by kernel_rfl) (by kernel_rfl) (by kernel_rfl) (fun _ _ _ h => h) (Or.inl ⟨by rfl, ?_⟩) (by assumption) ?_
  rotate_left 1
  · intro w' hSw; (go_simp <;> (with_reducible rfl))
  (try simp only [Act.put, List.setIfInBounds_toArray, List.set_cons_zero, List.set_cons_succ])
  refine anyHL_take (i := 4) (oi := { dst := some 41, op := Go.Op.move (Go.Operand.tmp 4), type := 23, pos := "pool.go:162", after := #[], guard := none }) (v := ?_) rfl (by kernel_rfl) (by kernel_rfl) (by kernel_rfl) (by kernel_rfl) (fun _ _ _ h => h) (Or.inl ⟨by rfl, ?_⟩) (by assumption) ?_
  rotate_left 1
  · intro w' hSw; (go_simp <;> (with_reducible rfl))
  (try simp only [Act.put, List.setIfInBounds_toArray, List.set_cons_zero, List.set_cons_succ])
  refine anyHL_take (i := 5) (oi := { dst := some 42, op := Go.Op.move (Go.Operand.tmp 0), type := 28, pos := "pool.go:162", after := #[], guard := none }) (v := ?_) rfl (by kernel_rfl) (by kernel_rfl) (by kernel_rfl) (by kernel_rfl) (fun _ _ _ h => h) (Or.inl ⟨by rfl, ?_⟩) (by assumption) ?_
  rotate_left 1
  · intro w' hSw; (go_simp <;> (with_reducible rfl))
  (try simp only [Act.put, List.setIfInBounds_toArray, List.set_cons_zero, List.set_cons_succ])
  refine anyHL_take (i := 6) (oi := { dst := some 43, op := Go.Op.nilCheck (Go.Operand.tmp 42), type := 0, pos := "pool.go:162", after := #[{ on := 5, ground := Go.Ground.data }], guard := none }) (v := ?_) rfl (by kernel_rfl) (by kernel_rfl) (by kernel_rfl) (by kernel_rfl) (fun _ _ _ h => h) (Or.inl ⟨by rfl, ?_⟩) (by assumption) ?_
  rotate_left 1
  · intro w' hSw; (go_simp <;> (with_reducible rfl))
  (try simp only [Act.put, List.setIfInBounds_toArray, List.set_cons_zero, List.set_cons_succ])
  refine anyHL_take (i := 7) (oi := { dst := some 44, op := Go.Op.fieldAddr 52 (Go.Operand.tmp 43) 6, type := 0, pos := "pool.go:162", after := #[{ on := 6, ground := Go.Ground.data }], guard := none }) (v := ?_) rfl (by kernel_rfl) (by kernel_rfl) (by kernel_rfl) (by kernel_rfl) (fun _ _ _ h => h) (Or.inl ⟨by rfl, ?_⟩) (by assumption) ?_
  rotate_left 1
  · intro w' hSw; (go_simp <;> (with_reducible rfl))
  (try simp only [Act.put, List.setIfInBounds_toArray, List.set_cons_zero, List.set_cons_succ])
  refine anyHL_take (i := 8) (oi := { dst := some 45, op := Go.Op.load 49 (Go.Operand.tmp 44), type := 49, pos := "pool.go:162", after := #[{ on := 7, ground := Go.Ground.data }], guard := none }) (v := ?_) rfl (by kernel_rfl) (by kernel_rfl) (by kernel_rfl) (by kernel_rfl) (fun _ _ _ h => h) (Or.inl ⟨by rfl, ?_⟩) (by assumption) ?_
  rotate_left 1
  · intro w' hSw; (go_simp <;> (with_reducible rfl))
  (try simp only [Act.put, List.setIfInBounds_toArray, List.set_cons_zero, List.set_cons_succ])
  refine anyHL_take (i := 9) (oi := { dst := some 46, op := Go.Op.move (Go.Operand.tmp 4), type := 23, pos := "pool.go:162", after := #[], guard := none }) (v := ?_) rfl (by kernel_rfl) (by kernel_rfl) (by kernel_rfl) (by kernel_rfl) (fun _ _ _ h => h) (Or.inl ⟨by rfl, ?_⟩) (by assumption) ?_
  rotate_left 1
  · intro w' hSw; (go_simp <;> (with_reducible rfl))
  (try simp only [Act.put, List.setIfInBounds_toArray, List.set_cons_zero, List.set_cons_succ])
  refine anyHL_take (i := 10) (oi := { dst := some 47, op := Go.Op.lookup 49 (Go.Operand.tmp 45) (Go.Operand.tmp 46) false, type := 61, pos := "pool.go:162", after := #[{ on := 8, ground := Go.Ground.data }, { on := 9, ground := Go.Ground.data }], guard := none }) (v := ?_) rfl (by kernel_rfl) (by kernel_rfl) (by kernel_rfl) (by kernel_rfl) (fun _ _ _ h => h) (Or.inl ⟨by rfl, ?_⟩) (by assumption) ?_
  rotate_left 1
  · intro w' hSw; (go_simp <;> (with_reducible rfl))
  (try simp only [Act.put, List.setIfInBounds_toArray, List.set_cons_zero, List.set_cons_succ])
  refine anyHL_take (i := 11) (oi := { dst := some 48, op := Go.Op.move (Go.Operand.tmp 1), type := 22, pos := "pool.go:162", after := #[], guard := none }) (v := ?_) rfl (by kernel_rfl) (by kernel_rfl) (by kernel_rfl) (by kernel_rfl) (fun _ _ _ h => h) (Or.inl ⟨by rfl, ?_⟩) (by assumption) ?_
  rotate_left 1
  · intro w' hSw; (go_simp <;> (with_reducible rfl))
  (try simp only [Act.put, List.setIfInBounds_toArray, List.set_cons_zero, List.set_cons_succ])
  refine anyHL_one (i := 12) (o := { dst := some 49, op := Go.Op.buildSlice 61 1 #[(0, Go.Operand.tmp 48)], type := 61, pos := "pool.go:162", after := #[{ on := 11, ground := Go.Ground.data }], guard := none }) (by kernel_rfl) rfl (by kernel_rfl) (fun K hK => ?_)
  go_simp
  skip
  refine hK.out _ _ ?_ (fun hHeld => ?_)
  · exact Hof.out _ ((But.refl _ _).alloc _)
  clear hK K
  (try simp only [Act.put, List.setIfInBounds_toArray, List.set_cons_zero, List.set_cons_succ])
  refine anyHL_one (i := 13) (o := { dst := some 50, op := Go.Op.call { callee := Go.Callee.builtin Go.Builtin.append, args := #[Go.Operand.tmp 47, Go.Operand.tmp 49], argTypes := #[61, 61] }, type := 61, pos := "pool.go:162", after := #[{ on := 10, ground := Go.Ground.data }, { on := 12, ground := Go.Ground.data }], guard := none }) (by kernel_rfl) rfl (by kernel_rfl) (fun K hK => ?_)
  refine step_appX rfl (.tmp 47) (.tmp 49) _ _ rfl rfl _ _ _ w5 rfl rfl Hr5.out ?_
  refine hK.out _ _ ?_ (fun hHeld => ?_)
  · exact Hof.out _ Hb5.out
  clear hK K
  (try simp only [Act.put, List.setIfInBounds_toArray, List.set_cons_zero, List.set_cons_succ])
  refine anyHL_last (o := { dst := none, op := Go.Op.mapUpdate 49 (Go.Operand.tmp 40) (Go.Operand.tmp 41) (Go.Operand.tmp 50), type := 0, pos := "pool.go:162", after := #[{ on := 3, ground := Go.Ground.data }, { on := 4, ground := Go.Ground.data }, { on := 13, ground := Go.Ground.data }, { on := 13, ground := Go.Ground.chain }, { on := 0, ground := Go.Ground.phase }, { on := 1, ground := Go.Ground.phase }, { on := 2, ground := Go.Ground.phase }, { on := 3, ground := Go.Ground.phase }, { on := 4, ground := Go.Ground.phase }, { on := 5, ground := Go.Ground.phase }, { on := 6, ground := Go.Ground.phase }, { on := 7, ground := Go.Ground.phase }, { on := 8, ground := Go.Ground.phase }, { on := 9, ground := Go.Ground.phase }, { on := 10, ground := Go.Ground.phase }, { on := 11, ground := Go.Ground.phase }, { on := 12, ground := Go.Ground.phase }, { on := 13, ground := Go.Ground.phase }], guard := none }) (by kernel_rfl) rfl (by kernel_rfl) (fun K hK => ?_)
  go_simp
  skip
  refine hK.out _ _ ?_
  clear hK K
  (try simp only [Act.put, List.setIfInBounds_toArray, List.set_cons_zero, List.set_cons_succ])
  go_wp2_with fail
  refine Ht.out.mono ?_
  rintro e w7 ⟨rfl, M7, B7⟩
  have HM7 := Lib.hid M7
  have HB7 := Lib.hid B7
  clear M7 B7
  go_wp2_with fail
  go_end0
  refine ⟨rfl, _, _, _, _, HM7.out, HA.out, ?_, Hsub.out⟩
  exact HB1.out.trans2 HB7.out (fun k hk hS => (Hsub.out k hS).elim id (fun h2 => absurd h2 (by omega)))
theorem lay_any (S : Nat → Prop) (g gp cp gm i : Nat) (vE : Value) (R : Int → Value) (q : PS) (p : Int) (w : World) (h : MemAt w S g gp cp gm vE R q) (hq : q.ok) (hi : i < q.st.length) (hs : q.st.getD i 0 = 1) (hp : p = q.lo + (i : Int)) :
    Calls Try.prog 18 #[.pointer (some ⟨g, 0, none⟩), .int .u16 p] w (LayIs S g gp cp gm i q w) := by
  subst hp
  by_cases hin : ∃ ps, (q.now + q.rest, ps) ∈ q.L
  · obtain ⟨ps, hin⟩ := hin
    exact lay_old S g gp cp gm i vE R q w h hq hi hs ps hin
  · exact lay_new S g gp cp gm i vE R q w h hq hi hs hin
end Go.Proofs.Ytlifldionfoddaa
