/-
  A buffer of the program's: Held (the closure that takes a piece, and pieces).
-/
import Derived.Test.YtmmnicnebammhaaRmTell
import Derived.Test.YtmmnicnebammhaaHeldLast
import Derived.Test.YtmmnicnebammhaaTk
namespace Go.Proofs.Ytmmnicnebammhaa
set_option maxRecDepth 10000
open Go.RowKit
set_option linter.unusedSimpArgs false
set_option linter.unusedVariables false

/-- What goes on in Held: the buffer, the box of its pointer, the box of the list. -/
structure PcS (w : World) (S : Nat → Prop) (g m nx : Nat) (st : Int) (L : BL) (p q : Nat) (v : Value) (l : List (Int × Int)) (wr : World) : Prop where
  mem : RMem wr S g m nx st L
  bp : wr.heap[p]? = some (.cells #[.pointer (some ⟨g, 0, none⟩)] 24 (0, 0))
  bq : wr.heap[q]? = some (.cells #[v] 47 (0, 0))
  sl : SlV wr 60 2 v l.length (flat2 l)
  own : ∀ b, v.ownBlock = some b → w.heap.size ≤ b
  lp : w.heap.size ≤ p
  lq : w.heap.size ≤ q
  pq : p ≠ q
  old : Below w.heap.size w wr
theorem slvR_ne {w : World} {T T' : TypeId} {sz n g : Nat} {v : Value} {vs : List Value} {C' : Array Value} {fr : Nat × Nat} (h : SlV w T sz v n vs) (hg : w.heap[g]? = some (.cells C' T' fr)) (hT : T ≠ T') : ∀ b, v.ownBlock = some b → ¬ b = g := by
  rintro b hb rfl
  rcases h with ⟨rfl, _⟩ | ⟨g2, o, c, rfl, C, hC, _⟩
  · cases hb
  · have e : g2 = b := by simpa [Value.ownBlock] using hb
    subst e
    rw [hC] at hg
    injection hg with hg
    injection hg with _ e2
    exact hT e2
/-- A piece more. -/
theorem PcS.more {w wr : World} {S : Nat → Prop} {g m nx : Nat} {st : Int} {L : BL} {p q : Nat} {A2 : Option Addr} {n c2 : Nat} {l : List (Int × Int)} (h : PcS w S g m nx st L p q (.slice A2 n c2) l wr) (hlt : ∀ k, S k → k < w.heap.size) (hn : l.length = n) (hl : n ≤ 20000) (x y : Int) :
    ∃ A3 c3 w7, (Builtin.append_ #[47, 47] 47 #[.slice A2 n c2, .slice (some ⟨wr.heap.size, 0, none⟩) 1 1]).run Try.prog (wr.drew.alloc (.cells #[.int .u32 x, .int .u32 y] 60)) = .ok (.slice A3 (n + 1) c3) w7 ∧
      w7.cell? ⟨p, 0, none⟩ = some (.pointer (some ⟨g, 0, none⟩)) ∧ w7.cell? ⟨q, 0, none⟩ = some (.slice A2 n c2) ∧ w7.frozen? ⟨q, 0, none⟩ = false ∧ PcS w S g m nx st L p q (.slice A3 (n + 1) c3) (l ++ [(x, y)]) (w7.setCell ⟨q, 0, none⟩ (.slice A3 (n + 1) c3)) := by
  obtain ⟨hm, hp, hq, hsl, hown, lp, lq, pq, old⟩ := h
  have hbA : But (fun _ => False) wr (wr.drew.alloc (.cells #[.int .u32 x, .int .u32 y] 60)) := ((But.refl _ _).drew).alloc _
  have hsz := old.size
  have hslA := hsl.but hbA (fun _ _ h => h)
  rw [hn] at hslA
  obtain ⟨A3, c3, w7, hrun, hs7, hb7, ho7, -⟩ := sv_app (P := Try.prog) (wr.drew.alloc (.cells #[.int .u32 x, .int .u32 y] 60)) 47 47 60 (.agg #[.int .u32 0, .int .u32 0]) 2 8 Try.underlying47 info_pair (by omega) rfl
    (.slice A2 n c2) (.slice (some ⟨wr.heap.size, 0, none⟩) 1 1) n 1 (flat2 l) (flat2 [(x, y)]) hslA (RowV.one 60 (flat2 [(x, y)]) wr.heap.size rfl rfl) (by intro u hu; simp [flat2] at hu; rcases hu with rfl | rfl <;> rfl) (by omega)
  have npV := slvR_ne hsl hp (by decide)
  have nqV := slvR_ne hsl hq (by decide)
  have hp7 := hb7.blk (hbA.blk hp (fun h => h)) (fun e => npV p e rfl)
  have hq7 := hb7.blk (hbA.blk hq (fun h => h)) (fun e => nqV q e rfl)
  have hB3 : But (fun k => k = q) w7 (w7.setCell ⟨q, 0, none⟩ (.slice A3 (n + 1) c3)) := (But.refl (fun k => k = q) w7).setCell (p := ⟨q, 0, none⟩) rfl _
  have hm7 := (hm.but hbA (fun _ _ h => h)).but hb7 (fun k hk e => by have := hown k e; have := hlt k hk; omega)
  have hold7 : Below w.heap.size w w7 := old.trans ((hbA.below (fun k h => h.elim) hsz).trans (hb7.below (fun k e => hown k e) (by simp; omega)))
  have hown7 : ∀ b, (Value.slice A3 (n + 1) c3).ownBlock = some b → w.heap.size ≤ b := fun b hb => by
    rcases ho7 with e | e
    · exact hown b (by rw [← e]; exact hb)
    · rw [e] at hb
      injection hb with hb
      have : (wr.drew.alloc (.cells #[.int .u32 x, .int .u32 y] 60)).heap.size = wr.heap.size + 1 := by simp
      omega
  have nq7 := slvR_ne hs7 hq7 (by decide)
  refine ⟨A3, c3, w7, hrun, by rw [blk_cell hp7]; rfl, by rw [blk_cell hq7]; rfl, blk_free hq7 0, hm7.but hB3 (fun k hk e => by have := hlt k hk; omega), hB3.blk hp7 pq, heap_setCell_at hq7 _ _, ?_, hown7, lp, lq, pq, hold7.trans (hB3.below (fun k hk => by omega) (by have := hold7.size; omega))⟩
  rw [List.length_append, hn, flat2_app]
  exact hs7.but hB3 (fun b hb e => nq7 b hb e)
def PcIs (w : World) (S : Nat → Prop) (g m nx : Nat) (st : Int) (L : BL) (p q : Nat) (l : List (Int × Int)) (e : Ending) (w' : World) : Prop := e = .returned (.tuple #[]) ∧ ∃ v, PcS w S g m nx st L p q v l w'
set_option maxHeartbeats 1000000 in
theorem held1_any (w wr : World) (S : Nat → Prop) (g m nx : Nat) (st : Int) (L : BL) (p q : Nat) (v : Value) (l : List (Int × Int)) (h : PcS w S g m nx st L p q v l wr) (hlt : ∀ k, S k → k < w.heap.size) (hl : l.length ≤ 20000) (i A B : Nat) (hA : A = nx + i) (hA2 : A ≤ 100000) (hB2 : B ≤ 100000) :
    Calls Try.prog 32 #[.int .i64 (A : Int), .int .i64 (B : Int), .pointer (some ⟨p, 0, none⟩), .pointer (some ⟨q, 0, none⟩)] wr (PcIs w S g m nx st L p q (if i = 0 then l else l ++ [(num32 (st + (A : Int)), num32 (st + (B : Int)))])) := by
  have k2 := h.mem.k2
  have cp : wr.cell? ⟨p, 0, none⟩ = some (.pointer (some ⟨g, 0, none⟩)) := by rw [blk_cell h.bp]; rfl
  have cq : wr.cell? ⟨q, 0, none⟩ = some v := by rw [blk_cell h.bq]; rfl
  have H := Lib.hid h
  by_cases h0 : i = 0
  · subst h0
    rw [if_pos rfl]
    obtain rfl : A = nx := by omega
    clear h hA hA2 hB2
    go_enter Try.func32, Try.ntmps32
    go_wp2_with fail
    go_end0
    exact ⟨rfl, _, H.out⟩
  · rw [if_neg h0]
    have hne : ((A : Int) == (nx : Int)) = false := by rw [beq_eq_false_iff_ne]; omega
    obtain ⟨x, ex⟩ : ∃ x, num32 (st + (A : Int)) = x := ⟨_, rfl⟩
    obtain ⟨y, ey⟩ : ∃ y, num32 (st + (B : Int)) = y := ⟨_, rfl⟩
    have HN1 := Lib.hid (number_any (h.mem.drewN 1) A x ex)
    have HN2 := Lib.hid (number_any (h.mem.drewN 1) B y ey)
    rw [ex, ey]
    obtain ⟨n, en⟩ : ∃ n, l.length = n := ⟨_, rfl⟩
    obtain ⟨A2, c2, rfl⟩ := h.sl.form
    rw [en] at h cq H
    obtain ⟨A3, c3, w7, hrun, d0, d1, d2, hP⟩ := h.more hlt en (by omega) x y
    have hsa : (wr.drew.alloc (.cells #[.int .u32 x, .int .u32 y] 60)).cell? ⟨p, 0, none⟩ = some (.pointer (some ⟨g, 0, none⟩)) ∧ (wr.drew.alloc (.cells #[.int .u32 x, .int .u32 y] 60)).cell? ⟨q, 0, none⟩ = some (.slice A2 n c2) := by
      have hbA : But (fun _ => False) wr (wr.drew.alloc (.cells #[.int .u32 x, .int .u32 y] 60)) := ((But.refl _ _).drew).alloc _
      exact ⟨by rw [blk_cell (hbA.blk h.bp (fun h => h))]; rfl, by rw [blk_cell (hbA.blk h.bq (fun h => h))]; rfl⟩
    have HSA := Lib.hid hsa
    have HS6 := Lib.hid (show wr.drew.cell? ⟨p, 0, none⟩ = some (.pointer (some ⟨g, 0, none⟩)) ∧ wr.drew.cell? ⟨q, 0, none⟩ = some (.slice A2 n c2) from ⟨cp, cq⟩)
    have Hrun := Lib.hid hrun
    have H7 := Lib.hid (And.intro d0 (And.intro d1 d2))
    have HP := Lib.hid hP
    clear h hA hA2 hB2 h0 hsa hrun d0 d1 d2 hP ex ey en hl
    go_enter Try.func32, Try.ntmps32
    go_wp2_with fail
    refine wp_region_heldL (S := fun w' => w'.cell? ⟨p, 0, none⟩ = some (.pointer (some ⟨g, 0, none⟩)) ∧ w'.cell? ⟨q, 0, none⟩ = some (.slice A2 n c2)) 10 (by kernel_rfl) (by exact HS6.out) (fun hHeld => ?_)
    refine anyHL_take (i := 0) (oi := { dst := some 12, op := Go.Op.load 47 (Go.Operand.tmp 3), type := 47, pos := "reasm.go:96", after := #[], guard := none }) (v := ?_) rfl (by kernel_rfl) (by kernel_rfl) (by kernel_rfl) (by kernel_rfl) (fun _ _ _ h => h) (Or.inl ⟨by rfl, ?_⟩) (by assumption) ?_
    rotate_left 1
    · intro w' hSw; (go_simp <;> (with_reducible rfl))
    (try simp only [Act.put, List.setIfInBounds_toArray, List.set_cons_zero, List.set_cons_succ])
    refine anyHL_take (i := 1) (oi := { dst := some 13, op := Go.Op.load 24 (Go.Operand.tmp 2), type := 24, pos := "reasm.go:96", after := #[], guard := none }) (v := ?_) rfl (by kernel_rfl) (by kernel_rfl) (by kernel_rfl) (by kernel_rfl) (fun _ _ _ h => h) (Or.inl ⟨by rfl, ?_⟩) (by assumption) ?_
    rotate_left 1
    · intro w' hSw; (go_simp <;> (with_reducible rfl))
    (try simp only [Act.put, List.setIfInBounds_toArray, List.set_cons_zero, List.set_cons_succ])
    refine anyHL_take (i := 2) (oi := { dst := some 14, op := Go.Op.move (Go.Operand.tmp 0), type := 3, pos := "reasm.go:96", after := #[], guard := none }) (v := ?_) rfl (by kernel_rfl) (by kernel_rfl) (by kernel_rfl) (by kernel_rfl) (fun _ _ _ h => h) (Or.inl ⟨by rfl, ?_⟩) (by assumption) ?_
    rotate_left 1
    · intro w' hSw; (go_simp <;> (with_reducible rfl))
    (try simp only [Act.put, List.setIfInBounds_toArray, List.set_cons_zero, List.set_cons_succ])
    refine anyHL_take (i := 4) (oi := { dst := some 16, op := Go.Op.load 24 (Go.Operand.tmp 2), type := 24, pos := "reasm.go:96", after := #[], guard := none }) (v := ?_) rfl (by kernel_rfl) (by kernel_rfl) (by kernel_rfl) (by kernel_rfl) (fun _ _ _ h => h) (Or.inl ⟨by rfl, ?_⟩) (by assumption) ?_
    rotate_left 1
    · intro w' hSw; (go_simp <;> (with_reducible rfl))
    (try simp only [Act.put, List.setIfInBounds_toArray, List.set_cons_zero, List.set_cons_succ])
    refine anyHL_take (i := 5) (oi := { dst := some 17, op := Go.Op.move (Go.Operand.tmp 1), type := 3, pos := "reasm.go:96", after := #[], guard := none }) (v := ?_) rfl (by kernel_rfl) (by kernel_rfl) (by kernel_rfl) (by kernel_rfl) (fun _ _ _ h => h) (Or.inl ⟨by rfl, ?_⟩) (by assumption) ?_
    rotate_left 1
    · intro w' hSw; (go_simp <;> (with_reducible rfl))
    (try simp only [Act.put, List.setIfInBounds_toArray, List.set_cons_zero, List.set_cons_succ])
    refine anyHL_one (i := 3) (o := { dst := some 15, op := Go.Op.call { callee := Go.Callee.value (Go.Operand.func 30), args := #[Go.Operand.tmp 13, Go.Operand.tmp 14], argTypes := #[24, 3] }, type := 22, pos := "reasm.go:96", after := #[{ on := 1, ground := Go.Ground.data }, { on := 2, ground := Go.Ground.data }], guard := none }) (by kernel_rfl) rfl (by kernel_rfl) (fun K hK => ?_)
    go_simp
    refine HN1.out.mono ?_; rintro e w' ⟨rfl, rfl⟩
    refine hK.out _ _ ?_ (fun hHeld => ?_)
    · exact HS6.out
    clear hK K
    (try simp only [Act.put, List.setIfInBounds_toArray, List.set_cons_zero, List.set_cons_succ])
    refine anyHL_one (i := 6) (o := { dst := some 18, op := Go.Op.call { callee := Go.Callee.value (Go.Operand.func 30), args := #[Go.Operand.tmp 16, Go.Operand.tmp 17], argTypes := #[24, 3] }, type := 22, pos := "reasm.go:96", after := #[{ on := 4, ground := Go.Ground.data }, { on := 5, ground := Go.Ground.data }, { on := 3, ground := Go.Ground.chain }], guard := none }) (by kernel_rfl) rfl (by kernel_rfl) (fun K hK => ?_)
    go_simp
    refine HN2.out.mono ?_; rintro e w' ⟨rfl, rfl⟩
    refine hK.out _ _ ?_ (fun hHeld => ?_)
    · exact HS6.out
    clear hK K
    (try simp only [Act.put, List.setIfInBounds_toArray, List.set_cons_zero, List.set_cons_succ])
    refine anyHL_take (i := 7) (oi := { dst := some 19, op := Go.Op.build 60 #[(0, Go.Operand.tmp 15), (1, Go.Operand.tmp 18)], type := 60, pos := "reasm.go:96", after := #[{ on := 3, ground := Go.Ground.data }, { on := 6, ground := Go.Ground.data }], guard := none }) (v := ?_) rfl (by kernel_rfl) (by kernel_rfl) (by kernel_rfl) (by kernel_rfl) (fun _ _ _ h => h) (Or.inl ⟨by rfl, ?_⟩) (by assumption) ?_
    rotate_left 1
    · intro w' hSw; (go_simp <;> (with_reducible rfl))
    (try simp only [Act.put, List.setIfInBounds_toArray, List.set_cons_zero, List.set_cons_succ])
    refine anyHL_one (i := 8) (o := { dst := some 20, op := Go.Op.buildSlice 47 1 #[(0, Go.Operand.tmp 19)], type := 47, pos := "reasm.go:96", after := #[{ on := 7, ground := Go.Ground.data }], guard := none }) (by kernel_rfl) rfl (by kernel_rfl) (fun K hK => ?_)
    go_simp
    skip
    refine hK.out _ _ ?_ (fun hHeld => ?_)
    · exact HSA.out
    clear hK K
    (try simp only [Act.put, List.setIfInBounds_toArray, List.set_cons_zero, List.set_cons_succ])
    refine anyHL_one (i := 9) (o := { dst := some 21, op := Go.Op.call { callee := Go.Callee.builtin Go.Builtin.append, args := #[Go.Operand.tmp 12, Go.Operand.tmp 20], argTypes := #[47, 47] }, type := 47, pos := "reasm.go:96", after := #[{ on := 0, ground := Go.Ground.data }, { on := 8, ground := Go.Ground.data }, { on := 6, ground := Go.Ground.chain }], guard := none }) (by kernel_rfl) rfl (by kernel_rfl) (fun K hK => ?_)
    refine step_appX rfl (.tmp 12) (.tmp 20) _ _ rfl rfl _ _ _ w7 rfl rfl Hrun.out ?_
    refine hK.out _ _ ?_ (fun hHeld => ?_)
    · exact And.intro H7.out.1 H7.out.2.1
    clear hK K
    (try simp only [Act.put, List.setIfInBounds_toArray, List.set_cons_zero, List.set_cons_succ])
    obtain ⟨d0, d1, d2⟩ := H7.out
    refine anyHL_last (o := { dst := none, op := Go.Op.store 47 (Go.Operand.tmp 3) (Go.Operand.tmp 21), type := 0, pos := "reasm.go:96", after := #[{ on := 9, ground := Go.Ground.data }, { on := 9, ground := Go.Ground.chain }, { on := 0, ground := Go.Ground.phase }, { on := 1, ground := Go.Ground.phase }, { on := 2, ground := Go.Ground.phase }, { on := 3, ground := Go.Ground.phase }, { on := 4, ground := Go.Ground.phase }, { on := 5, ground := Go.Ground.phase }, { on := 6, ground := Go.Ground.phase }, { on := 7, ground := Go.Ground.phase }, { on := 8, ground := Go.Ground.phase }, { on := 9, ground := Go.Ground.phase }], guard := none }) (by kernel_rfl) rfl (by kernel_rfl) (fun K hK => ?_)
    go_simp
    skip
    refine hK.out _ _ ?_
    clear hK K
    (try simp only [Act.put, List.setIfInBounds_toArray, List.set_cons_zero, List.set_cons_succ])
    go_wp2_with fail
    go_end0
    exact ⟨rfl, _, HP.out⟩
end Go.Proofs.Ytmmnicnebammhaa
