/-
  The contract of package pool's goOn: time goes on, rests that end by then are over.
-/
import Derived.Test.YtlifldionfoddaaPoolPure
import Derived.Lib.SliceRun
namespace Go.Proofs.Ytlifldionfoddaa
set_option maxRecDepth 10000
open Go.RowKit
set_option linter.unusedSimpArgs false
set_option linter.unusedVariables false

theorem Sl.cons {w : World} {T : TypeId} {k : IntKind} {v : Value} {x : Int} {l : List Int} (h : Sl w T k v (x :: l)) : ∃ g o c, v = .slice (some ⟨g, o, none⟩) (l.length + 1) c ∧ Row w T k g o (x :: l) c := by
  rcases h with ⟨_, h⟩ | ⟨g, o, c, e, hr⟩
  · cases h
  · exact ⟨g, o, c, e, hr⟩
theorem info_u64s : (Try.prog.info? 23).map (fun i => (i.zero, i.size, i.bytes)) = some (some (.int .u64 0), 1, 8) := by kernel_rfl
theorem info_u16e : (Try.prog.info? 22).map (fun i => (i.zero, i.size, i.bytes)) = some (some (.int .u16 0), 1, 2) := by kernel_rfl
theorem info_state : (Try.prog.info? 53).map (fun i => (i.zero, i.size, i.bytes)) = some (some (.int .u8 0), 1, 1) := by kernel_rfl
/-- s[1:]. -/
def tailV (g o n c : Nat) : Value := if c = 1 then .slice (some ⟨g, o, none⟩) 0 0 else .slice (some ⟨g, o + 1, none⟩) n (c - 1)
theorem tail_run (g o n c : Nat) (hn : n + 1 ≤ c) :
    ∃ A2 c2, tailV g o n c = .slice A2 n c2 ∧ (∀ W : World, (Instr.slice 50 (.slice (some ⟨g, o, none⟩) (n + 1) c) (some (.int .i64 1)) none none).run Try.prog W = .ok (.slice A2 n c2) W) ∧ (tailV g o n c).ownBlock = some g := by
  obtain ⟨i0, hi, hz0, hz1, hz2⟩ := info_parts info_u64s
  unfold tailV
  by_cases h1 : c = 1
  · subst h1
    have hl0 : n = 0 := by omega
    subst hl0
    refine ⟨_, _, rfl, fun W => ?_, rfl⟩
    simp [Instr.slice, Instr.sliceBounds, Instr.sliceBound, run_underlying Try.underlying50, asIntOf, sizeOf, typeInfo, hi, hz1, Result.andThen]
  · rw [if_neg h1]
    refine ⟨_, _, rfl, fun W => ?_, rfl⟩
    have h2 : ¬ c = 1 := h1
    have h3 : (1 : Int) ≤ (n : Int) + 1 := by omega
    simp [Instr.slice, Instr.sliceBounds, Instr.sliceBound, run_underlying Try.underlying50, asIntOf, sizeOf, typeInfo, hi, hz1, h2, h3, Go.WideShapes.add_plain, Result.andThen]
theorem sl_tail {w : World} {g o c : Nat} {x : Int} {l : List Int} (h : Row w 23 .u64 g o (x :: l) c) : Sl w 23 .u64 (tailV g o l.length c) l := by
  have hlen : l.length + 1 ≤ c := by obtain ⟨_, _, _, hl, _⟩ := h; simpa using hl
  unfold tailV
  by_cases h1 : c = 1
  · rw [if_pos h1]
    have hl0 : l = [] := List.eq_nil_of_length_eq_zero (by omega)
    subst hl0
    exact .inr ⟨g, o, 0, rfl, h.bare⟩
  · rw [if_neg h1]
    exact .inr ⟨g, o + 1, c - 1, rfl, h.tail⟩
/-- The pool behind a rest that is over, in memory, but for ends. -/
theorem MemAt.state {w w' : World} {S : Nat → Prop} {g gp cp gm : Nat} {vE : Value} {R : Int → Value} {q q' : PS} (h : MemAt w S g gp cp gm vE R q) (hlo : q'.lo = q.lo) (hL : q'.L = q.L) (hb : But (fun k => k = g ∨ k = gp) w w')
    (hg : w'.heap[g]? = some (.cells (poolC g q' gp cp gm vE) 52 (0, 0))) (hr : Row w' 53 .u8 gp 0 q'.st cp) : MemAt w' S g gp cp gm vE R q' := by
  have ne : ∀ {b : Nat} {o : Obj}, w.heap[b]? = some o → (∀ C, o ≠ .cells C 52 (0, 0)) → (∀ C, o ≠ .cells C 53 (0, 0)) → ¬ (b = g ∨ b = gp) := by
    intro b o hbo h1 h2 hh
    rcases hh with rfl | rfl
    · have := h.box
      rw [hbo] at this
      injection this with this
      exact h1 _ this
    · obtain ⟨C, hC, _⟩ := h.row
      rw [hbo] at hC
      injection hC with hC
      exact h2 _ hC
  have hmap : ¬ (gm = g ∨ gm = gp) := by
    obtain ⟨es, clock, hm, _⟩ := h.map
    exact ne hm (fun C => by simp) (fun C => by simp)
  refine ⟨hg, hr, ?_, ?_, fun e ps hm => ?_, ?_, h.sg, h.sp, h.sm, h.se, ?_, fun k hk => hb.lt (h.lt k hk)⟩
  · rw [hL]; exact h.map.but hb hmap
  · rw [hL]
    refine h.ends.but hb (fun b hb' => ?_)
    obtain ⟨C, hC⟩ := h.ends.type hb'
    exact ne hC (fun C' e => by injection e with _ e; revert e; decide) (fun C' e => by injection e with _ e; revert e; decide)
  · rw [hL] at hm
    rw [hlo]
    refine (h.rows e ps hm).but hb (fun b hb' => ?_)
    obtain ⟨C, hC⟩ := (h.rows e ps hm).type hb'
    exact ne hC (fun C' e => by injection e with _ e; revert e; decide) (fun C' e => by injection e with _ e; revert e; decide)
  · rw [hL]; exact h.apart
  · rw [hL]; exact h.sr
theorem MemAt.gp_ne {w : World} {S : Nat → Prop} {g gp cp gm : Nat} {vE : Value} {R : Int → Value} {q : PS} (h : MemAt w S g gp cp gm vE R q) : g ≠ gp := by
  rintro rfl
  obtain ⟨C, hC, _⟩ := h.row
  have := h.box
  rw [hC] at this
  injection this with this
  injection this with _ e
  revert e
  decide
/-- turn, of a pool: port i from state a to state b. -/
theorem turn_mem {a b : Int} (hab : (a = 0 ∧ b = 1) ∨ (a = 1 ∧ b = 2) ∨ (a = 2 ∧ b = 0)) (S : Nat → Prop) (g gp cp gm i : Nat) (vE : Value) (R : Int → Value) (q : PS) (p : Int) (w : World) (h : MemAt w S g gp cp gm vE R q) (hlo : 0 ≤ q.lo) (hl : q.lo + q.st.length ≤ 65536) (hi : i < q.st.length) (hs : q.st.getD i 0 = a) (hp : p = q.lo + (i : Int)) :
    Calls Try.prog 20 #[.pointer (some ⟨g, 0, none⟩), .int .u16 p, .int .u8 b] w fun e w' => e = .returned (.tuple #[]) ∧ MemAt w' S g gp cp gm vE R { q with st := q.st.set i b } ∧ But S w w' := by
  subst hp
  have hb0 := cntS_bd q.st 0 (by omega)
  have hb1 := cntS_bd q.st 1 (by omega)
  have hb2 := cntS_bd q.st 2 (by omega)
  have fin : ∀ C' e w', C' = poolC g { q with st := q.st.set i b } gp cp gm vE → TurnIs g gp cp C' (q.st.set i b) w e w' → e = .returned (.tuple #[]) ∧ MemAt w' S g gp cp gm vE R { q with st := q.st.set i b } ∧ But S w w' := by
    rintro C' e w' rfl ⟨rfl, h1, h2, h3⟩
    refine ⟨rfl, h.state rfl rfl h3 h1 h2, h3.mono (fun k _ hk => ?_)⟩
    rcases hk with rfl | rfl
    · exact h.sg
    · exact h.sp
  rcases hab with ⟨rfl, rfl⟩ | ⟨rfl, rfl⟩ | ⟨rfl, rfl⟩
  · refine (turn_01 g gp cp i q.lo _ _ _ _ _ _ _ _ q.st w h.box h.row hi hs h.gp_ne hlo hl hb0 hb1 hb2).mono (fun e w' => fin _ e w' ?_)
    simp [poolC, cntS_set hi hs]
  · refine (turn_12 g gp cp i q.lo _ _ _ _ _ _ _ _ q.st w h.box h.row hi hs h.gp_ne hlo hl hb0 hb1 hb2).mono (fun e w' => fin _ e w' ?_)
    simp [poolC, cntS_set hi hs]
  · refine (turn_20 g gp cp i q.lo _ _ _ _ _ _ _ _ q.st w h.box h.row hi hs h.gp_ne hlo hl hb0 hb1 hb2).mono (fun e w' => fin _ e w' ?_)
    simp [poolC, cntS_set hi hs]
theorem MemAt.m_ne {w : World} {S : Nat → Prop} {g gp cp gm : Nat} {vE : Value} {R : Int → Value} {q : PS} (h : MemAt w S g gp cp gm vE R q) {b : Nat} {C : Array Value} {T : TypeId} {fr : Nat × Nat} (hb : w.heap[b]? = some (.cells C T fr)) : b ≠ gm := by
  rintro rfl
  obtain ⟨es, clock, hm, _⟩ := h.map
  rw [hb] at hm
  cases hm
theorem MemAt.e_ne {w : World} {S : Nat → Prop} {g gp cp gm : Nat} {vE : Value} {R : Int → Value} {q : PS} (h : MemAt w S g gp cp gm vE R q) {b : Nat} (hb : vE.ownBlock = some b) : b ≠ g ∧ b ≠ gp ∧ ∀ e ps, (e, ps) ∈ q.L → (R e).ownBlock ≠ some b := by
  obtain ⟨C, hC⟩ := h.ends.type hb
  refine ⟨?_, ?_, fun e ps hm he => ?_⟩
  · rintro rfl
    have := h.box
    rw [hC] at this
    injection this with this
    injection this with _ e
    revert e; decide
  · rintro rfl
    obtain ⟨C', hC', _⟩ := h.row
    rw [hC] at hC'
    injection hC' with this
    injection this with _ e
    revert e; decide
  · obtain ⟨C', hC'⟩ := (h.rows e ps hm).type he
    rw [hC] at hC'
    injection hC' with this
    injection this with _ e
    revert e; decide
theorem MemAt.r_ne {w : World} {S : Nat → Prop} {g gp cp gm : Nat} {vE : Value} {R : Int → Value} {q : PS} (h : MemAt w S g gp cp gm vE R q) {e : Int} {ps : List Nat} (hm : (e, ps) ∈ q.L) {b : Nat} (hb : (R e).ownBlock = some b) : b ≠ g ∧ b ≠ gp := by
  obtain ⟨C, hC⟩ := (h.rows e ps hm).type hb
  refine ⟨?_, ?_⟩
  · rintro rfl
    have := h.box
    rw [hC] at this
    injection this with this
    injection this with _ e
    revert e; decide
  · rintro rfl
    obtain ⟨C', hC', _⟩ := h.row
    rw [hC] at hC'
    injection hC' with this
    injection this with _ e
    revert e; decide
/-- A cell of the pool's own is stored. -/
theorem MemAt.box_set {w : World} {S : Nat → Prop} {g gp cp gm : Nat} {vE : Value} {R : Int → Value} {q : PS} (h : MemAt w S g gp cp gm vE R q) (j : Nat) (x : Value) (q' : PS) (hlo : q'.lo = q.lo) (hL : q'.L = q.L) (hst : q'.st = q.st)
    (hC : (poolC g q gp cp gm vE).setIfInBounds j x = poolC g q' gp cp gm vE) : MemAt (w.setCell ⟨g, j, none⟩ x) S g gp cp gm vE R q' := by
  refine h.state hlo hL ((But.refl _ _).setCell (.inl rfl) _) ?_ ?_
  · rw [heap_setCell_at h.box, hC]
  · rw [hst]; exact h.row.of_block (Below.heap_setCell _ _ _ _ (fun e => h.gp_ne e.symm))
/-- The first rest is taken out of the map, and of the ends. -/
theorem MemAt.dropped {w w1 : World} {S : Nat → Prop} {g gp cp gm : Nat} {vE v' : Value} {R : Int → Value} {q : PS} {e : Int} {ps : List Nat} {L : List (Int × List Nat)} (h : MemAt w S g gp cp gm vE R q) (hL : q.L = (e, ps) :: L) (hs : q.L.Pairwise (fun a b => a.1 < b.1))
    (hm : MapIs w1 gm (fun a => a ≠ e ∧ ∃ ps, (a, ps) ∈ q.L) R) (hb : But (fun k => k = gm) w w1) (hv : v'.ownBlock = vE.ownBlock) (hE : Sl w 23 .u64 v' (L.map Prod.fst)) :
    MemAt (w1.setCell ⟨g, 9, none⟩ v') S g gp cp gm v' R { q with L := L } ∧ But S w (w1.setCell ⟨g, 9, none⟩ v') := by
  have hgm : g ≠ gm := h.m_ne h.box
  have hne : ∀ a ps', (a, ps') ∈ L → a ≠ e := fun a ps' ha => by
    rw [hL, List.pairwise_cons] at hs
    have := hs.1 _ ha
    simp only at this
    omega
  have hsub : ∀ x, x ∈ L → x ∈ q.L := fun x hx => by rw [hL]; exact .tail _ hx
  have hg1 := hb.blk h.box (show ¬ g = gm from hgm)
  refine ⟨⟨?_, ?_, ?_, ?_, fun a ps' ha => ?_, fun a ps' a' ps'' b h1 h2 => h.apart a ps' a' ps'' b (hsub _ h1) (hsub _ h2), h.sg, h.sp, h.sm, fun b hb' => h.se b (by rw [← hv]; exact hb'), fun a ps' b ha => h.sr a ps' b (hsub _ ha), fun k hk => ?_⟩, ?_⟩
  · rw [heap_setCell_at hg1]
    rfl
  · obtain ⟨C, hC, hr⟩ := h.row
    refine (h.row.but hb ?_).of_block (Below.heap_setCell _ _ _ _ (fun x => h.gp_ne x.symm))
    exact h.m_ne hC
  · refine (hm.but ((But.refl (fun k => k = g) w1).setCell rfl _) (show ¬ gm = g from fun x => hgm x.symm)).congr (fun a => ?_) (fun _ _ => rfl)
    constructor
    · rintro ⟨h1, ps', h2⟩
      rw [hL] at h2
      rcases List.mem_cons.1 h2 with h3 | h3
      · injection h3 with h3 _; exact absurd h3 h1
      · exact ⟨ps', h3⟩
    · rintro ⟨ps', h2⟩
      exact ⟨hne a ps' h2, ps', hsub _ h2⟩
  · refine (hE.but hb (fun b hbE => ?_)).but ((But.refl (fun k => k = g) w1).setCell rfl _) (fun b hbE => (h.e_ne (by rw [← hv]; exact hbE)).1)
    obtain ⟨C, hC⟩ := h.ends.type (by rw [← hv]; exact hbE)
    exact h.m_ne hC
  · refine (((h.rows a ps' (hsub _ ha)).but hb (fun b hb' => ?_))).but ((But.refl (fun k => k = g) w1).setCell rfl _) (fun b hb' => (h.r_ne (hsub _ ha) hb').1)
    obtain ⟨C, hC⟩ := (h.rows a ps' (hsub _ ha)).type hb'
    exact h.m_ne hC
  · have := hb.size
    have := h.lt k hk
    simpa [World.setCell] using (by omega : k < w1.heap.size)
  · exact (hb.mono (fun k _ hk => by subst hk; exact h.sm)).setCell h.sg _
theorem MemAt.drewN {w : World} {S : Nat → Prop} {g gp cp gm : Nat} {vE : Value} {R : Int → Value} {q : PS} (h : MemAt w S g gp cp gm vE R q) (n : Nat) : MemAt (w.drewN n) S g gp cp gm vE R q := h.below (below_drewN (Below.refl _ _) n)
end Go.Proofs.Ytlifldionfoddaa
