/-
  The contract of package pool's layToRest: a port that was taken rests from now on.
-/
import Derived.Test.YtlifldionfoddaaPoolGo
import Derived.Test.YtlifldionfoddaaHeldLast
namespace Go.Proofs.Ytlifldionfoddaa
set_option maxRecDepth 10000
open Go.RowKit
set_option linter.unusedSimpArgs false
set_option linter.unusedVariables false

/-- A rest that is put in: the map, the ends, the row of its ports. -/
theorem MemAt.put {w w' : World} {S : Nat → Prop} {g gp cp gm : Nat} {vE v' V0 V' : Value} {R : Int → Value} {q : PS} {E : Int} {ps' : List Nat} {L' : List (Int × List Nat)} (h : MemAt w S g gp cp gm vE R q)
    (hV0 : V0 = .slice none 0 0 ∨ (V0 = R E ∧ ∃ ps, (E, ps) ∈ q.L)) (hb : But (fun k => k = g ∨ k = gm ∨ vE.ownBlock = some k ∨ V0.ownBlock = some k) w w')
    (hg : w'.heap[g]? = some (.cells (poolC g q gp cp gm v') 52 (0, 0))) (hm : MapIs w' gm (fun a => a = E ∨ ∃ ps, (a, ps) ∈ q.L) (fun a => if a = E then V' else R a))
    (hE : Sl w' 23 .u64 v' (L'.map Prod.fst)) (hV : Sl w' 22 .u16 V' (portsOf q.lo ps')) (hvb : v'.ownBlock = vE.ownBlock ∨ ∀ b, v'.ownBlock = some b → w.heap.size ≤ b) (hVb : V'.ownBlock = V0.ownBlock ∨ ∀ b, V'.ownBlock = some b → w.heap.size ≤ b)
    (hL : ∀ a ps, (a, ps) ∈ L' ↔ (a ≠ E ∧ (a, ps) ∈ q.L) ∨ (a = E ∧ ps = ps')) :
    MemAt w' (fun k => S k ∨ (v'.ownBlock = some k ∨ V'.ownBlock = some k)) g gp cp gm v' (fun a => if a = E then V' else R a) { q with L := L' } := by
  have hV0b : ∀ b, V0.ownBlock = some b → ∃ ps, (E, ps) ∈ q.L ∧ (R E).ownBlock = some b := by
    intro b hb0
    rcases hV0 with rfl | ⟨rfl, ps, hps⟩
    · cases hb0
    · exact ⟨ps, hps, hb0⟩
  have hlow : ∀ b ps a, (a, ps) ∈ q.L → (R a).ownBlock = some b → b < w.heap.size := fun b ps a ha hb0 => h.lt b (h.sr a ps b ha hb0)
  refine ⟨hg, ?_, ?_, hE, fun a ps ha => ?_, fun a ps a' ps'' b h1 h2 e1 e2 => ?_, .inl h.sg, .inl h.sp, .inl h.sm, fun b hb' => .inr (.inl hb'), fun a ps b ha hb' => ?_, fun k hk => ?_⟩
  · refine h.row.but hb (fun hk => ?_)
    obtain ⟨C, hC, _⟩ := h.row
    rcases hk with rfl | rfl | hk | hk
    · exact h.gp_ne rfl
    · exact h.m_ne hC rfl
    · exact (h.e_ne hk).2.1 rfl
    · obtain ⟨ps, hps, hk⟩ := hV0b _ hk
      exact (h.r_ne hps hk).2 rfl
  · refine hm.congr (fun a => ?_) (fun _ _ => rfl)
    constructor
    · intro ha
      by_cases hae : a = E
      · exact ⟨ps', (hL a ps').2 (.inr ⟨hae, rfl⟩)⟩
      · rcases ha with ha | ⟨ps, ha⟩
        · exact absurd ha hae
        · exact ⟨ps, (hL a ps).2 (.inl ⟨hae, ha⟩)⟩
    · rintro ⟨ps, ha⟩
      rcases (hL a ps).1 ha with ⟨_, ha⟩ | ⟨ha, _⟩
      · exact .inr ⟨ps, ha⟩
      · exact .inl ha
  · simp only
    rcases (hL a ps).1 ha with ⟨hne, ha⟩ | ⟨rfl, rfl⟩
    · rw [if_neg hne]
      refine (h.rows a ps ha).but hb (fun b hb' hk => ?_)
      obtain ⟨C, hC⟩ := (h.rows a ps ha).type hb'
      rcases hk with rfl | rfl | hk | hk
      · exact (h.r_ne ha hb').1 rfl
      · exact h.m_ne hC rfl
      · exact (h.e_ne hk).2.2 a ps ha hb'
      · obtain ⟨ps2, hps, hk⟩ := hV0b _ hk
        exact hne (h.apart a ps E ps2 b ha hps hb' hk)
    · rw [if_pos rfl]; exact hV
  · have key : ∀ a ps b, (a, ps) ∈ q.L → a ≠ E → (R a).ownBlock = some b → V'.ownBlock ≠ some b := by
      intro a ps b ha hne hb1 hb2
      rcases hVb with h3 | h3
      · rw [h3] at hb2
        obtain ⟨ps2, hps, hk⟩ := hV0b _ hb2
        exact hne (h.apart a ps E ps2 b ha hps hb1 hk)
      · have := h3 b hb2
        have := hlow b ps a ha hb1
        omega
    rcases (hL a ps).1 h1 with ⟨n1, m1⟩ | ⟨n1, _⟩
    · rw [if_neg n1] at e1
      rcases (hL a' ps'').1 h2 with ⟨n2, m2⟩ | ⟨n2, _⟩
      · rw [if_neg n2] at e2
        exact h.apart a ps a' ps'' b m1 m2 e1 e2
      · rw [if_pos n2] at e2
        exact absurd e2 (key a ps b m1 n1 e1)
    · rw [if_pos n1] at e1
      rcases (hL a' ps'').1 h2 with ⟨n2, m2⟩ | ⟨n2, _⟩
      · rw [if_neg n2] at e2
        exact absurd e1 (key a' ps'' b m2 n2 e2)
      · exact n1.trans n2.symm
  · rcases (hL a ps).1 ha with ⟨hne, ha⟩ | ⟨rfl, rfl⟩
    · rw [if_neg hne] at hb'
      exact .inl (h.sr a ps b ha hb')
    · rw [if_pos rfl] at hb'
      exact .inr (.inr hb')
  · rcases hk with hk | hk | hk
    · exact hb.lt (h.lt k hk)
    · exact hE.lt hk
    · exact hV.lt hk
def LayIs (S : Nat → Prop) (g gp cp gm i : Nat) (q : PS) (w : World) (e : Ending) (w' : World) : Prop :=
  e = .returned (.tuple #[]) ∧ ∃ S' L' v' R', MemAt w' S' g gp cp gm v' R' (restQ q i L') ∧ Added (q.now + q.rest) i q.L L' ∧ But S w w' ∧ ∀ k, S' k → S k ∨ w.heap.size ≤ k
theorem sl_form2 {w : World} {T : TypeId} {k : IntKind} {v : Value} {l : List Int} (h : Sl w T k v l) : ∃ A n c, v = .slice A n c := by
  obtain ⟨A, c, e, _⟩ := h.form
  exact ⟨A, _, c, e⟩
theorem sl_app_form {P : Program} (w : World) (t ty T : TypeId) (k : IntKind) (by_ : Nat) (ht : P.underlying t = some (.slice T)) (hi : (P.info? T).map (fun i => (i.zero, i.size, i.bytes)) = some (some (.int k 0), 1, by_)) (hby : by_ ≤ 8)
    (v v2 : Value) (l l2 : List Int) (h : Sl w T k v l) (h2 : Sl w T k v2 l2) (hs : l.length + l2.length ≤ 17592186044416) :
    ∃ A n c w', (Builtin.append_ #[t, t] ty #[v, v2]).run P w = .ok (.slice A n c) w' ∧ Sl w' T k (.slice A n c) (l ++ l2) ∧ But (fun g => v.ownBlock = some g) w w' ∧ ((Value.slice A n c).ownBlock = v.ownBlock ∨ (Value.slice A n c).ownBlock = some w.heap.size) ∧ (At0 v → At0 (.slice A n c)) := by
  obtain ⟨v', w', hr, h3, h4, h5, _, h6⟩ := sl_app w t ty T k by_ ht hi hby v v2 l l2 h h2 hs
  obtain ⟨A, n, c, rfl⟩ := sl_form2 h3
  exact ⟨A, n, c, w', hr, h3, h4, h5, h6⟩
/-- Region 4: a port put behind the row at E: what the run does there, step by step, and what stands then. -/
theorem put_runs {w1 w3 : World} {S : Nat → Prop} {g gp cp gm i : Nat} {vE v' V0 : Value} {R : Int → Value} {q : PS} {E : Int} {ps0 : List Nat} {L' : List (Int × List Nat)} (h : MemAt w1 S g gp cp gm vE R q) (hn : ps0.length ≤ 65536)
    (hV0 : (V0 = .slice none 0 0 ∧ ps0 = [] ∧ ¬ ∃ ps, (E, ps) ∈ q.L) ∨ (V0 = R E ∧ (E, ps0) ∈ q.L)) (hb : But (fun k => k = g ∨ vE.ownBlock = some k) w1 w3)
    (hg : w3.heap[g]? = some (.cells (poolC g q gp cp gm v') 52 (0, 0))) (hE : Sl w3 23 .u64 v' (L'.map Prod.fst)) (hvb : v'.ownBlock = vE.ownBlock ∨ ∀ b, v'.ownBlock = some b → w1.heap.size ≤ b)
    (hL : ∀ a ps, (a, ps) ∈ L' ↔ (a ≠ E ∧ (a, ps) ∈ q.L) ∨ (a = E ∧ ps = ps0 ++ [i])) :
    ∃ A0 n0 c0 A5 n5 c5 w5 w6, V0 = .slice A0 n0 c0 ∧
      (∀ W, But (fun k => V0.ownBlock = some k) w3.drew W → W.cell? ⟨g, 8, none⟩ = some (.map (some gm)) ∧ (Instr.lookup 49 (.map (some gm)) (.int .u64 E) false).run Try.prog W = .ok (.slice A0 n0 c0) W) ∧
      (Builtin.append_ #[61, 61] 61 #[.slice A0 n0 c0, .slice (some ⟨w3.drew.heap.size, 0, none⟩) 1 1]).run Try.prog (w3.drew.alloc (.cells #[.int .u16 (q.lo + (i : Int))] 22)) = .ok (.slice A5 n5 c5) w5 ∧
      But (fun k => V0.ownBlock = some k) w3.drew w5 ∧
      (Instr.mapUpdate 49 (.map (some gm)) (.int .u64 E) (.slice A5 n5 c5)).run Try.prog w5 = .ok () w6 ∧
      MemAt w6 (fun k => S k ∨ (v'.ownBlock = some k ∨ (Value.slice A5 n5 c5).ownBlock = some k)) g gp cp gm v' (fun a => if a = E then .slice A5 n5 c5 else R a) { q with L := L' } ∧ But S w1 w6 ∧
      (∀ k, (S k ∨ (v'.ownBlock = some k ∨ (Value.slice A5 n5 c5).ownBlock = some k)) → S k ∨ w1.heap.size ≤ k) := by
  have hgm : gm ≠ g := fun e => h.m_ne h.box e.symm
  have hV0s : Sl w1 22 .u16 V0 (portsOf q.lo ps0) := by
    rcases hV0 with ⟨rfl, rfl, _⟩ | ⟨rfl, hm⟩
    · exact Sl.nil _ _ _
    · exact h.rows E ps0 hm
  have hV0b : ∀ b, V0.ownBlock = some b → b ≠ g ∧ b ≠ gm ∧ vE.ownBlock ≠ some b ∧ S b ∧ b ≠ gp := by
    intro b hb0
    rcases hV0 with ⟨rfl, _, _⟩ | ⟨rfl, hm⟩
    · cases hb0
    · obtain ⟨C, hC⟩ := (h.rows E ps0 hm).type hb0
      exact ⟨(h.r_ne hm hb0).1, h.m_ne hC, fun hE => (h.e_ne hE).2.2 E ps0 hm hb0, h.sr E ps0 b hm hb0, (h.r_ne hm hb0).2⟩
  have hEm : vE.ownBlock ≠ some gm := fun hE => by obtain ⟨C, hC⟩ := h.ends.type hE; exact h.m_ne hC rfl
  have hm3 : MapIs w3 gm (fun e => ∃ ps, (e, ps) ∈ q.L) R := h.map.but hb (fun hk => hk.elim hgm hEm)
  have hV3 : Sl w3.drew 22 .u16 V0 (portsOf q.lo ps0) := (hV0s.but hb (fun b hb0 hk => hk.elim (hV0b b hb0).1 (hV0b b hb0).2.2.1)).but (But.refl (fun _ => False) w3).drew (fun _ _ x => x)
  obtain ⟨A0, n0, c0, e0⟩ := sl_form2 hV3
  have hlen : (portsOf q.lo ps0).length = ps0.length := by simp [portsOf]
  obtain ⟨A5, n5, c5, w5, hr5, hs5, hb5, hblk, _⟩ := sl_app_form (P := Try.prog) (w3.drew.alloc (.cells #[.int .u16 (q.lo + (i : Int))] 22)) 61 61 22 .u16 2 Try.underlying61 info_u16e (by omega) V0 _ (portsOf q.lo ps0) [q.lo + (i : Int)]
    (hV3.but ((But.refl (fun _ => False) w3.drew).alloc _) (fun _ _ x => x)) (Row.one _ _ _ _ rfl) (by rw [hlen]; simp; omega)
  have hB5 : But (fun k => V0.ownBlock = some k) w3.drew w5 := ((But.refl _ _).alloc _).trans hb5
  have hB35 : But (fun k => V0.ownBlock = some k) w3 w5 := ((But.refl _ _).drew).trans hB5
  have hm5 : MapIs w5 gm (fun e => ∃ ps, (e, ps) ∈ q.L) R := hm3.but hB35 (fun hk => (hV0b gm hk).2.1 rfl)
  have hlook : ∀ W, MapIs W gm (fun e => ∃ ps, (e, ps) ∈ q.L) R → (Instr.lookup 49 (.map (some gm)) (.int .u64 E) false).run Try.prog W = .ok (.slice A0 n0 c0) W := by
    intro W hW
    rcases hV0 with ⟨e1, _, hno⟩ | ⟨e1, hm⟩
    · rw [hW.look_no hno, ← e0, e1]
    · rw [hW.look ⟨ps0, hm⟩, ← e0, e1]
  have hput : ∃ w6, (Instr.mapUpdate 49 (.map (some gm)) (.int .u64 E) (.slice A5 n5 c5)).run Try.prog w5 = .ok () w6 ∧ MapIs w6 gm (fun a => a = E ∨ ∃ ps, (a, ps) ∈ q.L) (fun a => if a = E then .slice A5 n5 c5 else R a) ∧ But (fun k => k = gm) w5 w6 := by
    rcases hV0 with ⟨_, _, hno⟩ | ⟨_, hm⟩
    · exact hm5.put_new hno _
    · obtain ⟨w6, h1, h2, h3⟩ := hm5.put_old ⟨ps0, hm⟩ (.slice A5 n5 c5)
      refine ⟨w6, h1, h2.congr (fun a => ⟨.inr, fun hk => ?_⟩) (fun _ _ => rfl), h3⟩
      rcases hk with rfl | hk
      · exact ⟨ps0, hm⟩
      · exact hk
  obtain ⟨w6, hr6, hm6, hb6⟩ := hput
  have hall : But (fun k => k = g ∨ k = gm ∨ vE.ownBlock = some k ∨ V0.ownBlock = some k) w1 w6 :=
    ((hb.mono (fun k _ hk => by rcases hk with hk | hk; exact .inl hk; exact .inr (.inr (.inl hk)))).trans (hB35.mono (fun k _ hk => .inr (.inr (.inr hk))))).trans (hb6.mono (fun k _ hk => .inr (.inl hk)))
  have hv'b : ∀ b, v'.ownBlock = some b → b ≠ gm ∧ V0.ownBlock ≠ some b ∧ b < w3.heap.size := by
    intro b hb0
    obtain ⟨C, hC⟩ := hE.type hb0
    refine ⟨?_, fun hk => ?_, lt_of_block hC⟩
    · rintro rfl
      obtain ⟨es, cl, hm, _⟩ := hm3
      rw [hC] at hm
      cases hm
    · obtain ⟨C', hC'⟩ := hV3.type hk
      have : w3.drew.heap[b]? = w3.heap[b]? := rfl
      rw [this, hC] at hC'
      injection hC' with e
      injection e with _ e
      revert e; decide
  have hg6 : w6.heap[g]? = some (.cells (poolC g q gp cp gm v') 52 (0, 0)) := hb6.blk (hB35.blk hg (fun hk => (hV0b g hk).1 rfl)) (fun e => hgm e.symm)
  have hs5' : Sl w6 22 .u16 (.slice A5 n5 c5) (portsOf q.lo (ps0 ++ [i])) := by
    have e : portsOf q.lo (ps0 ++ [i]) = portsOf q.lo ps0 ++ [q.lo + (i : Int)] := by simp [portsOf]
    rw [e]
    refine hs5.but hb6 (fun b hb0 => ?_)
    obtain ⟨C, hC⟩ := hs5.type hb0
    rintro rfl
    obtain ⟨es, cl, hm, _⟩ := hm5
    rw [hC] at hm
    cases hm
  have hVb : (Value.slice A5 n5 c5).ownBlock = V0.ownBlock ∨ ∀ b, (Value.slice A5 n5 c5).ownBlock = some b → w1.heap.size ≤ b := by
    rcases hblk with hk | hk
    · exact .inl hk
    · refine .inr (fun b hb0 => ?_)
      rw [hk] at hb0
      injection hb0 with hb0
      have h1 := hb.size
      have h2 : w3.heap.size ≤ (w3.drew.alloc (.cells #[.int .u16 (q.lo + (i : Int))] 22)).heap.size := (((But.refl (fun _ => False) w3).drew).alloc _).size
      omega
  refine ⟨A0, n0, c0, A5, n5, c5, w5, w6, e0, fun W hW => ⟨?_, hlook W (hm3.but (((But.refl _ _).drew).trans hW) (fun hk => (hV0b gm hk).2.1 rfl))⟩, by rw [← e0]; exact hr5, hB5, hr6, ?_, hall.mono (fun k _ hk => ?_), fun k hk => ?_⟩
  · have := hW.blk (show w3.drew.heap[g]? = _ from hg) (fun hk => (hV0b g hk).1 rfl)
    exact (cells10 this).2.2.2.2.2.2.2.2.1
  · refine h.put (hV0.imp (fun x => x.1) (fun x => ⟨x.1, ps0, x.2⟩)) hall hg6 hm6 ((hE.but hB35 (fun b hb0 hk => (hv'b b hb0).2.1 hk)).but hb6 (fun b hb0 hk => (hv'b b hb0).1 hk)) hs5' hvb hVb hL
  · rcases hk with rfl | rfl | hk | hk
    · exact h.sg
    · exact h.sm
    · exact h.se k hk
    · exact (hV0b k hk).2.2.2.1
  · rcases hk with hk | hk | hk
    · exact .inl hk
    · rcases hvb with h1 | h1
      · exact .inl (h.se k (by rw [← h1]; exact hk))
      · exact .inr (h1 k hk)
    · rcases hVb with h1 | h1
      · exact .inl (hV0b k (by rw [← h1]; exact hk)).2.2.2.1
      · exact .inr (h1 k hk)
end Go.Proofs.Ytlifldionfoddaa
