/-
  The document's own buffer (culvertref18): Ready, Take, New.
-/
import Derived.Test.YtmmnicnebammhaaRmSame
import Derived.Test.YtmmnicnebammhaaRmHalfP
import Derived.Test.YtmmnicnebammhaaSlVCut
namespace Go.Proofs.Ytmmnicnebammhaa
set_option maxRecDepth 10000
open Go.RowKit
set_option linter.unusedSimpArgs false
set_option linter.unusedVariables false

def isV (L : BL) : List Value := L.map (fun o => .bool o.isSome)
def byV (L : BL) : List Value := L.map (fun o => .int .u8 (o.getD 0))
/-- The document's buffer in memory. -/
def RefR (w : World) (S : Nat → Prop) (g : Nat) (at_ : Int) (L : BL) : Prop :=
  ∃ vI vB, w.heap[g]? = some (.cells #[.int .u32 at_, vI, vB] 37 (0, 0)) ∧ SlV w 4 1 vI L.length (isV L) ∧ SlV w 5 1 vB L.length (byV L) ∧ S g ∧ (∀ b, vI.ownBlock = some b → S b) ∧ (∀ b, vB.ownBlock = some b → S b) ∧ ∀ k, S k → k < w.heap.size
theorem RefR.but {w w' : World} {S T : Nat → Prop} {g : Nat} {at_ : Int} {L : BL} (h : RefR w S g at_ L) (hb : But T w w') (hT : ∀ k, S k → ¬ T k) : RefR w' S g at_ L := by
  obtain ⟨vI, vB, h1, h2, h3, h4, h5, h6, h7⟩ := h
  exact ⟨vI, vB, hb.blk h1 (hT _ h4), h2.but hb (fun b hb' => hT _ (h5 b hb')), h3.but hb (fun b hb' => hT _ (h6 b hb')), h4, h5, h6, fun k hk => hb.lt (h7 k hk)⟩
theorem bool_index {w : World} {v : Value} {n : Nat} {L : BL} (h : SlV w 4 1 v n (isV L)) (hn : L.length = n) : ∃ A c, v = .slice A n c ∧ ∀ j, j < n → ∃ g o, A = some ⟨g, o, none⟩ ∧
    (∀ W : World, (Instr.indexAt 35 (.slice A n c) (.int .i64 (j : Int))).run Try.prog W = .ok (.pointer (some ⟨g, o + j, none⟩)) W) ∧ w.cell? ⟨g, o + j, none⟩ = some (.bool (isB L j)) := by
  rcases h with ⟨rfl, rfl, _⟩ | ⟨g, o, c, rfl, h⟩
  · exact ⟨_, _, rfl, fun j hj => by omega⟩
  · refine ⟨_, _, rfl, fun j hj => ⟨g, o, rfl, ?_⟩⟩
    obtain ⟨C, hg, hC, hl, hnc, hm, hc⟩ := h
    have k0 : (0 : Int) ≤ (j : Int) := by omega
    have k1 : (j : Int) < (n : Int) := by omega
    refine ⟨fun W => by go_simp, ?_⟩
    rw [blk_cell hg, hc j (by unfold isV; rw [List.length_map]; omega)]
    unfold isV isB
    rw [List.getElem?_map, List.getD, List.getElem?_eq_getElem (by omega)]
    rfl
set_option maxHeartbeats 1000000 in
theorem rready18_any (S : Nat → Prop) (g : Nat) (at_ : Int) (L : BL) (r : Nat) (w : World) (h : RefR w S g at_ L) (hn : L.length ≤ 16384) (hr : readyB L = r) :
    Calls Try.prog 19 #[.pointer (some ⟨g, 0, none⟩)] w (fun e w' => e = .returned (.int .i64 (r : Int)) ∧ w' = w) := by
  obtain ⟨vI, vB, h1, h2, h3, h4, h5, h6, h7⟩ := h
  obtain ⟨n, en⟩ : ∃ n, L.length = n := ⟨_, rfl⟩
  rw [en] at h2 h3 hn
  obtain ⟨A, c, rfl, hi⟩ := bool_index h2 en
  have c1 : w.cell? ⟨g, 1, none⟩ = some (.slice A n c) := by rw [blk_cell h1]; rfl
  have Hi := Lib.hid hi
  have Hen := Lib.hid en
  have Hr := Lib.hid hr
  have Hn := Lib.hid hn
  clear h1 h2 h3 h4 h5 h6 h7 hi en hr hn
  go_enter Try.func19, Try.ntmps19
  go_wp2_with fail
  go_loopg [3] n (fun gk x wr => ∃ j : Nat, Hid (gk + j = n) ∧ x = .int .i64 (j : Int) ∧ Hid (∀ p, p < j → isB L p = true) ∧ wr = w)
  case atStart => exact ⟨0, Lib.hid (by omega), rfl, Lib.hid (fun p hp => absurd hp (Nat.not_lt_zero _)), rfl⟩
  case round =>
    obtain ⟨j, hgk, rfl, hall, rfl⟩ := hrel
    obtain rfl : gk = n - j := by have := hgk.out; omega
    have hj : j ≤ n := by have := hgk.out; omega
    have hn2 : n ≤ 16384 := Hn.out
    clear hgk
    have i0 : (0 : Int) ≤ (j : Int) := by omega
    by_cases hjn : j < n
    · have i1 : (j : Int) < (n : Int) := by omega
      have i2 : (j : Int) < 16384 := by omega
      obtain ⟨g2, o, rfl, hx, hc⟩ := Hi.out j hjn
      cases hb : isB L j with
      | true =>
        rw [hb] at hc
        have Ha := Lib.hid (show ∀ p, p < j + 1 → isB L p = true from fun p hp => by
          by_cases e : p = j
          · rw [e]; exact hb
          · exact hall.out p (by omega))
        go_wp2_with fail
        go_roundg (n - (j + 1))
        case measure => omega
        case rel => exact ⟨j + 1, Lib.hid (by omega), by go_num, Ha, rfl⟩
      | false =>
        rw [hb] at hc
        obtain rfl : r = j := by rw [← Hr.out]; exact ready_of hall.out hb
        go_wp2_with fail
        go_ret
        exact ⟨rfl, rfl⟩
    · obtain rfl : j = n := by omega
      have i1 : ¬ (j : Int) < (j : Int) := by omega
      obtain rfl : r = j := by
        rw [← Hr.out]
        refine ready_of hall.out ?_
        unfold isB
        rw [List.getD, List.getElem?_eq_none (by rw [Hen.out]; exact Nat.le_refl _)]
        rfl
      go_wp2_with fail
      go_ret
      exact ⟨rfl, rfl⟩
theorem info_boolR : (Try.prog.info? 4).map (fun i => (i.zero, i.size, i.bytes)) = some (some (.bool false), 1, 1) := by kernel_rfl
theorem byV_rd {w : World} {v : Value} {n r : Nat} {L : BL} (h : SlV w 5 1 v r ((byV L).take (r * 1))) (hr : r ≤ L.length) (hok : okB L) : ∃ A c, v = .slice A r c ∧ Rd w A r ((L.take r).map (fun o => o.getD 0)) := by
  have hb : ∀ x ∈ (L.take r).map (fun o => o.getD 0), 0 ≤ x ∧ x < 256 := fun x hx => by
    obtain ⟨o, ho, rfl⟩ := List.mem_map.1 hx
    cases o with
    | none => simp
    | some y => exact hok y (List.mem_of_mem_take ho)
  rcases h with ⟨rfl, rfl, _⟩ | ⟨g, o, c, rfl, h⟩
  · exact ⟨_, _, rfl, by simpa using Rd.nil w none⟩
  · have hlt := h.lt
    refine ⟨_, _, rfl, ⟨by rw [List.length_map, List.length_take]; omega, hb, fun h0 => ⟨g, o, rfl, hlt, fun i hi => ?_⟩⟩⟩
    obtain ⟨C, hg, hC, hl, hnc, hm, hc⟩ := h
    rw [blk_cell hg, hc i (by rw [hl]; omega)]
    unfold byV
    rw [Nat.mul_one, List.getElem?_take_of_lt hi, List.getElem?_map, List.getD, List.getElem?_map, List.getElem?_take_of_lt hi, List.getElem?_eq_getElem (by omega)]
    rfl
theorem slv_ne {w : World} {T T' : TypeId} {sz n g : Nat} {v : Value} {vs : List Value} {C' : Array Value} {fr : Nat × Nat} (h : SlV w T sz v n vs) (hg : w.heap[g]? = some (.cells C' T' fr)) (hT : T ≠ T') : ∀ b, v.ownBlock = some b → ¬ b = g := by
  rintro b hb rfl
  rcases h with ⟨rfl, _⟩ | ⟨g2, o, c, rfl, C, hC, _⟩
  · cases hb
  · have e : g2 = b := by simpa [Value.ownBlock] using hb
    subst e
    rw [hC] at hg
    injection hg with hg
    injection hg with _ e2
    exact hT e2
theorem set3R {w : World} {q : Nat} {u0 u1 u2 : Value} {t : TypeId} (h : w.heap[q]? = some (.cells #[u0, u1, u2] t (0, 0))) (v0 v1 v2 : Value) :
    (((w.setCell ⟨q, 0, none⟩ v0).setCell ⟨q, 1, none⟩ v1).setCell ⟨q, 2, none⟩ v2).heap[q]? = some (.cells #[v0, v1, v2] t (0, 0)) := by
  simp [World.setCell, Array.getElem?_modify, h]
set_option maxHeartbeats 2000000 in
theorem rtake18_any (S : Nat → Prop) (g : Nat) (at_ at2 : Int) (L L2 : BL) (l : List Int) (w : World) (h : RefR w S g at_ L) (hok : okB L) (hn : L.length ≤ 16384) (hl : takeB L = l) (hL : leftB L = L2) (hc : num32 (at_ + readyB L) = at2) :
    Calls Try.prog 14 #[.pointer (some ⟨g, 0, none⟩)] w (BTakes RefR S g at2 L2 l w) := by
  obtain ⟨r, er⟩ : ∃ r, readyB L = r := ⟨_, rfl⟩
  have hrl := ready_le L
  rw [er] at hrl hc
  have HR := Lib.hid (rready18_any S g at_ L r w h hn er)
  obtain ⟨vI, vB, h1, h2, h3, h4, h5, h6, h7⟩ := h
  obtain ⟨AI, cI, rI, sI, oI⟩ := sv_from Try.underlying35 info_boolR h2 hrl
  obtain ⟨AB, cB, rB, sB, oB⟩ := sv_from Try.underlying32 info5 h3 hrl
  obtain ⟨AT, cT, rT, sT, oT⟩ := sv_to Try.underlying32 info5 h3 hrl
  obtain ⟨A', c', eT, hRd⟩ := byV_rd (n := 0) sT hrl hok
  injection eT with eA _ eC
  subst eA; subst eC
  have hlr : l.length = r := by rw [← hl, take_len, er]
  have hRd2 : Rd w AT r l := by rw [← hl]; unfold takeB; rw [er]; exact hRd
  have w1 : IntKind.u32.wrap (r : Int) = r := by rw [IntKind.wrap_u32]; omega
  have w2 : IntKind.u32.wrap (at_ + (r : Int)) = at2 := by rw [IntKind.wrap_u32]; exact hc
  obtain ⟨A3, c3, wt, hrun, ho, hg3, hbel, hat⟩ := app_run w 32 w.heap.size none AT 0 0 r cT [] l (OwnB.nil _ _) hRd2 (by omega) (Nat.le_refl _)
  rw [List.nil_append, Nat.zero_add] at ho
  rw [Nat.zero_add] at hrun
  have kg := blk_on h1 hbel
  have c0 : w.cell? ⟨g, 2, none⟩ = some vB := by rw [blk_cell h1]; rfl
  have k0 : wt.cell? ⟨g, 0, none⟩ = some (.int .u32 at_) := by rw [blk_cell kg]; rfl
  have k1 : wt.cell? ⟨g, 1, none⟩ = some vI := by rw [blk_cell kg]; rfl
  have k2 : wt.cell? ⟨g, 2, none⟩ = some vB := by rw [blk_cell kg]; rfl
  have fz := fun i => blk_free kg i
  obtain ⟨AJ, cJ, rfl⟩ := h2.form
  obtain ⟨AK, cK, rfl⟩ := h3.form
  have hglt := lt_of_block h1
  -- what it leaves
  have hset := set3R kg (.int .u32 at2) (.slice AI (L.length - r) cI) (.slice AB (L.length - r) cB)
  have hbut : But S wt (((wt.setCell ⟨g, 0, none⟩ (.int .u32 at2)).setCell ⟨g, 1, none⟩ (.slice AI (L.length - r) cI)).setCell ⟨g, 2, none⟩ (.slice AB (L.length - r) cB)) :=
    (((But.refl S wt).setCell (p := ⟨g, 0, none⟩) h4 _).setCell (p := ⟨g, 1, none⟩) h4 _).setCell (p := ⟨g, 2, none⟩) h4 _
  have hb1 : But (fun k => k = g) wt (((wt.setCell ⟨g, 0, none⟩ (.int .u32 at2)).setCell ⟨g, 1, none⟩ (.slice AI (L.length - r) cI)).setCell ⟨g, 2, none⟩ (.slice AB (L.length - r) cB)) :=
    (((But.refl (fun k => k = g) wt).setCell (p := ⟨g, 0, none⟩) rfl _).setCell (p := ⟨g, 1, none⟩) rfl _).setCell (p := ⟨g, 2, none⟩) rfl _
  have hbw : But (fun k => k = g) w (((wt.setCell ⟨g, 0, none⟩ (.int .u32 at2)).setCell ⟨g, 1, none⟩ (.slice AI (L.length - r) cI)).setCell ⟨g, 2, none⟩ (.slice AB (L.length - r) cB)) := (But.of hbel).trans hb1
  have nI := slv_ne sI h1 (by decide)
  have nB := slv_ne sB h1 (by decide)
  have nO : ∀ b, (Value.slice A3 r c3).ownBlock = some b → w.heap.size ≤ b := fun b hb => by
    rcases ho.2 with ⟨e1, _⟩ | ⟨g2, cap, cur, e1, hB, _⟩
    · rw [e1] at hb; cases hb
    · rw [e1] at hb
      have : g2 = b := by simpa [Value.ownBlock] using hb
      omega
  have hlen2 : L2.length = L.length - r := by rw [← hL, left_len, er]
  have HE := Lib.hid (show OwnB (((wt.setCell ⟨g, 0, none⟩ (.int .u32 at2)).setCell ⟨g, 1, none⟩ (.slice AI (L.length - r) cI)).setCell ⟨g, 2, none⟩ (.slice AB (L.length - r) cB)) w.heap.size A3 r c3 l ∧
      (∃ S', RefR (((wt.setCell ⟨g, 0, none⟩ (.int .u32 at2)).setCell ⟨g, 1, none⟩ (.slice AI (L.length - r) cI)).setCell ⟨g, 2, none⟩ (.slice AB (L.length - r) cB)) S' g at2 L2 ∧ But S w (((wt.setCell ⟨g, 0, none⟩ (.int .u32 at2)).setCell ⟨g, 1, none⟩ (.slice AI (L.length - r) cI)).setCell ⟨g, 2, none⟩ (.slice AB (L.length - r) cB)) ∧ (∀ k, S' k → S k ∨ w.heap.size ≤ k) ∧ ∀ b, (Value.slice A3 r c3).ownBlock = some b → ¬ S' b) from by
    refine ⟨ho.but hb1 (fun k hk e => by omega), S, ⟨_, _, hset, ?_, ?_, h4, fun b hb => h5 b (by rw [← oI]; exact hb), fun b hb => h6 b (by rw [← oB]; exact hb), fun k hk => Nat.lt_of_lt_of_le (h7 k hk) hbw.size⟩, (But.of hbel).trans hbut, fun k hk => .inl hk, fun b hb hs => by have := nO b hb; have := h7 b hs; omega⟩
    · have e : isV L2 = (isV L).drop (r * 1) := by rw [← hL]; unfold leftB isV; rw [er, Nat.mul_one, List.map_drop]
      rw [hlen2, e]
      exact sI.but hbw (fun b hb => nI b hb)
    · have e : byV L2 = (byV L).drop (r * 1) := by rw [← hL]; unfold leftB byV; rw [er, Nat.mul_one, List.map_drop]
      rw [hlen2, e]
      exact sB.but hbw (fun b hb => nB b hb))
  have Hlr := Lib.hid hlr
  have Hrun := Lib.hid hrun
  clear h1 h2 h3 h4 h5 h6 h7 sI oI sB oB sT oT hRd hRd2 hrun ho hg3 hbel hat kg hset hbut hb1 hbw nI nB nO hl hL hc hok hrl er hlr hlen2
  go_enter Try.func14, Try.ntmps14
  go_wp2_with fail
  refine HR.out.mono ?_
  rintro e w' ⟨rfl, rfl⟩
  go_wp2_with (at_builtin; refine wpList_appX rfl (.tmp 7) (.tmp 13) _ _ rfl rfl _ _ _ wt rfl rfl Hrun.out ?_)
  go_ret
  obtain ⟨e1, S', e2⟩ := HE.out
  rw [← Hlr.out] at e1 e2 ⊢
  exact ⟨A3, c3, rfl, e1, S', e2⟩
end Go.Proofs.Ytmmnicnebammhaa
