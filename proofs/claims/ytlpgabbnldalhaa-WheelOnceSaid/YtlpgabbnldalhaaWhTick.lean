/-
  The contract of the document's own wheel's Tick (culvertref12).
-/
import Derived.Test.YtlpgabbnldalhaaWhStop
import Derived.Test.YtlpgabbnldalhaaSlVCut
namespace Go.Proofs.Ytlpgabbnldalhaa
set_option maxRecDepth 10000
open Go.RowKit
set_option linter.unusedSimpArgs false
set_option linter.unusedVariables false

theorem info_u64w : (Try.prog.info? 23).map (fun i => (i.zero, i.size, i.bytes)) = some (some (.int .u64 0), 1, 8) := by kernel_rfl
/-- What a Tick leaves that goes on. -/
def RefTick (S : Nat → Prop) (g : Nat) (now : Int) (L : AL) (w : World) (e : Ending) (w' : World) : Prop :=
  ∃ v, e = .returned (.tuple #[v, .int .i64 0]) ∧ RefW w' S g now (leftW now L) ∧ But S w w' ∧ Sl w' 23 .u64 v ((dueW now L).map Prod.fst) ∧ ∀ b, v.ownBlock = some b → w.heap.size ≤ b
theorem rtick12_bad (S : Nat → Prop) (g : Nat) (ck now : Int) (L : AL) (w : World) (h : RefW w S g ck L) (hb : now < ck ∨ 1099511627776 < now) :
    Calls Try.prog 14 #[.pointer (some ⟨g, 0, none⟩), .int .u64 now] w (QuietW (.tuple #[.slice none 0 0, .int .i64 1]) w) := by
  obtain ⟨v, hg, hs, -, -, -⟩ := h
  have k0 := blk_cell hg 0
  simp at k0
  clear hg hs
  by_cases h1 : now < ck
  · have h2 : (decide (now < ck)) = true := by simpa using h1
    clear hb
    go_enter Try.func14, Try.ntmps14
    go_wp2_with fail
    go_ret2
    exact ⟨rfl, 0, rfl⟩
  · have h2 : (decide (now < ck)) = false := by simpa using h1
    have h3 : 1099511627776 < now := by omega
    have h4 : (decide (now > 1099511627776)) = true := by simpa using h3
    clear hb
    go_enter Try.func14, Try.ntmps14
    go_wp2_with fail
    go_ret2
    exact ⟨rfl, 0, rfl⟩
set_option maxHeartbeats 2000000 in
theorem rtick12_ok (S : Nat → Prop) (g : Nat) (ck now : Int) (L : AL) (w : World) (h : RefW w S g ck L) (hn : L.length ≤ 1000000) (hb : ¬ (now < ck ∨ 1099511627776 < now)) :
    Calls Try.prog 14 #[.pointer (some ⟨g, 0, none⟩), .int .u64 now] w (RefTick S g now L w) := by
  obtain ⟨v, hg, hs, hSg, hSv, hSl⟩ := h
  have k0 := blk_cell hg 0
  simp at k0
  have f0 := blk_free hg 0
  have h1 : ¬ now < ck := fun h => hb (.inl h)
  have h2 : (decide (now < ck)) = false := by simpa using h1
  have h3 : ¬ 1099511627776 < now := fun h => hb (.inr h)
  have h4 : (decide (now > 1099511627776)) = false := by simpa using h3
  obtain ⟨A, c, ev⟩ := hs.form
  subst ev
  have hvn : ∀ b, (Value.slice A L.length c).ownBlock = some b → S b ∧ ¬ b = g := by
    intro b e
    refine ⟨hSv b e, ?_⟩
    rintro rfl
    rcases hs with ⟨h0, _⟩ | ⟨g2, o, c', h0, h1⟩
    · rw [h0] at e; cases e
    · rw [h0] at e
      injection e with e
      obtain ⟨C, hC, _⟩ := h1
      simp only at e
      subst e
      rw [hg] at hC
      injection hC with e
      injection e with _ e
      revert e; decide
  have h0 := heap_setCell_at hg 0 (.int .u64 now)
  simp only [List.setIfInBounds_toArray, List.set_cons_succ, List.set_cons_zero] at h0
  have hb0 : But (fun k => k = g) w (w.setCell ⟨g, 0, none⟩ (.int .u64 now)) := (But.refl (fun k => k = g) w).setCell (p := ⟨g, 0, none⟩) rfl _
  have Hg0 := Lib.hid h0
  have Hs0 := Lib.hid (hs.but hb0 (fun b hbb => (hvn b hbb).2))
  have HB0 := Lib.hid (show But S w (w.setCell ⟨g, 0, none⟩ (.int .u64 now)) from hb0.mono (fun k _ e => by rw [e]; exact hSg))
  have HSg := Lib.hid hSg
  have HSl := Lib.hid hSl
  have HLn := Lib.hid hn
  have Hvn := Lib.hid hvn
  clear hg hs hSg hSv hSl hb hvn h0 hb0 h1 h3 hn
  go_enter Try.func14, Try.ntmps14
  go_wp2_with fail
  go_loopg [6] L.length (fun gk v' wr => ∃ (M : AL) (A2 : Option Addr) (c2 : Nat) (l : List Int) (v : Value), v = v' ∧ Hid (M.length = gk) ∧ Hid (wr.heap[g]? = some (.cells #[.int .u64 now, .slice A2 gk c2] 29 (0, 0))) ∧ Hid (SlV wr 67 2 (.slice A2 gk c2) gk (flatW M)) ∧
    Hid (∀ b, (Value.slice A2 gk c2).ownBlock = some b → S b ∧ ¬ b = g) ∧ Hid (Sl wr 23 .u64 v l) ∧ Hid (∀ b, v.ownBlock = some b → w.heap.size ≤ b) ∧ Hid (l.length + gk ≤ 1000000) ∧ Hid (l ++ (dueW now M).map Prod.fst = (dueW now L).map Prod.fst) ∧ Hid (leftW now M = leftW now L) ∧ Hid (But S w wr))
  case atStart => exact ⟨L, A, c, [], _, rfl, Lib.hid rfl, Hg0, Hs0, Hvn, Lib.hid (Sl.nil _ _ _), Lib.hid (fun b hb => by cases hb), Lib.hid (by simpa using HLn.out), Lib.hid (by simp), Lib.hid rfl, HB0⟩
  case round =>
    obtain ⟨M, A2, c2, l, v, rfl, hM, Hg, Hs, Hown, Hl, Hlo, Hln, Hdue, Hleft, HB⟩ := hrel
    have kk1 := blk_cell Hg.out 1
    simp at kk1
    rcases M with _ | ⟨⟨x1, x2⟩, M⟩
    · obtain rfl : gk = 0 := by rw [← hM.out]; rfl
      have Hd := Lib.hid (show l = (dueW now L).map Prod.fst by have := Hdue.out; simpa [dueW] using this)
      have Hlf := Lib.hid (show leftW now L = [] by have := Hleft.out; rw [← this]; rfl)
      go_wp2_with fail
      go_ret2
      refine ⟨_, rfl, ⟨_, Hg.out, ?_, HSg.out, fun b hb => (Hown.out b hb).1, fun k hk => HB.out.lt (HSl.out k hk)⟩, HB.out, by rw [← Hd.out]; exact Hl.out, Hlo.out⟩
      rw [Hlf.out]
      exact Hs.out
    · have hgk : 0 < gk := by rw [← hM.out]; simp
      obtain ⟨g2, o, eA, hr⟩ := alarm_row Hs.out rfl hgk
      subst eA
      obtain ⟨hidx, hc1, hc2⟩ := alarm_index hr hM.out hgk
      simp at hc1 hc2
      have i0 : (0 : Int) < (gk : Int) := by omega
      have hidx0 : ∀ W : World, (Instr.indexAt 27 (.slice (some ⟨g2, o, none⟩) gk c2) (.int .i64 0)).run Try.prog W = .ok (.pointer (some ⟨g2, o, none⟩)) W := by
        intro W
        have := hidx W
        simpa using this
      clear hr hidx
      by_cases hx : x2 ≤ now
      · have hxb : decide (x2 ≤ now) = true := by simpa using hx
        have Hdue2 := Lib.hid (show (l ++ [x1]) ++ (dueW now M).map Prod.fst = (dueW now L).map Prod.fst by have := Hdue.out; simpa [dueW, hx] using this)
        have Hleft2 := Lib.hid (show leftW now M = leftW now L by have := Hleft.out; simpa [leftW, hx] using this)
        have hlit := Row.one (w := wr) 23 .u64 x1 wr.heap.size rfl
        have hBa : But (fun _ => False) wr (wr.alloc (.cells #[.int .u64 x1] 23)) := (But.refl _ _).alloc _
        obtain ⟨v3, w3, hr3, hl3, hb3, hblk3, _, _⟩ := sl_app (P := Try.prog) (wr.alloc (.cells #[.int .u64 x1] 23)) 37 37 23 .u64 8 Try.underlying37 info_u64w (by omega)
          v _ l [x1] (Hl.out.but hBa (fun _ _ x => x)) hlit (by have := Hln.out; simp; omega)
        have hsz := HB.out.size
        have hb4 : But (fun k => v.ownBlock = some k) wr w3 := (hBa.mono (S' := fun k => v.ownBlock = some k) (fun k _ hk => hk.elim)).trans hb3
        have hgv : ¬ v.ownBlock = some g := fun e => by have := Hlo.out g e; have := HSl.out g HSg.out; omega
        have hg3 := hb4.blk Hg.out hgv
        have h3g := blk_cell hg3 1
        simp at h3g
        have f3 := blk_free hg3 1
        have hlg : g < w3.heap.size := lt_of_block hg3
        have hs3 : SlV w3 67 2 (.slice (some ⟨g2, o, none⟩) gk c2) gk (flatW ((x1, x2) :: M)) := Hs.out.but hb4 (fun b hb hv => by
          have h1 := Hlo.out b hv
          have h2 := HSl.out b (Hown.out b hb).1
          omega)
        obtain ⟨A4, c4, hcut, hs4, hown4⟩ := sv_from (k := 1) Try.underlying27 info_alarm hs3 (by omega)
        have hcut' : ∀ W : World, (Instr.slice 27 (.slice (some ⟨g2, o, none⟩) gk c2) (some (.int .i64 1)) none none).run Try.prog W = .ok (.slice A4 (gk - 1) c4) W := hcut
        have hlo3 : ∀ b, v3.ownBlock = some b → w.heap.size ≤ b := by
          intro b hb0
          rcases hblk3 with h1 | h1
          · rw [h1] at hb0; exact Hlo.out b hb0
          · rw [h1] at hb0
            injection hb0 with hb0
            have := hBa.size
            omega
        have hb5 : But (fun k => k = g) w3 (w3.setCell ⟨g, 1, none⟩ (.slice A4 (gk - 1) c4)) := (But.refl (fun k => k = g) w3).setCell (p := ⟨g, 1, none⟩) rfl _
        have hfin := heap_setCell_at hg3 1 (.slice A4 (gk - 1) c4)
        simp only [List.setIfInBounds_toArray, List.set_cons_succ, List.set_cons_zero] at hfin
        have Hown5 := Lib.hid (show ∀ b, (Value.slice A4 (gk - 1) c4).ownBlock = some b → S b ∧ ¬ b = g from fun b hb => Hown.out b (hown4 ▸ hb))
        have Hfin := Lib.hid hfin
        have Hs5 := Lib.hid (show SlV (w3.setCell ⟨g, 1, none⟩ (.slice A4 (gk - 1) c4)) 67 2 (.slice A4 (gk - 1) c4) (gk - 1) (flatW M) from hs4.but hb5 (fun b hb => (Hown5.out b hb).2))
        have Hl5 := Lib.hid (show Sl (w3.setCell ⟨g, 1, none⟩ (.slice A4 (gk - 1) c4)) 23 .u64 v3 (l ++ [x1]) from hl3.but hb5 (fun b hb e => by have := hlo3 b hb; have := HSl.out g HSg.out; omega))
        have Hlo3 := Lib.hid hlo3
        have HB5 := Lib.hid (show But S w (w3.setCell ⟨g, 1, none⟩ (.slice A4 (gk - 1) c4)) from
          (HB.out.trans2 hb4 (fun k hk hv => by have := Hlo.out k hv; omega)).setCell (p := ⟨g, 1, none⟩) HSg.out _)
        have Hlen5 := Lib.hid (show M.length = gk - 1 by have := hM.out; simp at this; omega)
        have Hln5 := Lib.hid (show (l ++ [x1]).length + (gk - 1) ≤ 1000000 by have := Hln.out; simp; omega)
        have Hr3 := Lib.hid hr3
        clear hx hlit hBa hr3 hl3 hb3 hblk3 hsz hb4 hgv hg3 hs3 hcut hs4 hown4 hlo3 hb5 hfin
        go_wp2_with (at_builtin; refine wpList_appX rfl (.tmp 38) (.tmp 46) _ _ rfl rfl _ _ _ w3 rfl rfl Hr3.out ?_)
        go_roundg (gk - 1)
        case measure => omega
        case rel => exact ⟨M, A4, c4, l ++ [x1], _, rfl, Hlen5, Hfin, Hs5, Hown5, Hl5, Hlo3, Hln5, Hdue2, Hleft2, HB5⟩
      · have hxb : decide (x2 ≤ now) = false := by simpa using hx
        have Hd := Lib.hid (show l = (dueW now L).map Prod.fst by have := Hdue.out; simpa [dueW, hx] using this)
        have Hlf := Lib.hid (show leftW now L = (x1, x2) :: M by have := Hleft.out; rw [← this]; simp [leftW, hx])
        clear hx
        go_wp2_with fail
        go_ret2
        refine ⟨_, rfl, ⟨_, Hg.out, ?_, HSg.out, fun b hb => (Hown.out b hb).1, fun k hk => HB.out.lt (HSl.out k hk)⟩, HB.out, by rw [← Hd.out]; exact Hl.out, Hlo.out⟩
        rw [Hlf.out, hM.out]
        exact Hs.out
end Go.Proofs.Ytlpgabbnldalhaa
