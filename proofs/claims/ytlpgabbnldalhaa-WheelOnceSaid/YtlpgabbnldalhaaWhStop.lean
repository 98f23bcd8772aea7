/-
  The contract of the document's own wheel's Stop (culvertref12).
-/
import Derived.Test.YtlpgabbnldalhaaWhRef
namespace Go.Proofs.Ytlpgabbnldalhaa
set_option maxRecDepth 10000
open Go.RowKit
set_option linter.unusedSimpArgs false
set_option linter.unusedVariables false

theorem info_alarm : (Try.prog.info? 67).map (fun i => (i.zero, i.size, i.bytes)) = some (some (.agg #[.int .u64 0, .int .u64 0]), 2, 16) := by kernel_rfl
theorem alarm_row {w : World} {v : Value} {n : Nat} {L : AL} {A : Option Addr} {c j : Nat} (h : SlV w 67 2 v n (flatW L)) (e : v = .slice A n c) (hj : j < n) : ∃ g2 o, A = some ⟨g2, o, none⟩ ∧ RowV w 67 2 g2 o n (flatW L) c := by
  subst e
  rcases h with ⟨h0, h1, _⟩ | ⟨g2, o, c', h0, h1⟩
  · omega
  · injection h0 with h0 _ h2
    subst h2
    exact ⟨g2, o, h0, h1⟩
theorem stop_same {id : Int} {L : AL} (h : (stopW id L).length = L.length) : stopW id L = L := by
  unfold stopW at *
  rw [List.filter_eq_self]
  exact List.length_filter_eq_length_iff.1 h
set_option maxHeartbeats 2000000 in
theorem rstop12_any (S : Nat → Prop) (g : Nat) (ck id x : Int) (L : AL) (w : World) (h : RefW w S g ck L) (hn : L.length ≤ 1000000) (hx : (if (stopW id L).length = L.length then (6 : Int) else 0) = x) :
    Calls Try.prog 12 #[.pointer (some ⟨g, 0, none⟩), .int .u64 id] w (RefDoes S g ck (stopW id L) (.int .i64 x) w) := by
  have H := Lib.hid h
  obtain ⟨v, hg, hs, hSg, hSv, hSl⟩ := h
  obtain ⟨n, en⟩ : ∃ n, L.length = n := ⟨_, rfl⟩
  have k1 := blk_cell hg 1
  simp at k1
  have Hen := Lib.hid en
  have Hx := Lib.hid hx
  rw [en] at hs hn
  have Hs := Lib.hid hs
  have Hg := Lib.hid hg
  obtain ⟨A, c, ev⟩ := hs.form
  subst ev
  have hlt := lt_of_block hg
  have hvn : ¬ (Value.slice A n c).ownBlock = some g := by
    intro e
    rcases Hs.out with ⟨h0, _⟩ | ⟨g2, o, c', h0, h1⟩
    · rw [h0] at e; cases e
    · rw [h0] at e
      injection e with e
      obtain ⟨C, hC, _⟩ := h1
      simp only at e
      subst e
      rw [Hg.out] at hC
      injection hC with e
      injection e with _ e
      revert e; decide
  have Hvn := Lib.hid hvn
  have HSg := Lib.hid hSg
  have HSv := Lib.hid hSv
  have HSl := Lib.hid hSl
  clear hx hs en hg hvn hSg hSv hSl
  go_enter Try.func12, Try.ntmps12
  go_wp2_with fail
  go_loopg [5, 6] n (fun gk l i wr => ∃ (j m : Nat) (A2 : Option Addr) (c2 : Nat), Hid (gk + j = n) ∧ j ≤ n ∧ i = .int .i64 (j : Int) ∧ l = .slice A2 m c2 ∧ Hid (((L.take j).filter (fun a => !decide (a.1 = id))).length = m) ∧ Hid (SlV wr 67 2 (.slice A2 m c2) m (flatW ((L.take j).filter (fun a => !decide (a.1 = id))))) ∧ Hid (∀ b, (Value.slice A2 m c2).ownBlock = some b → w.heap.size ≤ b) ∧ Hid (Below w.heap.size w wr))
  case atStart => exact ⟨0, 0, none, 0, rfl, Nat.zero_le _, rfl, rfl, Lib.hid (by simp), Lib.hid (by simp [flatW_nil]; exact .inl ⟨rfl, rfl, rfl⟩), Lib.hid (fun b hb => by cases hb), Below.refl _ _⟩
  case round =>
    obtain ⟨j, m, A2, c2, hgk, hj, rfl, rfl, hlen, HL, HLo, HB⟩ := hrel
    have kk1 : wr.cell? ⟨g, 1, none⟩ = some (.slice A n c) := (HB.out.cell (p := ⟨g, 1, none⟩) hlt).trans k1
    by_cases hjn : j < n
    · have hsr : SlV wr 67 2 (.slice A n c) n (flatW L) := Hs.out.but (But.of (S := fun _ => False) HB.out) (fun _ _ x => x)
      obtain ⟨g2, o, rfl, hr⟩ := alarm_row hsr rfl hjn
      obtain ⟨hidx, hc1, hc2⟩ := alarm_index hr Hen.out hjn
      obtain ⟨⟨x1, x2⟩, ex⟩ : ∃ x, L.getD j (0, 0) = x := ⟨_, rfl⟩
      rw [ex] at hc1 hc2
      simp only at hc1 hc2
      have hft := filter_take_succ (p := fun a => !decide (a.1 = id)) L (j := j) (by rw [Hen.out]; exact hjn)
      rw [ex] at hft
      have i0 : (0 : Int) ≤ (j : Int) := by omega
      have i1 : (j : Int) < (n : Int) := by omega
      have hlj : ((L.take j).filter (fun a => !decide (a.1 = id))).length ≤ j := by
        have h1 := List.length_filter_le (fun a : Int × Int => !decide (a.1 = id)) (L.take j)
        have h2 : (L.take j).length ≤ j := by rw [List.length_take]; omega
        omega
      have hmj : m ≤ j := by have := hlen.out; omega
      clear hr hsr hlj
      by_cases hxi : x1 = id
      · have hb : (x1 != id) = false := by simpa using hxi
        have Hft := Lib.hid (show (L.take (j + 1)).filter (fun a => !decide (a.1 = id)) = (L.take j).filter (fun a => !decide (a.1 = id)) by rw [hft]; simp [hxi])
        clear hxi ex hft
        go_wp2_with fail
        go_roundg (gk - 1)
        case measure => have := hgk.out; omega
        case rel => exact ⟨j + 1, m, A2, c2, by have := hgk.out; show gk - 1 + (j + 1) = _; omega, by omega, by go_num, rfl, Lib.hid (by rw [Hft.out]; exact hlen.out), Lib.hid (by rw [Hft.out]; exact HL.out), HLo, HB⟩
      · have hb : (x1 != id) = true := bool_ne hxi
        have hft2 : (L.take (j + 1)).filter (fun a => !decide (a.1 = id)) = (L.take j).filter (fun a => !decide (a.1 = id)) ++ [(x1, x2)] := by rw [hft]; simp [hxi]
        have hlit := RowV.one (w := wr) (sz := 2) 67 (flatW [(x1, x2)]) wr.heap.size rfl rfl
        have hBa : But (fun _ => False) wr (wr.alloc (.cells (flatW [(x1, x2)]).toArray 67)) := (But.refl _ _).alloc _
        obtain ⟨A3, c3, w3, hr3, hs3, hb3, hblk3, _⟩ := sv_app (P := Try.prog) (wr.alloc (.cells (flatW [(x1, x2)]).toArray 67)) 27 27 67 (.agg #[.int .u64 0, .int .u64 0]) 2 16 Try.underlying27 info_alarm (by omega) rfl
          (.slice A2 m c2) _ m 1 _ _ (HL.out.but hBa (fun _ _ x => x)) hlit (flatW_one _) (by omega)
        have Hr3 := Lib.hid (show (Builtin.append_ #[27, 27] 27 #[.slice A2 m c2, .slice (some ⟨wr.heap.size, 0, none⟩) 1 1]).run Try.prog (wr.alloc (.cells #[.int .u64 x1, .int .u64 x2] 67)) = .ok (.slice A3 (m + 1) c3) w3 from hr3)
        have HL3 := Lib.hid (show SlV w3 67 2 (.slice A3 (m + 1) c3) (m + 1) (flatW ((L.take (j + 1)).filter (fun a => !decide (a.1 = id)))) by rw [hft2, flatW_append]; exact hs3)
        have Hln3 := Lib.hid (show ((L.take (j + 1)).filter (fun a => !decide (a.1 = id))).length = m + 1 by rw [hft2, List.length_append, hlen.out]; rfl)
        have hsz := HB.out.size
        have HLo3 := Lib.hid (show ∀ b, (Value.slice A3 (m + 1) c3).ownBlock = some b → w.heap.size ≤ b by
          intro b hb0
          rcases hblk3 with h1 | h1
          · rw [h1] at hb0; exact HLo.out b hb0
          · rw [h1] at hb0
            injection hb0 with hb0
            have := hBa.size
            omega)
        have HB3 := Lib.hid (show Below w.heap.size w w3 from HB.out.trans ((hBa.mono (S' := fun k => (Value.slice A2 m c2).ownBlock = some k) (fun k _ hk => hk.elim)).trans hb3 |>.below (fun k hk => HLo.out k hk) hsz))
        clear hxi ex hft hft2 hlit hBa hr3 hs3 hb3 hblk3 hsz
        go_wp2_with (at_builtin; refine wpList_appX rfl (.tmp 26) (.tmp 34) _ _ rfl rfl _ _ _ w3 rfl rfl Hr3.out ?_)
        go_roundg (gk - 1)
        case measure => have := hgk.out; omega
        case rel => exact ⟨j + 1, m + 1, A3, c3, by have := hgk.out; show gk - 1 + (j + 1) = _; omega, by omega, by go_num, rfl, Hln3, HL3, HLo3, HB3⟩
    · obtain rfl : n = j := by omega
      have htk : L.take n = L := List.take_of_length_le (by rw [Hen.out]; exact Nat.le_refl _)
      have Hln := Lib.hid (show (stopW id L).length = m by have := hlen.out; rw [htk] at this; exact this)
      have HLf := Lib.hid (show SlV wr 67 2 (.slice A2 m c2) m (flatW (stopW id L)) by have := HL.out; rw [htk] at this; exact this)
      clear htk
      have hgr := blk_on Hg.out HB.out
      by_cases hmn : m = n
      · subst hmn
        have Hxx := Lib.hid (show x = 6 by rw [← Hx.out, if_pos (by rw [Hln.out, Hen.out])])
        have Hst := Lib.hid (stop_same (id := id) (L := L) (by rw [Hln.out, Hen.out]))
        clear hgr
        go_wp2_with fail
        go_ret
        refine ⟨by rw [Hxx.out]; rfl, S, ?_, But.of HB.out, fun k hk => .inl hk⟩
        rw [Hst.out]
        exact H.out.below HB.out
      · have Hxx := Lib.hid (show x = 0 by rw [← Hx.out, if_neg (by rw [Hln.out, Hen.out]; exact hmn)])
        have hmb : ((m : Int) == (n : Int)) = false := by simp; omega
        have f1 := blk_free hgr 1
        have hfin := heap_setCell_at hgr 1 (.slice A2 m c2)
        simp only [List.setIfInBounds_toArray, List.set_cons_succ, List.set_cons_zero] at hfin
        have hb1 : But (fun k => k = g) wr (wr.setCell ⟨g, 1, none⟩ (.slice A2 m c2)) := (But.refl (fun k => k = g) wr).setCell (p := ⟨g, 1, none⟩) rfl _
        have HF := Lib.hid (show RefW (wr.setCell ⟨g, 1, none⟩ (.slice A2 m c2)) (fun k => k = g ∨ (Value.slice A2 m c2).ownBlock = some k) g ck (stopW id L) by
          have hA2g : ∀ b, (Value.slice A2 m c2).ownBlock = some b → ¬ b = g := fun b hb0 e => by have := HLo.out b hb0; omega
          refine ⟨_, hfin, ?_, .inl rfl, fun b hb0 => .inr hb0, fun k hk => ?_⟩
          · rw [Hln.out]
            exact HLf.out.but hb1 (fun b hb0 => hA2g b hb0)
          · rcases hk with rfl | hk
            · exact lt_of_block hfin
            · exact (HLf.out.but hb1 (fun b hb0 => hA2g b hb0)).lt hk)
        have HBf := Lib.hid (show But S w (wr.setCell ⟨g, 1, none⟩ (.slice A2 m c2)) from (But.of (S := S) HB.out).setCell (p := ⟨g, 1, none⟩) HSg.out _)
        clear hmn hgr hfin hb1
        go_wp2_with fail
        go_ret
        refine ⟨by rw [Hxx.out]; rfl, _, HF.out, HBf.out, fun k hk => ?_⟩
        rcases hk with rfl | hk
        · exact .inl HSg.out
        · exact .inr (HLo.out k hk)
end Go.Proofs.Ytlpgabbnldalhaa
