/-
  The contract of the document's own wheel's Set (culvertref12).
-/
import Derived.Test.YtlpgabbnldalhaaWhTick
namespace Go.Proofs.Ytlpgabbnldalhaa
set_option maxRecDepth 10000
open Go.RowKit
set_option linter.unusedSimpArgs false
set_option linter.unusedVariables false

theorem rset12_bad (S : Nat → Prop) (g : Nat) (id at_ : Int) (w : World) (hb : 1099511627776 < at_) :
    Calls Try.prog 10 #[.pointer (some ⟨g, 0, none⟩), .int .u64 id, .int .u64 at_] w (QuietW (.int .i64 1) w) := by
  have h4 : (decide (at_ > 1099511627776)) = true := by simpa using hb
  clear hb
  go_enter Try.func10, Try.ntmps10
  go_wp2_with fail
  go_ret
  exact ⟨rfl, 0, rfl⟩
theorem setW_at {id at_ : Int} {L M : AL} (hM : stopW id L = M) {j : Nat} (hj : j ≤ M.length) (h : ∀ i, i < j → ltW id at_ (M.getD i (0, 0)) = true) (hn : j = M.length ∨ ltW id at_ (M.getD j (0, 0)) = false) : setW id at_ L = M.take j ++ (id, at_) :: M.drop j := by
  obtain ⟨h1, h2⟩ := takeWhile_at M hj h hn
  unfold setW insW
  rw [hM, h1, h2]
/-- The three appends of Set. -/
theorem set_runs (id at_ : Int) (M : AL) (w : World) (g : Nat) (ck : Int) (A : Option Addr) (n c j : Nat) (hM : M.length = n) (hj : j ≤ n) (hn : n ≤ 1000000) (hg : w.heap[g]? = some (.cells #[.int .u64 ck, .slice A n c] 29 (0, 0))) (hs : SlV w 67 2 (.slice A n c) n (flatW M)) :
    ∃ A1 c1 B2 d2 w2 B3 d3 w3 A3 c3 B4 d4 w4,
      (∀ W : World, (Instr.slice 27 (.slice A n c) none (some (.int .i64 (j : Int))) none).run Try.prog W = .ok (.slice A1 j c1) W) ∧
      (Builtin.append_ #[27, 27] 27 #[.slice none 0 0, .slice A1 j c1]).run Try.prog w = .ok (.slice B2 j d2) w2 ∧
      (Builtin.append_ #[27, 27] 27 #[.slice B2 j d2, .slice (some ⟨w2.heap.size, 0, none⟩) 1 1]).run Try.prog (w2.alloc (.cells #[.int .u64 id, .int .u64 at_] 67)) = .ok (.slice B3 (j + 1) d3) w3 ∧
      w3.cell? ⟨g, 1, none⟩ = some (.slice A n c) ∧
      (∀ W : World, (Instr.slice 27 (.slice A n c) (some (.int .i64 (j : Int))) none none).run Try.prog W = .ok (.slice A3 (n - j) c3) W) ∧
      (Builtin.append_ #[27, 27] 27 #[.slice B3 (j + 1) d3, .slice A3 (n - j) c3]).run Try.prog w3 = .ok (.slice B4 (n + 1) d4) w4 ∧
      (w4.cell? ⟨g, 1, none⟩ = some (.slice A n c) ∧ w4.frozen? ⟨g, 1, none⟩ = false) ∧
      RefW (w4.setCell ⟨g, 1, none⟩ (.slice B4 (n + 1) d4)) (fun k => k = g ∨ (Value.slice B4 (n + 1) d4).ownBlock = some k) g ck (M.take j ++ (id, at_) :: M.drop j) ∧
      (∀ k, (Value.slice B4 (n + 1) d4).ownBlock = some k → w.heap.size ≤ k) ∧ But (fun k => k = g) w (w4.setCell ⟨g, 1, none⟩ (.slice B4 (n + 1) d4)) := by
  have hgl := lt_of_block hg
  obtain ⟨A1, c1, ht1, hs1, -⟩ := sv_to (k := j) Try.underlying27 info_alarm hs hj
  rw [← flatW_take] at hs1
  obtain ⟨B2, d2, w2, hr2, hs2, hb2, ho2, -⟩ := sv_app (P := Try.prog) w 27 27 67 (.agg #[.int .u64 0, .int .u64 0]) 2 16 Try.underlying27 info_alarm (by omega) rfl
    (.slice none 0 0) _ 0 j [] _ (.inl ⟨rfl, rfl, rfl⟩) hs1 (flatW_one _) (by omega)
  rw [Nat.zero_add] at hr2 hs2 ho2
  rw [List.nil_append] at hs2
  have bl2 : Below w.heap.size w w2 := hb2.below (fun k hk => by cases hk) (Nat.le_refl _)
  have own2 : ∀ k, (Value.slice B2 j d2).ownBlock = some k → w.heap.size ≤ k := by
    intro k hk
    rcases ho2 with h1 | h1
    · rw [h1] at hk; cases hk
    · rw [h1] at hk; injection hk with hk; omega
  have hlit := RowV.one (w := w2) (sz := 2) 67 (flatW [(id, at_)]) w2.heap.size rfl rfl
  have hBa : But (fun _ => False) w2 (w2.alloc (.cells (flatW [(id, at_)]).toArray 67)) := (But.refl _ _).alloc _
  obtain ⟨B3, d3, w3, hr3, hs3, hb3, ho3, -⟩ := sv_app (P := Try.prog) (w2.alloc (.cells (flatW [(id, at_)]).toArray 67)) 27 27 67 (.agg #[.int .u64 0, .int .u64 0]) 2 16 Try.underlying27 info_alarm (by omega) rfl
    (.slice B2 j d2) _ j 1 _ _ (hs2.but hBa (fun _ _ x => x)) hlit (flatW_one _) (by omega)
  have sz2 := bl2.size
  have bl3 : Below w.heap.size w w3 := bl2.trans ((hBa.mono (S' := fun k => (Value.slice B2 j d2).ownBlock = some k) (fun k _ hk => hk.elim)).trans hb3 |>.below own2 sz2)
  have own3 : ∀ k, (Value.slice B3 (j + 1) d3).ownBlock = some k → w.heap.size ≤ k := by
    intro k hk
    rcases ho3 with h1 | h1
    · rw [h1] at hk; exact own2 k hk
    · rw [h1] at hk
      injection hk with hk
      have := hBa.size
      omega
  have hg3 := blk_on hg bl3
  obtain ⟨A3, c3, ht3, hsf, -⟩ := sv_from (k := j) Try.underlying27 info_alarm (hs.but (But.of (S := fun _ => False) bl3) (fun _ _ x => x)) hj
  rw [← flatW_drop] at hsf
  obtain ⟨B4, d4, w4, hr4, hs4, hb4, ho4, -⟩ := sv_app (P := Try.prog) w3 27 27 67 (.agg #[.int .u64 0, .int .u64 0]) 2 16 Try.underlying27 info_alarm (by omega) rfl
    (.slice B3 (j + 1) d3) _ (j + 1) (n - j) _ _ hs3 hsf (flatW_one _) (by omega)
  have e4 : j + 1 + (n - j) = n + 1 := by omega
  rw [e4] at hr4 hs4 ho4
  have sz3 := bl3.size
  have bl4 : Below w.heap.size w w4 := bl3.trans (hb4.below own3 sz3)
  have own4 : ∀ k, (Value.slice B4 (n + 1) d4).ownBlock = some k → w.heap.size ≤ k := by
    intro k hk
    rcases ho4 with h1 | h1
    · rw [h1] at hk; exact own3 k hk
    · rw [h1] at hk
      injection hk with hk
      omega
  have hg4 := blk_on hg bl4
  have k3 := blk_cell hg3 1
  have k4 := blk_cell hg4 1
  simp at k3 k4
  have hfin := heap_setCell_at hg4 1 (.slice B4 (n + 1) d4)
  simp only [List.setIfInBounds_toArray, List.set_cons_succ, List.set_cons_zero] at hfin
  have hb5 : But (fun k => k = g) w4 (w4.setCell ⟨g, 1, none⟩ (.slice B4 (n + 1) d4)) := (But.refl (fun k => k = g) w4).setCell (p := ⟨g, 1, none⟩) rfl _
  have hs5 := hs4.but hb5 (fun b hb e => by have := own4 b hb; omega)
  refine ⟨A1, c1, B2, d2, w2, B3, d3, w3, A3, c3, B4, d4, w4, ht1, hr2, hr3, k3, ht3, hr4, ⟨k4, blk_free hg4 1⟩, ⟨_, hfin, ?_, .inl rfl, fun b hb => .inr hb, fun k hk => ?_⟩, own4, (But.of (S := fun k => k = g) bl4).setCell (p := ⟨g, 1, none⟩) rfl _⟩
  · have el : (M.take j ++ (id, at_) :: M.drop j).length = n + 1 := by simp [hM]; omega
    rw [el, flatW_append, show (id, at_) :: M.drop j = [(id, at_)] ++ M.drop j from rfl, flatW_append, ← List.append_assoc]
    exact hs5
  · rcases hk with rfl | hk
    · exact lt_of_block hfin
    · exact hs5.lt hk
set_option maxHeartbeats 2000000 in
theorem rset12_ok (S : Nat → Prop) (g : Nat) (ck id at_ : Int) (L : AL) (w : World) (h : RefW w S g ck L) (hn : L.length ≤ 1000000) (hb : ¬ 1099511627776 < at_) :
    Calls Try.prog 10 #[.pointer (some ⟨g, 0, none⟩), .int .u64 id, .int .u64 at_] w (RefDoes S g ck (setW id at_ L) (.int .i64 0) w) := by
  have h4 : (decide (at_ > 1099511627776)) = false := by simpa using hb
  obtain ⟨x, ex⟩ : ∃ x, (if (stopW id L).length = L.length then (6 : Int) else 0) = x := ⟨_, rfl⟩
  have Hstop := Lib.hid (rstop12_any S g ck id x L w h hn ex)
  obtain ⟨M, eM⟩ : ∃ M, stopW id L = M := ⟨_, rfl⟩
  obtain ⟨n, en⟩ : ∃ n, M.length = n := ⟨_, rfl⟩
  have hnn : n ≤ 1000000 := by
    have : (stopW id L).length ≤ L.length := List.length_filter_le _ _
    rw [eM] at this
    omega
  have HM := Lib.hid eM
  have Hen := Lib.hid en
  rw [eM] at Hstop
  clear hb h hn ex eM en
  go_enter Try.func10, Try.ntmps10
  go_wp2_with fail
  refine Hstop.out.mono ?_
  rintro e w1 ⟨rfl, S1, ⟨v, hg, hs, hSg, hSv, hSl⟩, hbut, hS1⟩
  rw [Hen.out] at hs
  obtain ⟨A, c, ev⟩ := hs.form
  subst ev
  have k1 := blk_cell hg 1
  simp at k1
  have Hg := Lib.hid hg
  have Hs := Lib.hid hs
  have HSg := Lib.hid hSg
  have Hbut := Lib.hid hbut
  have HS1 := Lib.hid hS1
  clear hg hs hSg hSv hSl hbut hS1
  go_wp2_with fail
  go_loopg [7] n (fun gk i wr => ∃ j : Nat, Hid (gk + j = n) ∧ j ≤ n ∧ i = .int .i64 (j : Int) ∧ Hid (∀ i, i < j → ltW id at_ (M.getD i (0, 0)) = true) ∧ w1 = wr)
  case atStart => exact ⟨0, rfl, Nat.zero_le _, rfl, Lib.hid (fun i hi => by omega), rfl⟩
  case round =>
    obtain ⟨j, hgk, hj, rfl, hlt, rfl⟩ := hrel
    by_cases hstop : j = n ∨ ltW id at_ (M.getD j (0, 0)) = false
    · obtain ⟨A1, c1, B2, d2, w2, B3, d3, w3, A3, c3, B4, d4, w4, ht1, hr2, hr3, k3, ht3, hr4, ⟨k4, f4⟩, hfin, hown, hbb⟩ := set_runs id at_ M w1 g ck A n c j Hen.out hj hnn Hg.out Hs.out
      have HL := Lib.hid (setW_at (at_ := at_) HM.out (by rw [Hen.out]; exact hj) hlt.out (by rw [Hen.out]; exact hstop))
      have Hfin := Lib.hid hfin
      have Hown := Lib.hid hown
      have Hbb := Lib.hid hbb
      have Hr2 := Lib.hid hr2
      have Hr3 := Lib.hid hr3
      have Hr4 := Lib.hid hr4
      clear hfin hown hbb hr2 hr3 hr4
      have key : RefDoes S g ck (setW id at_ L) (.int .i64 0) w (.returned (.int .i64 0)) (w4.setCell ⟨g, 1, none⟩ (.slice B4 (n + 1) d4)) := by
        refine ⟨rfl, _, by rw [HL.out]; exact Hfin.out, Hbut.out.trans2 Hbb.out (fun k hk e => ?_), fun k hk => ?_⟩
        · rcases HS1.out g HSg.out with h1 | h1
          · rw [e]; exact h1
          · omega
        · rcases hk with rfl | hk
          · exact HS1.out _ HSg.out
          · exact .inr (Nat.le_trans Hbut.out.size (Hown.out k hk))
      have Hkey := Lib.hid key
      clear key
      by_cases hjn : j < n
      · have hf : ltW id at_ (M.getD j (0, 0)) = false := by
          rcases hstop with h1 | h1
          · omega
          · exact h1
        obtain ⟨g2, o, eA, hr⟩ := alarm_row Hs.out rfl hjn
        subst eA
        obtain ⟨hidx, hc1, hc2⟩ := alarm_index hr Hen.out hjn
        obtain ⟨⟨x1, x2⟩, ex⟩ : ∃ x, M.getD j (0, 0) = x := ⟨_, rfl⟩
        rw [ex] at hc1 hc2 hf
        simp only at hc1 hc2
        have i0 : (0 : Int) ≤ (j : Int) := by omega
        have i1 : (j : Int) < (n : Int) := by omega
        have hf1 : decide (x2 < at_) = false := by unfold ltW at hf; simp at hf; simpa using hf.1
        by_cases he : x2 = at_
        · have he2 : (x2 == at_) = true := by simpa using he
          have hf2 : decide (x1 < id) = false := by unfold ltW at hf; simp [he] at hf; simpa using hf
          clear hr hf he hstop ex
          go_wp2_with (at_builtin; first | refine wpList_appX rfl (.tmp 59) (.tmp 65) _ _ rfl rfl _ _ _ w2 rfl rfl Hr2.out ?_ | refine wpList_appX rfl (.tmp 67) (.tmp 71) _ _ rfl rfl _ _ _ w3 rfl rfl Hr3.out ?_ | refine wpList_appX rfl (.tmp 74) (.tmp 80) _ _ rfl rfl _ _ _ w4 rfl rfl Hr4.out ?_)
          go_ret
          exact Hkey.out
        · have he2 : (x2 == at_) = false := by simpa using he
          clear hr hf he hstop ex
          go_wp2_with (at_builtin; first | refine wpList_appX rfl (.tmp 59) (.tmp 65) _ _ rfl rfl _ _ _ w2 rfl rfl Hr2.out ?_ | refine wpList_appX rfl (.tmp 67) (.tmp 71) _ _ rfl rfl _ _ _ w3 rfl rfl Hr3.out ?_ | refine wpList_appX rfl (.tmp 74) (.tmp 80) _ _ rfl rfl _ _ _ w4 rfl rfl Hr4.out ?_)
          go_ret
          exact Hkey.out
      · have i1 : ¬ (j : Int) < (n : Int) := by omega
        clear hstop
        go_wp2_with (at_builtin; first | refine wpList_appX rfl (.tmp 59) (.tmp 65) _ _ rfl rfl _ _ _ w2 rfl rfl Hr2.out ?_ | refine wpList_appX rfl (.tmp 67) (.tmp 71) _ _ rfl rfl _ _ _ w3 rfl rfl Hr3.out ?_ | refine wpList_appX rfl (.tmp 74) (.tmp 80) _ _ rfl rfl _ _ _ w4 rfl rfl Hr4.out ?_)
        go_ret
        exact Hkey.out
    · have hjn : j < n := by
        rcases Nat.lt_or_ge j n with h1 | h1
        · exact h1
        · exact absurd (.inl (by omega)) hstop
      have ht : ltW id at_ (M.getD j (0, 0)) = true := by
        cases h1 : ltW id at_ (M.getD j (0, 0)) with
        | true => rfl
        | false => exact absurd (.inr h1) hstop
      have Hlt := Lib.hid (show ∀ i, i < j + 1 → ltW id at_ (M.getD i (0, 0)) = true by
        intro i hi
        by_cases e : i = j
        · subst e; exact ht
        · exact hlt.out i (by omega))
      obtain ⟨g2, o, eA, hr⟩ := alarm_row Hs.out rfl hjn
      subst eA
      obtain ⟨hidx, hc1, hc2⟩ := alarm_index hr Hen.out hjn
      obtain ⟨⟨x1, x2⟩, ex⟩ : ∃ x, M.getD j (0, 0) = x := ⟨_, rfl⟩
      rw [ex] at hc1 hc2 ht
      simp only at hc1 hc2
      have i0 : (0 : Int) ≤ (j : Int) := by omega
      have i1 : (j : Int) < (n : Int) := by omega
      by_cases hx : x2 < at_
      · have hf1 : decide (x2 < at_) = true := by simpa using hx
        clear hr ht hx hstop ex
        go_wp2_with fail
        go_roundg (gk - 1)
        case measure => have := hgk.out; omega
        case rel => exact ⟨j + 1, by have := hgk.out; show gk - 1 + (j + 1) = _; omega, by omega, by go_num, Hlt, rfl⟩
      · have hf1 : decide (x2 < at_) = false := by simpa using hx
        have h5 : x2 = at_ ∧ x1 < id := by unfold ltW at ht; simpa [hx] using ht
        have he2 : (x2 == at_) = true := by simpa using h5.1
        have hf2 : decide (x1 < id) = true := by simpa using h5.2
        clear hr ht hx hstop ex h5
        go_wp2_with fail
        go_roundg (gk - 1)
        case measure => have := hgk.out; omega
        case rel => exact ⟨j + 1, by have := hgk.out; show gk - 1 + (j + 1) = _; omega, by omega, by go_num, Hlt, rfl⟩
end Go.Proofs.Ytlpgabbnldalhaa
