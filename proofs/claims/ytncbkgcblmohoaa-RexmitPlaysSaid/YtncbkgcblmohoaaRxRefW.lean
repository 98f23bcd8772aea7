/-
  The document's own buffer (culvertref19): anew, Write, Acked.
-/
import Derived.Test.YtncbkgcblmohoaaRxRef
namespace Go.Proofs.Ytncbkgcblmohoaa
set_option maxRecDepth 10000
open Go.RowKit
set_option linter.unusedSimpArgs false
set_option linter.unusedVariables false

theorem cellsX_no (A : Option Addr) (n c : Nat) (first : Int) (a : Nat) (s : XS) (j : Nat) (x : Int) : (cellsX A n c first a s)[j]? ≠ some (Value.int .u8 x) := by
  unfold cellsX
  intro h
  rcases j with _ | _ | _ | _ | _ | _ | _ | _ | _ | _ | j <;> simp at h
def RDoX (T : Nat → Prop) (g : Nat) (first : Int) (N : Nat) (s : XS) (v : Value) (w : World) (e : Ending) (w' : World) : Prop :=
  e = .returned v ∧ ∃ T' A c W a, RefX w' T' g A c first W a s ∧ But T w w' ∧ (∀ k, T' k → T k ∨ w.heap.size ≤ k) ∧ W.length ≤ N
section
variable {w w' : World} {T V : Nat → Prop} {g c a : Nat} {A : Option Addr} {first : Int} {W : List Int} {s s' : XS}
theorem RefX.off (h : RefX w T g A c first W a s) : ∀ b o, A = some ⟨b, o, none⟩ → 0 < W.length → ¬ b = g := fun b o e h0 => h.row.apart e h0 h.box (cellsX_no _ _ _ _ _ _)
/-- A cell of its block is set. -/
theorem RefX.set (h : RefX w T g A c first W a s) (i : Nat) (v : Value) (a' : Nat) (ha : a' ≤ W.length) (hc : (cellsX A W.length c first a s).setIfInBounds i v = cellsX A W.length c first a' s') (hb : s'.bs = W.drop a') (hu : s'.una = numX (first + (a' : Int))) (hok : OkX s') :
    RefX (w.setCell ⟨g, i, none⟩ v) T g A c first W a' s' ∧ But (fun k => k = g) w (w.setCell ⟨g, i, none⟩ v) := by
  have hB : But (fun k => k = g) w (w.setCell ⟨g, i, none⟩ v) := (But.refl (fun k => k = g) w).setCell (p := ⟨g, i, none⟩) rfl _
  refine ⟨⟨?_, h.row.but hB (fun b o e h0 => h.off b o e h0), h.cap, h.fbd, ha, hb, hu, h.big, hok, h.sg, h.sr, fun k hk => hB.lt (h.lt k hk)⟩, hB⟩
  have := heap_setCell_at h.box i v
  rw [hc] at this
  exact this
theorem but_g (h : RefX w T g A c first W a s) {w1 w2 : World} (hb : But (fun k => k = g) w1 w2) : But T w1 w2 := hb.mono (fun k _ hk => by rw [show k = g from hk]; exact h.sg)
theorem ranew19_any (h : RefX w T g A c first W a s) (now : Int) (hn : 0 ≤ now ∧ now ≤ 4398046511104) :
    Calls Try.prog 44 #[.pointer (some ⟨g, 0, none⟩), .int .u64 now] w (fun e w' => e = .returned (.tuple #[]) ∧ RefX w' T g A c first W a (anewX now s) ∧ But (fun k => k = g) w w') := by
  have c5 := h.c5
  have f7 := h.free 7
  have c7 := h.c7
  have hr := h.ok.rto
  -- as the walk lays it
  have hbox1 := heap_setCell_at h.box 7 (.int .u64 s.rto)
  have hbox2 := heap_setCell_at hbox1 9 (.int .i64 0)
  have hbox3 := heap_setCell_at hbox2 8 (.int .u64 (now + s.rto))
  obtain ⟨w1, ew1⟩ : ∃ v, w.setCell ⟨g, 7, none⟩ (.int .u64 s.rto) = v := ⟨_, rfl⟩
  rw [ew1] at hbox1 hbox2 hbox3
  obtain ⟨w2, ew2⟩ : ∃ v, w1.setCell ⟨g, 9, none⟩ (.int .i64 0) = v := ⟨_, rfl⟩
  rw [ew2] at hbox2 hbox3
  obtain ⟨w3, ew3⟩ : ∃ v, w2.setCell ⟨g, 8, none⟩ (.int .u64 (now + s.rto)) = v := ⟨_, rfl⟩
  rw [ew3] at hbox3
  have hB : But (fun k => k = g) w w3 := by
    rw [← ew3, ← ew2, ← ew1]
    exact (((But.refl (fun k => k = g) w).setCell (p := ⟨g, 7, none⟩) rfl _).setCell (p := ⟨g, 9, none⟩) rfl _).setCell (p := ⟨g, 8, none⟩) rfl _
  have HR := Lib.hid (show RefX w3 T g A c first W a (anewX now s) ∧ But (fun k => k = g) w w3 from
    ⟨⟨hbox3, h.row.but hB (fun b o e h0 => h.off b o e h0), h.cap, h.fbd, h.al, h.bs, h.una, h.big, anew_ok h.ok hn, h.sg, h.sr, fun k hk => hB.lt (h.lt k hk)⟩, hB⟩)
  have d9 : w1.cell? ⟨g, 9, none⟩ = some (.int .i64 s.count) := by rw [blk_cell hbox1]; rfl
  have f9 := blk_free hbox1 9
  have d5 : w2.cell? ⟨g, 5, none⟩ = some (.int .u64 s.rto) := by rw [blk_cell hbox2]; rfl
  have d8 : w2.cell? ⟨g, 8, none⟩ = some (.int .u64 s.alarm) := by rw [blk_cell hbox2]; rfl
  have f8 := blk_free hbox2 8
  have Ew1 := Lib.hid ew1
  have Ew2 := Lib.hid ew2
  have Ew3 := Lib.hid ew3
  have m1 : IntKind.u64.wrap (now + s.rto) = now + s.rto := by rw [IntKind.wrap_u64]; omega
  have m2 : (now + s.rto) % 18446744073709551616 = now + s.rto := by omega
  clear h hbox1 hbox2 hbox3 hB ew1 ew2 ew3 hr
  go_enter Try.func44, Try.ntmps44
  go_upto_region 1 with (fail)
  rw [Ew1.out]
  clear c5 c7 f7
  go_upto_region 2 with (fail)
  rw [Ew2.out]
  go_wp2_with fail
  rw [Ew3.out]
  go_end0
  exact ⟨rfl, HR.out⟩
set_option maxHeartbeats 1000000 in
theorem rwrite19_any (h : RefX w T g A c first W a s) (AD : Option Addr) (nD cD : Nat) (ld : List Int) (hd : Rd w AD nD ld) (now : Int) (hn : 0 ≤ now ∧ now ≤ 4398046511104) (hbg : W.length + nD ≤ 1000000000) :
    Calls Try.prog 14 #[.pointer (some ⟨g, 0, none⟩), .slice AD nD cD, .int .u64 now] w (RDoX T g first (W.length + nD) (writeS ld now s) (.int .i64 (writeE ld s)) w) := by
  obtain ⟨m, em⟩ : ∃ m, s.bs.length = m := ⟨_, rfl⟩
  have hm : m ≤ 16384 := by rw [← em]; exact h.ok.len
  have hll := hd.len
  have HL1 := Lib.hid (fun k => rleft19_any (h.drewN k))
  rw [em] at HL1
  have H := Lib.hid h
  have Hd := Lib.hid hd
  have Hm := Lib.hid (And.intro em (And.intro hm (And.intro hll hbg)))
  have Hn := Lib.hid hn
  obtain ⟨q, eq⟩ : ∃ q, m + nD = q := ⟨_, rfl⟩
  have hz1 : wrap64 ((m : Int) + (nD : Int)) = (q : Int) := by rw [IntWalk.wrap64_in _ (by omega)]; omega
  by_cases hlong : 16384 < q
  · have h1 : (16384 : Int) < (q : Int) := by omega
    have hL : longX ld s = true := by unfold longX; exact decide_eq_true (by omega)
    have HE := Lib.hid (fun k => show RDoX T g first (W.length + nD) (writeS ld now s) (.int .i64 (writeE ld s)) w (.returned (.int .i64 3)) (w.drewN k) from by
      unfold writeS writeE
      rw [if_pos hL, if_pos hL]
      exact ⟨rfl, T, A, c, W, a, H.out.drewN k, (But.refl T w).drewN k, fun k hk => .inl hk, by omega⟩)
    have HL0 := Lib.hid (show Calls Try.prog 31 #[.pointer (some ⟨g, 0, none⟩)] w (DrawX (.int .i64 (m : Int)) w) from HL1.out 0)
    clear h hd hm hll hn hbg hlong hL em eq
    go_enter Try.func14, Try.ntmps14
    go_wp2_with fail
    refine (HL0.out).mono ?_
    rintro e w1 ⟨rfl, k1, rfl⟩
    go_wp2_with fail
    go_ret
    exact HE.out k1
  · have h1 : ¬ (16384 : Int) < (q : Int) := by omega
    have hL : ¬ longX ld s = true := by unfold longX; simp; omega
    have HE : Hid (∀ (w2 : World) (T' : Nat → Prop) (A2 : Option Addr) (c2 : Nat) (s2 : XS), s2 = writeS ld now s → RefX w2 T' g A2 c2 first (W ++ ld) a s2 → But T w w2 → (∀ k, T' k → T k ∨ w.heap.size ≤ k) → RDoX T g first (W.length + nD) (writeS ld now s) (.int .i64 (writeE ld s)) w (.returned (.int .i64 0)) w2) := Lib.hid (fun w2 T' A2 c2 s2 e h2 hb hT => by
      subst e
      have e2 : writeE ld s = 0 := by unfold writeE; rw [if_neg hL]
      rw [e2]
      exact ⟨rfl, T', A2, c2, W ++ ld, a, h2, hb, hT, by rw [List.length_append, hll]; omega⟩)
    have HLl := Lib.hid hL
    have HL0 := Lib.hid (show Calls Try.prog 31 #[.pointer (some ⟨g, 0, none⟩)] w (DrawX (.int .i64 (m : Int)) w) from HL1.out 0)
    obtain ⟨n, en⟩ : ∃ n, W.length = n := ⟨_, rfl⟩
    have HEn := Lib.hid en
    clear h hd hm hll hn hbg hlong hL em eq en
    go_enter Try.func14, Try.ntmps14
    go_wp2_with fail
    refine (HL0.out).mono ?_
    rintro e w1 ⟨rfl, k1, rfl⟩
    go_wp2_with fail
    refine (HL1.out k1).mono ?_
    rintro e w2 ⟨rfl, k2, rfl⟩
    clear hz1 h1
    obtain ⟨w2, ew2⟩ : ∃ v, (w.drewN k1).drewN k2 = v := ⟨_, rfl⟩
    have hb2 : But (fun _ => False) w w2 := by rw [← ew2]; exact ((But.refl _ _).drewN k1).drewN k2
    have H2 := Lib.hid (H.out.but hb2 (fun _ _ h => h))
    have Hd2 := Lib.hid (Hd.out.but hb2 (fun _ _ _ _ h => h))
    have Hb2 := Lib.hid hb2
    rw [ew2]
    clear ew2 hb2
    have c0 := H2.out.c0
    rw [HEn.out] at c0
    go_wp2_with fail
    have hown := own3_any A n c W w2 (by have := Hm.out; have := HEn.out; omega) (by have := H2.out.row; rw [HEn.out] at this; exact this)
    refine hown.mono ?_
    clear hown
    rintro e w3 ⟨A3, c3, rfl, hnc3, hcm3, ho3, hb3⟩
    have hd3 := Hd2.out.below hb3
    obtain ⟨A4, c4, w4, hrun, ho4, hg4, hb4, hat4⟩ := app_run w3 37 w2.heap.size A3 AD n c3 nD cD W ld ho3 hd3 (by have := Hm.out; have := HEn.out; omega) hb3.size
    have Hrun := Lib.hid hrun
    have hbb := hb3.trans hb4
    have H4 := H2.out.on hbb
    have hB0 : But T w2 (w4.setCell ⟨g, 0, none⟩ (.slice A4 (n + nD) c4)) := (But.of hbb).setCell (p := ⟨g, 0, none⟩) H2.out.sg _
    have hgg : ∀ b, (Value.slice A4 (n + nD) c4).ownBlock = some b → w2.heap.size ≤ b ∧ b < w4.heap.size := fun b hb => by
      rcases ho4.2 with ⟨e, _⟩ | ⟨g2, cap, cur, e, hB, hg, _⟩
      · rw [e] at hb; cases hb
      · rw [e] at hb
        injection hb with hb
        subst hb
        exact ⟨hB, lt_of_block hg⟩
    have hglt := H2.out.lt g H2.out.sg
    have hWl : (W ++ ld).length = n + nD := by rw [List.length_append, Hm.out.2.2.1, HEn.out]
    have hbytes : ∀ x ∈ W ++ ld, 0 ≤ x ∧ x < 256 := fun x hx => by
      rcases List.mem_append.1 hx with h5 | h5
      · exact H.out.row.byte x h5
      · exact Hd.out.byte x h5
    obtain ⟨w5, ew5⟩ : ∃ v, w4.setCell ⟨g, 0, none⟩ (.slice A4 (n + nD) c4) = v := ⟨_, rfl⟩
    rw [ew5] at hB0
    have hB5 : But (fun k => k = g) w4 w5 := by rw [← ew5]; exact (But.refl (fun k => k = g) w4).setCell (p := ⟨g, 0, none⟩) rfl _
    have H5 := Lib.hid (show RefX w5 (fun k => T k ∨ (Value.slice A4 (n + nD) c4).ownBlock = some k) g A4 c4 first (W ++ ld) a (layX ld s) from by
      have hs := H.out.ok
      refine ⟨?_, ?_, ?_, H.out.fbd, ?_, ?_, H.out.una, ?_, ?_, .inl H.out.sg, fun b o e h0 => .inr (by rw [e]; rfl), fun k hk => ?_⟩
      · have h6 := heap_setCell_at H4.box 0 (.slice A4 (n + nD) c4)
        rw [ew5] at h6
        rw [hWl]
        exact h6
      · rw [hWl]
        exact (ho4.rd hbytes).but hB5 (fun b o e h0 hbg => by have := (hgg b (by rw [e]; rfl)).1; omega)
      · rw [hWl]; exact ⟨ho4.cap, ho4.capMax⟩
      · have := H.out.al; rw [List.length_append]; omega
      · show s.bs ++ ld = (W ++ ld).drop a
        rw [List.drop_append_of_le_length H.out.al, H.out.bs]
      · rw [hWl]; have := Hm.out; have := HEn.out; omega
      · have h7 := write_ok (now := now) (data := ld) hs Hn.out Hd.out.byte
        unfold writeS at h7
        rw [if_neg HLl.out] at h7
        split at h7
        · exact ⟨hs.una, fun x hx => by
            rcases List.mem_append.1 hx with h8 | h8
            · exact hs.byte x h8
            · exact Hd.out.byte x h8, h7.len, h7.sent, hs.win, hs.rto, hs.tries, hs.count, hs.wait, hs.alarm⟩
        · exact h7
      · rcases hk with hk | hk
        · exact Nat.lt_of_lt_of_le (H2.out.lt k hk) hB0.size
        · exact hB5.lt (hgg k hk).2)
    have HB := Lib.hid (show But T w w5 from (Hb2.out.mono (fun _ _ h => h.elim)).trans hB0)
    have HT := Lib.hid (show ∀ k, (T k ∨ (Value.slice A4 (n + nD) c4).ownBlock = some k) → T k ∨ w.heap.size ≤ k from fun k hk => by
      rcases hk with hk | hk
      · exact .inl hk
      · have := (hgg k hk).1; have := Hb2.out.size; exact .inr (by omega))
    have k0 := H4.c0
    rw [HEn.out] at k0
    have f0 := H4.free 0
    have Ew5 := Lib.hid ew5
    clear c0 hnc3 hcm3 ho3 hb3 hd3 hrun ho4 hg4 hb4 hat4 hbb H4 hB0 hgg hglt hWl hbytes hB5 ew5
    go_upto_region 5 with (at_builtin; refine wpList_appX rfl (.tmp 22) (.tmp 23) _ _ rfl rfl _ _ _ w4 rfl rfl Hrun.out ?_)
    rw [Ew5.out]
    clear k0 f0
    by_cases hm0 : m = 0
    · subst hm0
      have hs0 : s.bs = [] := List.eq_nil_of_length_eq_zero Hm.out.1
      have HL5 := Lib.hid (rleft19_any H5.out)
      have e5 : (layX ld s).bs.length = nD := by show (s.bs ++ ld).length = nD; rw [hs0, List.nil_append]; exact Hm.out.2.2.1
      rw [e5] at HL5
      by_cases hn0 : nD = 0
      · subst hn0
        have hld : ld = [] := List.eq_nil_of_length_eq_zero Hm.out.2.2.1
        have HF := Lib.hid (fun k => HE.out (w5.drewN k) _ A4 c4 _ (show layX ld s = writeS ld now s by unfold writeS; rw [if_neg HLl.out, if_neg (fun e => e.2 hld)]) (H5.out.drewN k) (HB.out.trans ((But.refl T w5).drewN k)) HT.out)
        clear e5 hs0 hld
        go_wp2_with fail
        refine (HL5.out).mono ?_
        rintro e w6 ⟨rfl, k6, rfl⟩
        go_wp2_with fail
        go_ret
        exact HF.out k6
      · have h6 : (0 : Int) < (nD : Int) := by omega
        have h6' : 0 < nD := by omega
        have hld : ld ≠ [] := fun e => hn0 (by rw [← Hm.out.2.2.1, e]; rfl)
        have HA := Lib.hid (fun k => ranew19_any (H5.out.drewN k) now Hn.out)
        have HF := Lib.hid (fun k w7 (h7 : RefX w7 _ g A4 c4 first (W ++ ld) a (anewX now (layX ld s))) (hb : But (fun q => q = g) (w5.drewN k) w7) => HE.out w7 _ A4 c4 _ (show anewX now (layX ld s) = writeS ld now s by unfold writeS; rw [if_neg HLl.out, if_pos ⟨hs0, hld⟩]) h7 (HB.out.trans (((But.refl T w5).drewN k).trans (but_g H.out hb))) HT.out)
        clear e5 hs0 hld hn0
        go_wp2_with fail
        refine (HL5.out).mono ?_
        rintro e w6 ⟨rfl, k6, rfl⟩
        go_wp2_with fail
        refine (HA.out k6).mono ?_
        rintro e w7 ⟨rfl, h7, hb7⟩
        have HG := Lib.hid (HF.out k6 w7 h7 hb7)
        clear h7 hb7
        go_wp2_with fail
        go_ret
        exact HG.out
    · have hne : ((m : Int) == 0) = false := by rw [beq_eq_false_iff_ne]; omega
      have hne2 : (m == 0) = false := by rw [beq_eq_false_iff_ne]; omega
      have HF := Lib.hid (HE.out w5 _ A4 c4 _ (show layX ld s = writeS ld now s by
        unfold writeS
        rw [if_neg HLl.out, if_neg (fun e => hm0 (by rw [← Hm.out.1, e.1]; rfl))]) H5.out HB.out HT.out)
      clear hm0
      go_wp2_with fail
      go_ret
      exact HF.out
end
end Go.Proofs.Ytncbkgcblmohoaa
