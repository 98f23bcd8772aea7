/-
  The document's own table (culvertref13): without, Flow, Touch, Ready, Drop, Lead.
-/
import Derived.Test.YtnhlbohdlnjaaaaTbRef
namespace Go.Proofs.Ytnhlbohdlnjaaaa
set_option maxRecDepth 10000
open Go.RowKit
set_option linter.unusedSimpArgs false
set_option linter.unusedVariables false

theorem RefT.row {w : World} {S : Nat → Prop} {g : Nat} {M last : Int} {L : TL} (h : RefT w S g M last L) : ∃ A c, w.heap[g]? = some (.cells #[.slice A L.length c, .int .i64 M, .int .u64 last] 59 (0, 0)) ∧ SlV w 54 12 (.slice A L.length c) L.length (flatF L) ∧ S g ∧ (∀ b, (Value.slice A L.length c).ownBlock = some b → S b) ∧ (∀ k, S k → k < w.heap.size) ∧ ∀ b, (Value.slice A L.length c).ownBlock = some b → b ≠ g := by
  obtain ⟨v, hg, hs, h1, h2, h3⟩ := h
  obtain ⟨A, c, rfl⟩ := hs.form
  refine ⟨A, c, hg, hs, h1, h2, h3, fun b hb e => ?_⟩
  subst e
  obtain ⟨C, hC⟩ := hs.blkT hb
  rw [hg] at hC
  injection hC with e
  injection e with _ e
  revert e
  decide
/-- Its list is another one now. -/
theorem RefT.lay {w w1 : World} {S : Nat → Prop} {g : Nat} {M last last' : Int} {L L' : TL} {A : Option Addr} {c : Nat} (h : RefT w S g M last L) (hB : Below w.heap.size w w1) (hl : w1.heap[g]? = some (.cells #[.slice A L.length c, .int .i64 M, .int .u64 last'] 59 (0, 0))) {v : Value} (hv : SlV w1 54 12 v L'.length (flatF L')) (ho : ∀ b, v.ownBlock = some b → w.heap.size ≤ b) :
    RefT (w1.setCell ⟨g, 0, none⟩ v) (fun k => k = g ∨ v.ownBlock = some k) g M last' L' ∧ But S w (w1.setCell ⟨g, 0, none⟩ v) ∧ (∀ k, (k = g ∨ v.ownBlock = some k) → S k ∨ w.heap.size ≤ k) := by
  obtain ⟨v0, hg, hs, h1, h2, h3⟩ := h
  have hglt := h3 g h1
  have hB2 : But (fun k => k = g) w1 (w1.setCell ⟨g, 0, none⟩ v) := (But.refl (fun k => k = g) w1).setCell (p := ⟨g, 0, none⟩) rfl v
  have hvg : ∀ b, v.ownBlock = some b → ¬ b = g := fun b hb e => by have := ho b hb; omega
  have h5 := heap_setCell_at hl 0 v
  refine ⟨⟨v, by simpa using h5, hv.but hB2 hvg, .inl rfl, fun b hb => .inr hb, fun k hk => ?_⟩, (But.of hB).trans (hB2.mono (fun k _ e => e ▸ h1)), fun k hk => ?_⟩
  · rcases hk with rfl | hk
    · exact lt_of_block h5
    · exact (hv.but hB2 hvg).lt hk
  · rcases hk with rfl | hk
    · exact .inl h1
    · exact .inr (ho k hk)
def WoIs (M : TL) (w : World) (e : Ending) (w' : World) : Prop := ∃ A c, e = .returned (.slice A M.length c) ∧ SlV w' 54 12 (.slice A M.length c) M.length (flatF M) ∧ (∀ b, (Value.slice A M.length c).ownBlock = some b → w.heap.size ≤ b) ∧ Below w.heap.size w w'
theorem erase_take {L : TL} {j k : Nat} (hj : j < L.length) : (L.take (j + 1)).eraseIdx k = (L.take j).eraseIdx k ++ (if j = k then [] else [L.getD j f0]) := by
  have e : L.take (j + 1) = L.take j ++ [L.getD j f0] := by
    rw [List.take_add_one, getD_at hj]; rfl
  have hl : (L.take j).length = j := by rw [List.length_take]; omega
  rw [e]
  rcases Nat.lt_trichotomy j k with h | h | h
  · rw [List.eraseIdx_of_length_le (by simp [hl]; omega), List.eraseIdx_of_length_le (by omega), if_neg (by omega)]
  · subst h
    have h2 : (L.take j).eraseIdx j = L.take j := List.eraseIdx_of_length_le (Nat.le_of_eq hl)
    rw [h2, if_pos rfl, List.eraseIdx_append_of_length_le (Nat.le_of_eq hl), hl, Nat.sub_self]
    rfl
  · rw [List.eraseIdx_append_of_lt_length (by omega), if_neg (by omega)]
set_option maxHeartbeats 2000000 in
theorem rwithout_any (S : Nat → Prop) (g : Nat) (M last : Int) (L : TL) (k : Nat) (w : World) (h : RefT w S g M last L) (hn : L.length ≤ 1000000) :
    Calls Try.prog 39 #[.pointer (some ⟨g, 0, none⟩), .int .i64 (k : Int)] w (WoIs (L.eraseIdx k) w) := by
  obtain ⟨A, c, hg, hs, hSg, hSu, hlt, hne⟩ := h.row
  have Hg := Lib.hid hg
  have Hs := Lib.hid hs
  have Hglt := Lib.hid (hlt g hSg)
  obtain ⟨n, en⟩ : ∃ n, L.length = n := ⟨_, rfl⟩
  have k0 := blk_cell hg 0
  simp at k0
  rw [en] at k0 hn Hs
  have Hn := Lib.hid en
  clear hg hs hSg hSu hlt hne h en
  go_enter Try.func39, Try.ntmps39
  go_wp2_with fail
  go_loopg [5, 6] n (fun gk l i wr => ∃ (j m : Nat) (A2 : Option Addr) (c2 : Nat), Hid (gk + j = n) ∧ j ≤ n ∧ i = .int .i64 (j : Int) ∧ l = .slice A2 m c2 ∧ Hid (((L.take j).eraseIdx k).length = m) ∧ Hid (SlV wr 54 12 (.slice A2 m c2) m (flatF ((L.take j).eraseIdx k))) ∧ Hid (∀ b, (Value.slice A2 m c2).ownBlock = some b → w.heap.size ≤ b) ∧ Hid (Below w.heap.size w wr))
  case atStart => exact ⟨0, 0, none, 0, rfl, Nat.zero_le _, rfl, rfl, Lib.hid (by simp), Lib.hid (.inl ⟨rfl, rfl, by simp [flatF]⟩), Lib.hid (fun b hb => by cases hb), Lib.hid (Below.refl _ _)⟩
  case round =>
    obtain ⟨j, m, A2, c2, hgk, hj, rfl, rfl, hlen, HL, HLo, HB⟩ := hrel
    have kk0 : wr.cell? ⟨g, 0, none⟩ = some (.slice A n c) := (HB.out.cell (p := ⟨g, 0, none⟩) Hglt.out).trans k0
    by_cases hjn : j < n
    · have hsr : SlV wr 54 12 (.slice A n c) n (flatF L) := Hs.out.but (But.of (S := fun _ => False) HB.out) (fun _ _ x => x)
      obtain ⟨gu, o, rfl, hidx, hfl, hlt⟩ := fl_index_r hsr Hn.out hjn
      obtain ⟨f, ef⟩ : ∃ f, L.getD j f0 = f := ⟨_, rfl⟩
      obtain ⟨p, ep⟩ : ∃ p, o + j * 12 = p := ⟨_, rfl⟩
      rw [ep] at hidx hfl
      rw [ef] at hfl
      obtain ⟨c0, c1, c2', c3, c4, c5, c6, c7, c8, c9, ca, cb⟩ := hfl
      have hjd2 : (j : Int) < (n : Int) := by omega
      have hst := erase_take (k := k) (show j < L.length by rw [Hn.out]; exact hjn)
      rw [ef] at hst
      clear hsr ef ep
      by_cases hjk : j = k
      · have hb : ((j : Int) != (k : Int)) = false := by simp; omega
        rw [if_pos hjk, List.append_nil] at hst
        have Hlen := Lib.hid (show ((L.take (j + 1)).eraseIdx k).length = m by rw [hst]; exact hlen.out)
        have HL2 := Lib.hid (show SlV wr 54 12 (.slice A2 m c2) m (flatF ((L.take (j + 1)).eraseIdx k)) by rw [hst]; exact HL.out)
        have Hjn := Lib.hid hjn
        clear hst hjk
        go_wp2_with fail
        go_roundg (gk - 1)
        case measure => have := hgk.out; have := Hjn.out; omega
        case rel => exact ⟨j + 1, m, A2, c2, by have := hgk.out; have := Hjn.out; show gk - 1 + (j + 1) = _; omega, by have := Hjn.out; omega, by have := Hjn.out; go_num, rfl, Hlen, HL2, HLo, HB⟩
      · have hb : ((j : Int) != (k : Int)) = true := by simp; omega
        rw [if_neg hjk] at hst
        obtain ⟨q, eq⟩ : ∃ q, wr.heap.size = q := ⟨_, rfl⟩
        obtain ⟨wl, ewl⟩ : ∃ v, wr.alloc (.cells #[.int .u64 f.id, .int .u8 f.i.pr, .int .u32 f.i.sr, .int .u32 f.i.ds, .int .u16 f.i.sp, .int .u16 f.i.dp, .int .u8 f.o.pr, .int .u32 f.o.sr, .int .u32 f.o.ds, .int .u16 f.o.sp, .int .u16 f.o.dp, .bool f.em] 54) = v := ⟨_, rfl⟩
        have hbl : But (fun _ => False) wr wl := by rw [← ewl]; exact (But.refl (fun _ => False) wr).alloc _
        have hkl : wl.heap[q]? = some (.cells (flV f).toArray 54 (0, 0)) := by rw [← ewl, ← eq]; exact heap_alloc_new wr _
        have hmj : m ≤ j := by
          have h1 := hlen.out
          have h2 := (List.eraseIdx_sublist (L.take j) k).length_le
          have h3 : (L.take j).length ≤ j := by rw [List.length_take]; omega
          omega
        obtain ⟨A3, c3', w3, hr3, hs3, hb3, ho3⟩ := flow_app_r wl A2 m c2 q ((L.take j).eraseIdx k) f (HL.out.but hbl (fun _ _ x => x)) hkl (by omega)
        have Hr3 := Lib.hid hr3
        have HL3 := Lib.hid (show SlV w3 54 12 (.slice A3 (m + 1) c3') (m + 1) (flatF ((L.take (j + 1)).eraseIdx k)) by rw [hst]; exact hs3)
        have Hlen3 := Lib.hid (show ((L.take (j + 1)).eraseIdx k).length = m + 1 by rw [hst, List.length_append, hlen.out]; rfl)
        have hsz := HB.out.size
        have HLo3 := Lib.hid (show ∀ b, (Value.slice A3 (m + 1) c3').ownBlock = some b → w.heap.size ≤ b by
          intro b hb0
          rcases ho3 with h1 | h1
          · rw [h1] at hb0; exact HLo.out b hb0
          · rw [h1] at hb0
            injection hb0 with hb0
            have := hbl.size
            omega)
        have HB3 := Lib.hid (show Below w.heap.size w w3 from HB.out.trans ((hbl.mono (S' := fun k => (Value.slice A2 m c2).ownBlock = some k) (fun k _ hk => hk.elim)).trans hb3 |>.below (fun k hk => HLo.out k hk) hsz))
        have Ewl := Lib.hid ewl
        have Eq := Lib.hid eq
        have Hjn := Lib.hid hjn
        clear hst hjk hbl hkl hr3 hs3 hb3 ho3 hsz ewl eq hmj
        go_wp2_with (at_builtin; rw [Ewl.out, Eq.out]; refine wpList_appX rfl (.tmp 19) (.tmp 27) _ _ rfl rfl _ _ _ w3 rfl rfl Hr3.out ?_)
        go_roundg (gk - 1)
        case measure => have := hgk.out; have := Hjn.out; omega
        case rel => exact ⟨j + 1, m + 1, A3, c3', by have := hgk.out; have := Hjn.out; show gk - 1 + (j + 1) = _; omega, by have := Hjn.out; omega, by have := Hjn.out; go_num, rfl, Hlen3, HL3, HLo3, HB3⟩
    · obtain rfl : n = j := by omega
      have htk : L.take n = L := List.take_of_length_le (by rw [Hn.out]; exact Nat.le_refl _)
      have HF := Lib.hid (show WoIs (L.eraseIdx k) w (.returned (.slice A2 m c2)) wr from by
        have h1 := hlen.out
        have h2 := HL.out
        rw [htk] at h1 h2
        exact ⟨A2, c2, by rw [h1], by rw [h1]; exact h2, by rw [h1]; exact HLo.out, HB.out⟩)
      clear htk
      go_wp2_with fail
      go_ret
      exact HF.out
section
variable (S : Nat → Prop) (g : Nat) (M last : Int) (L : TL) (w : World) (h : RefT w S g M last L) (hn : L.length ≤ 1000000)
include h hn
theorem rtouch_none (id : Int) (he : atF id L = none) : Calls Try.prog 17 #[.pointer (some ⟨g, 0, none⟩), .int .u64 id] w (JustIs (.int .i64 6) w) := by
  have Hp := Lib.hid (rat_any S g M last L id (-1) w h hn (by rw [he]; rfl))
  clear h
  go_enter Try.func17, Try.ntmps17
  go_wp2_with fail
  refine Hp.out.mono ?_
  rintro e w1 ⟨rfl, rfl⟩
  go_wp2_with fail
  go_ret
  exact ⟨rfl, rfl⟩
theorem rready_none (id : Int) (he : atF id L = none) : Calls Try.prog 19 #[.pointer (some ⟨g, 0, none⟩), .int .u64 id] w (JustIs (.int .i64 6) w) := by
  have Hp := Lib.hid (rat_any S g M last L id (-1) w h hn (by rw [he]; rfl))
  clear h
  go_enter Try.func19, Try.ntmps19
  go_wp2_with fail
  refine Hp.out.mono ?_
  rintro e w1 ⟨rfl, rfl⟩
  go_wp2_with fail
  go_ret
  exact ⟨rfl, rfl⟩
theorem rdrop_none (id : Int) (he : atF id L = none) : Calls Try.prog 21 #[.pointer (some ⟨g, 0, none⟩), .int .u64 id] w (JustIs (.int .i64 6) w) := by
  have Hp := Lib.hid (rat_any S g M last L id (-1) w h hn (by rw [he]; rfl))
  clear h
  go_enter Try.func21, Try.ntmps21
  go_wp2_with fail
  refine Hp.out.mono ?_
  rintro e w1 ⟨rfl, rfl⟩
  go_wp2_with fail
  go_ret
  exact ⟨rfl, rfl⟩
theorem rdrop_some (id : Int) (k : Nat) (he : atF id L = some k) : Calls Try.prog 21 #[.pointer (some ⟨g, 0, none⟩), .int .u64 id] w (RDoes S g M last (L.eraseIdx k) (.int .i64 0) w) := by
  have Hp := Lib.hid (rat_any S g M last L id (k : Int) w h hn (by rw [he]; rfl))
  have Hw := Lib.hid (rwithout_any S g M last L k w h hn)
  obtain ⟨A, c, hg, hs, hSg, hSu, hlt, hne⟩ := h.row
  have Hfin := Lib.hid (fun (w3 : World) (A3 : Option Addr) (c3 : Nat) (hs3 : SlV w3 54 12 (.slice A3 (L.eraseIdx k).length c3) (L.eraseIdx k).length (flatF (L.eraseIdx k))) (ho : ∀ b, (Value.slice A3 (L.eraseIdx k).length c3).ownBlock = some b → w.heap.size ≤ b) (hb : Below w.heap.size w w3) =>
    show (w3.cell? ⟨g, 0, none⟩ = some (.slice A L.length c) ∧ w3.frozen? ⟨g, 0, none⟩ = false) ∧ RDoes S g M last (L.eraseIdx k) (.int .i64 0) w (.returned (.int .i64 0)) (w3.setCell ⟨g, 0, none⟩ (.slice A3 (L.eraseIdx k).length c3)) from by
      have hg3 := blk_on hg hb
      obtain ⟨r1, r2, r3⟩ := h.lay hb hg3 hs3 ho
      exact ⟨⟨blk_cell hg3 0, blk_free hg3 0⟩, rfl, _, r1, r2, r3⟩)
  have i0 : ¬ (k : Int) < 0 := by omega
  clear h hg hs hSg hSu hlt hne he
  go_enter Try.func21, Try.ntmps21
  go_wp2_with fail
  refine Hp.out.mono ?_
  rintro e w1 ⟨rfl, rfl⟩
  go_wp2_with fail
  refine Hw.out.mono ?_
  rintro e w3 ⟨A3, c3, rfl, hs3, ho3, hb3⟩
  obtain ⟨⟨r1, r2⟩, r3⟩ := Hfin.out w3 A3 c3 hs3 ho3 hb3
  have HF := Lib.hid r3
  clear hs3 ho3 hb3 r3
  go_wp2_with fail
  go_ret
  exact HF.out
omit hn in
/-- A place of its list, written at. -/
theorem RefT.spot (k : Nat) (hk : k < L.length) : ∃ gu o c, w.heap[g]? = some (.cells #[.slice (some ⟨gu, o, none⟩) L.length c, .int .i64 M, .int .u64 last] 59 (0, 0)) ∧ RowV w 54 12 gu o L.length (flatF L) c ∧ S gu ∧ gu ≠ g ∧
    ∀ {w' : World} {L' : TL}, But (fun b => b = gu) w w' → L'.length = L.length → RowV w' 54 12 gu o L.length (flatF L') c → RefT w' S g M last L' ∧ But S w w' := by
  obtain ⟨A, c, hg, hs, hSg, hSu, hlt, hne⟩ := h.row
  rcases hs with ⟨_, e, _⟩ | ⟨gu, o, c', e, hr⟩
  · omega
  · injection e with e1 _ e3
    subst e1; subst e3
    refine ⟨gu, o, c, hg, hr, hSu gu rfl, hne gu rfl, fun hB hl hr' => ⟨⟨_, hB.blk hg (fun e => hne gu rfl e.symm), .inr ⟨gu, o, c, by rw [hl], by rw [hl]; exact hr'⟩, hSg, hSu, fun k hk => hB.lt (hlt k hk)⟩, hB.mono (fun k _ e => e ▸ hSu gu rfl)⟩⟩
theorem rready_some (id : Int) (k : Nat) (he : atF id L = some k) : Calls Try.prog 19 #[.pointer (some ⟨g, 0, none⟩), .int .u64 id] w (RDoes S g M last (readyF k L) (.int .i64 0) w) := by
  have Hp := Lib.hid (rat_any S g M last L id (k : Int) w h hn (by rw [he]; rfl))
  have hk := (atF_some he).1
  obtain ⟨gu, o, c, hg, hr, hSu, hne, hfin⟩ := RefT.spot S g M last L w h k hk
  obtain ⟨gu', o', e', hidx, -, -⟩ := fl_index_r (A := some ⟨gu, o, none⟩) (c := c) (.inr ⟨gu, o, c, rfl, hr⟩) rfl hk
  injection e' with e'
  injection e' with e1 e2
  subst e1; subst e2
  obtain ⟨p, ep⟩ : ∃ p, o + k * 12 = p := ⟨_, rfl⟩
  rw [ep] at hidx
  obtain ⟨r1, r2⟩ := hr.ready (w' := w.setCell ⟨gu, p + 11, none⟩ (.bool false)) rfl hk ep rfl
  have hl : (readyF k L).length = L.length := by unfold readyF; rw [List.length_set]
  obtain ⟨s1, s2⟩ := hfin r2 hl r1
  have HF := Lib.hid (show RDoes S g M last (readyF k L) (.int .i64 0) w (.returned (.int .i64 0)) (w.setCell ⟨gu, p + 11, none⟩ (.bool false)) from ⟨rfl, S, s1, s2, fun k hk => .inl hk⟩)
  have hfl := hr.fl rfl hk
  rw [ep] at hfl
  have cb := hfl.cb
  have fb := hr.free (p + 11)
  have k0 := blk_cell hg 0
  simp at k0
  obtain ⟨em, eem⟩ : ∃ em, (L.getD k f0).em = em := ⟨_, rfl⟩
  rw [eem] at cb
  obtain ⟨n, en⟩ : ∃ n, L.length = n := ⟨_, rfl⟩
  have i0 : ¬ (k : Int) < 0 := by omega
  have i1 : (0 : Int) ≤ (k : Int) := by omega
  have i2 : (k : Int) < (n : Int) := by omega
  rw [en] at k0 hidx
  clear h hg hr hSu hne hfin r1 r2 hl s1 s2 hfl he ep eem en hk
  go_enter Try.func19, Try.ntmps19
  go_wp2_with fail
  refine Hp.out.mono ?_
  rintro e w1 ⟨rfl, rfl⟩
  go_wp2_with fail
  go_ret
  exact HF.out
set_option maxHeartbeats 1000000 in
theorem rflow_any (id : Int) (f : Fl) (is_ : Bool) (hx : flowR id L = (f, is_)) :
    Calls Try.prog 28 #[.pointer (some ⟨g, 0, none⟩), .int .u64 id] w (TellsT (.tuple #[.agg (flV f).toArray, .bool is_]) w) := by
  obtain ⟨w0, ew⟩ : ∃ w0, w.alloc (.cells (flV f0).toArray 54) = w0 := ⟨_, rfl⟩
  obtain ⟨z, hz⟩ : ∃ z, w.heap.size = z := ⟨_, rfl⟩
  have hb0 : Below w.heap.size w w0 := by rw [← ew]; exact (Below.refl _ _).alloc (Nat.le_refl _) _
  have hk0 : w0.heap[z]? = some (.cells (flV f0).toArray 54 (0, 0)) := by rw [← ew, ← hz]; exact heap_alloc_new w _
  have ew' : w.alloc (.cells #[.int .u64 0, .int .u8 0, .int .u32 0, .int .u32 0, .int .u16 0, .int .u16 0, .int .u8 0, .int .u32 0, .int .u32 0, .int .u16 0, .int .u16 0, .bool false] 54) = w0 := ew
  have h0 := h.below hb0
  have Ew := Lib.hid ew'
  have Hz := Lib.hid hz
  have Hb0 := Lib.hid hb0
  have HK1 := Lib.hid hk0
  have e0 := fun i => blk_cell hk0 i
  have fz := fun i => blk_free hk0 i
  rw [fl_arr] at e0
  have d0 := e0 0
  have d1 := e0 1
  have d2 := e0 2
  have d3 := e0 3
  have d4 := e0 4
  have d5 := e0 5
  have d6 := e0 6
  have d7 := e0 7
  have d8 := e0 8
  have d9 := e0 9
  have da := e0 10
  have db := e0 11
  simp at d0 d1 d2 d3 d4 d5 d6 d7 d8 d9 da db
  clear e0
  unfold flowR at hx
  cases he : atF id L with
  | none =>
    rw [he] at hx
    simp only [Prod.mk.injEq] at hx
    obtain ⟨rfl, rfl⟩ := hx
    have Hp := Lib.hid (rat_any S g M last L id (-1) w0 h0 hn (by rw [he]; rfl))
    clear h h0 hb0 hk0 ew ew' hz he
    go_enter Try.func28, Try.ntmps28
    go_upto_region 1 with (fail)
    rw [Ew.out]
    try rw [Hz.out]
    go_wp2_with fail
    refine Hp.out.mono ?_
    rintro e w1 ⟨rfl, rfl⟩
    go_wp2_with fail
    exact bodyPost_ret (v := .tuple #[.agg (flV f0).toArray, .bool false]) (results_row_tmp rfl _ _ z _ _ _ _ _ rfl rfl (set12_blk HK1.out rfl _ _ _ _ _ _ _ _ _ _ _ _) Try.underlying54 rfl (by kernel_rfl)) rfl ⟨rfl, set12_below Hb0.out (by rw [Hz.out]; exact Nat.le_refl _) _ _ _ _ _ _ _ _ _ _ _ _⟩
  | some k =>
    rw [he] at hx
    simp only [Prod.mk.injEq] at hx
    obtain ⟨hf, rfl⟩ := hx
    have hk := (atF_some he).1
    have Hp := Lib.hid (rat_any S g M last L id k w0 h0 hn (by rw [he]; rfl))
    obtain ⟨gu, o, c, hg, hr, hSu, hne, -⟩ := RefT.spot S g M last L w0 h0 k hk
    obtain ⟨gu', o', e', hidx, hfl, -⟩ := fl_index_r (A := some ⟨gu, o, none⟩) (c := c) (.inr ⟨gu, o, c, rfl, hr⟩) rfl hk
    injection e' with e'
    injection e' with e1 e2
    subst e1; subst e2
    obtain ⟨p, ep⟩ : ∃ p, o + k * 12 = p := ⟨_, rfl⟩
    rw [ep] at hidx hfl
    rw [hf] at hfl
    have k0 := blk_cell hg 0
    simp at k0
    obtain ⟨n, en⟩ : ∃ n, L.length = n := ⟨_, rfl⟩
    have i0 : ¬ (k : Int) < 0 := by omega
    have i1 : (0 : Int) ≤ (k : Int) := by omega
    have i2 : (k : Int) < (n : Int) := by omega
    rw [en] at k0 hidx
    obtain ⟨c0, c1, c2, c3, c4, c5, c6, c7, c8, c9, ca, cb⟩ := hfl
    clear h h0 hb0 hk0 ew ew' hz he hg hr hSu hne hf ep en hk
    go_enter Try.func28, Try.ntmps28
    go_upto_region 1 with (fail)
    rw [Ew.out]
    try rw [Hz.out]
    go_wp2_with fail
    refine Hp.out.mono ?_
    rintro e w1 ⟨rfl, rfl⟩
    go_wp2_with fail
    exact bodyPost_ret (v := .tuple #[.agg (flV f).toArray, .bool true]) (results_row_tmp rfl _ _ z _ _ _ _ _ rfl rfl (set12_blk HK1.out rfl _ _ _ _ _ _ _ _ _ _ _ _) Try.underlying54 rfl (by kernel_rfl)) rfl ⟨rfl, set12_below Hb0.out (by rw [Hz.out]; exact Nat.le_refl _) _ _ _ _ _ _ _ _ _ _ _ _⟩
end
end Go.Proofs.Ytnhlbohdlnjaaaa
