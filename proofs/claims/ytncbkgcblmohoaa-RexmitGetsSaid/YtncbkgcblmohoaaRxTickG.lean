/-
  A buffer of the program's: Tick.
-/
import Derived.Test.YtncbkgcblmohoaaTk
import Derived.Test.YtncbkgcblmohoaaRxCutP
namespace Go.Proofs.Ytncbkgcblmohoaa
set_option maxRecDepth 10000
open Go.RowKit
set_option linter.unusedSimpArgs false
set_option linter.unusedVariables false

theorem results_rowT {P : Program} {fn : Func} {p q r : Tmp} {ty : TypeId} (h : fn.results = #[.cell p ty, .tmp q, .tmp r]) (tmps : Array Value) (w : World) (g : Nat) (t : TypeId) (cs : Array Value) (fr : Nat × Nat) (d : TypeDesc) (v u : Value)
    (hp : tmps.getD p undef = .pointer (some ⟨g, 0, none⟩)) (hv : tmps.getD q undef = v) (hu' : tmps.getD r undef = u) (hg : w.heap[g]? = some (.cells cs t fr))
    (hu : P.underlying ty = some d) (hd : (match d with | .struct _ | .array _ _ => true | _ => false) = true) (hi : (P.info? ty).map (·.size) = some cs.size) :
    (results fn tmps).run P w = .ok (.tuple #[.agg cs, v, u]) w := by
  have hp' : tmps[p]?.getD undef = .pointer (some ⟨g, 0, none⟩) := by simpa using hp
  have hv' : tmps[q]?.getD undef = v := by simpa using hv
  have hu'' : tmps[r]?.getD undef = u := by simpa using hu'
  simp [results, h, hp', hv', hu'', asAddr, run_loadVar_row w g t ty cs fr d hg hu hd hi]
theorem setp {w W : World} {z : Nat} {T : TypeId} {u0 u1 : Value} (hz : w.heap.size = z) (hb : Below w.heap.size w W) (hk : W.heap[z]? = some (.cells #[u0, u1] T (0, 0))) (v0 v1 : Value) :
    Below w.heap.size w ((W.setCell ⟨z, 0, none⟩ v0).setCell ⟨z, 1, none⟩ v1) ∧ ((W.setCell ⟨z, 0, none⟩ v0).setCell ⟨z, 1, none⟩ v1).heap[z]? = some (.cells #[v0, v1] T (0, 0)) := by
  refine ⟨(hb.setCell (by simp; omega) _).setCell (by simp; omega) _, ?_⟩
  simp [World.setCell, Array.getElem?_modify, hk]
theorem below_dP {w w1 : World} (h : Below w.heap.size w w1) (k : Nat) : Below w.heap.size w (w1.drewN k) := ⟨h.os, h.tape, h.output, h.size, h.block⟩
set_option maxHeartbeats 2000000 in
theorem tick_none {w : World} {S : Nat → Prop} {g c : Nat} {A : Option Addr} {s : XS} {wt ct al : Int} (h : XMem w S g A c s wt ct al) (mss now : Int) (hn : nowX now) (hk4 : ¬ tickK mss now s = 4) :
    Calls Try.prog 22 #[.pointer (some ⟨g, 0, none⟩), .int .i64 mss, .int .u64 now] w (XTicks XmAt S g (tickS mss now s) (tickA mss now s) (tickB mss now s) (tickE mss now s) (tickD mss now s) w) := by
  obtain ⟨z, ez⟩ : ∃ z, w.heap.size = z := ⟨_, rfl⟩
  obtain ⟨w1, ew1⟩ : ∃ v, w.alloc (.cells #[.int .u32 0, .slice none 0 0] 54) = v := ⟨_, rfl⟩
  have hB1 : Below w.heap.size w w1 := by rw [← ew1]; exact (Below.refl _ _).alloc (Nat.le_refl _) _
  have hZ1 : w1.heap[z]? = some (.cells #[.int .u32 0, .slice none 0 0] 54 (0, 0)) := by rw [← ew1, ← ez]; exact heap_alloc_new w _
  have z0 : w1.cell? ⟨z, 0, none⟩ = some (.int .u32 0) := by rw [blk_cell hZ1]; rfl
  have z1 : w1.cell? ⟨z, 1, none⟩ = some (.slice none 0 0) := by rw [blk_cell hZ1]; rfl
  have zf0 := blk_free hZ1 0
  have zf1 := blk_free hZ1 1
  have HB1 := Lib.hid hB1
  have HZ1 := Lib.hid hZ1
  have Ew1 := Lib.hid ew1
  have h1 := h.on hB1
  have Hno := Lib.hid (xnone_no g w1 h1.c0)
  have H := Lib.hid h
  have H1 := Lib.hid h1
  clear hB1 hZ1 ew1
  by_cases hm : badM mss = true
  · have hK : tickK mss now s = 1 := by
      unfold tickK
      rw [if_pos hm]
    have Hmay := Lib.hid (may19_any mss w1 true hm)
    have HE := Lib.hid (fun W2 (hW : Below w.heap.size w W2) => show XTicks XmAt S g (tickS mss now s) (tickA mss now s) (tickB mss now s) (tickE mss now s) (tickD mss now s) w (.returned (.tuple #[.agg #[.int .u32 0, .slice none 0 0], .bool false, .int .i64 1])) W2 from by
      unfold tickS tickA tickB tickE tickD
      rw [hK]
      exact ⟨none, 0, 0, rfl, rfl, OwnB.nil _ _, S, ⟨A, c, wt, ct, al, H.out.on hW⟩, But.of hW, fun j hj => .inl hj, fun b hb => by cases hb⟩)
    clear h h1 hK hm hk4 hn
    go_enter Try.func22, Try.ntmps22
    go_upto_region 1 with (fail)
    rw [Ew1.out]
    go_wp2_with (first | (go_at_call 40; refine Hno.out.mono ?_; rintro e w' ⟨rfl, rfl⟩) | (go_at_call 45; refine Hmay.out.mono ?_; rintro e w' ⟨rfl, rfl⟩))
    have hfin := setp ez HB1.out HZ1.out (.int .u32 0) (.slice none 0 0)
    exact bodyPost_ret (v := .tuple #[.agg #[.int .u32 0, .slice none 0 0], .bool false, .int .i64 1]) (results_rowT rfl _ _ z _ _ _ _ (.bool false) (.int .i64 1) rfl rfl rfl hfin.2 Try.underlying54 rfl (by kernel_rfl)) rfl (HE.out _ hfin.1)
  · have hm2 : badM mss = false := by simpa using hm
    have Hmay := Lib.hid (may19_any mss w1 false hm2)
    obtain ⟨ax, eax⟩ : ∃ x, alarmX s = x := ⟨_, rfl⟩
    obtain ⟨ab, eab⟩ : ∃ x, setX s = x := ⟨_, rfl⟩
    have Hal := Lib.hid (xalarm_mem h1 ax ab eax eab)
    by_cases hd : dueX now s = false
    · have hK : tickK mss now s = 2 := by
        unfold tickK
        rw [if_neg hm, if_pos hd]
      have HE := Lib.hid (fun W2 (hW : Below w.heap.size w W2) => show XTicks XmAt S g (tickS mss now s) (tickA mss now s) (tickB mss now s) (tickE mss now s) (tickD mss now s) w (.returned (.tuple #[.agg #[.int .u32 0, .slice none 0 0], .bool false, .int .i64 0])) W2 from by
        unfold tickS tickA tickB tickE tickD
        rw [hK]
        exact ⟨none, 0, 0, rfl, rfl, OwnB.nil _ _, S, ⟨A, c, wt, ct, al, H.out.on hW⟩, But.of hW, fun j hj => .inl hj, fun b hb => by cases hb⟩)
      cases ab with
      | false =>
        clear h h1 hK hm hm2 hk4 hn eax eab hd
        go_enter Try.func22, Try.ntmps22
        go_upto_region 1 with (fail)
        rw [Ew1.out]
        go_wp2_with (first | (go_at_call 40; refine Hno.out.mono ?_; rintro e w' ⟨rfl, rfl⟩) | (go_at_call 45; refine Hmay.out.mono ?_; rintro e w' ⟨rfl, rfl⟩) | (go_at_call 25; refine Hal.out.mono ?_; rintro e w' ⟨rfl, rfl⟩))
        have hfin := setp ez HB1.out HZ1.out (.int .u32 0) (.slice none 0 0)
        exact bodyPost_ret (v := .tuple #[.agg #[.int .u32 0, .slice none 0 0], .bool false, .int .i64 0]) (results_rowT rfl _ _ z _ _ _ _ (.bool false) (.int .i64 0) rfl rfl rfl hfin.2 Try.underlying54 rfl (by kernel_rfl)) rfl (HE.out _ hfin.1)
      | true =>
        have hgt : now < ax := by
          unfold dueX at hd
          rw [eab] at hd
          have e : alarmX s = s.alarm := by unfold alarmX; rw [if_pos eab]
          simp at hd
          omega
        clear h h1 hK hm hm2 hk4 hn eax eab hd
        go_enter Try.func22, Try.ntmps22
        go_upto_region 1 with (fail)
        rw [Ew1.out]
        go_wp2_with (first | (go_at_call 40; refine Hno.out.mono ?_; rintro e w' ⟨rfl, rfl⟩) | (go_at_call 45; refine Hmay.out.mono ?_; rintro e w' ⟨rfl, rfl⟩) | (go_at_call 25; refine Hal.out.mono ?_; rintro e w' ⟨rfl, rfl⟩))
        have hfin := setp ez HB1.out HZ1.out (.int .u32 0) (.slice none 0 0)
        exact bodyPost_ret (v := .tuple #[.agg #[.int .u32 0, .slice none 0 0], .bool false, .int .i64 0]) (results_rowT rfl _ _ z _ _ _ _ (.bool false) (.int .i64 0) rfl rfl rfl hfin.2 Try.underlying54 rfl (by kernel_rfl)) rfl (HE.out _ hfin.1)
    · have hd2 : dueX now s = true := by simpa using hd
      have hcnt : s.tries ≤ s.count := by
        rcases Int.lt_or_le s.count s.tries with h5 | h5
        · refine absurd ?_ hk4
          unfold tickK
          rw [if_neg hm, if_neg hd, if_neg (by omega)]
        · exact h5
      have hK : tickK mss now s = 3 := by
        unfold tickK
        rw [if_neg hm, if_neg hd, if_pos hcnt]
      have hbs : s.bs ≠ [] := fun e => by
        unfold dueX setX at hd2
        rw [e] at hd2
        simp at hd2
      have e1 : ab = true := by
        rw [← eab]
        unfold dueX at hd2
        simp at hd2
        exact hd2.1
      subst e1
      have hle : ¬ now < ax := by
        unfold dueX at hd2
        have e : alarmX s = s.alarm := by unfold alarmX; rw [if_pos eab]
        simp at hd2
        omega
      have HE := Lib.hid (fun W2 (hW : Below w.heap.size w W2) => show XTicks XmAt S g (tickS mss now s) (tickA mss now s) (tickB mss now s) (tickE mss now s) (tickD mss now s) w (.returned (.tuple #[.agg #[.int .u32 0, .slice none 0 0], .bool false, .int .i64 7])) W2 from by
        unfold tickS tickA tickB tickE tickD
        rw [hK]
        exact ⟨none, 0, 0, rfl, rfl, OwnB.nil _ _, S, ⟨A, c, wt, ct, al, H.out.on hW⟩, But.of hW, fun j hj => .inl hj, fun b hb => by cases hb⟩)
      have c8 := h1.c8
      have c6 := h1.c6
      obtain ⟨tr, etr⟩ : ∃ x, s.tries = x := ⟨_, rfl⟩
      rw [etr] at c6
      have heq : (ct == tr) = true := by
        rw [beq_iff_eq, (h.on_ hbs).2.1, ← etr]
        have := h.ok.count
        omega
      have HC := Lib.hid (And.intro c8 c6)
      clear h h1 hK hm hm2 hk4 hn eax eab hd hd2 hcnt hbs etr c8 c6
      go_enter Try.func22, Try.ntmps22
      go_upto_region 1 with (fail)
      rw [Ew1.out]
      go_wp2_with (first | (go_at_call 40; refine Hno.out.mono ?_; rintro e w' ⟨rfl, rfl⟩) | (go_at_call 45; refine Hmay.out.mono ?_; rintro e w' ⟨rfl, rfl⟩) | (go_at_call 25; refine Hal.out.mono ?_; rintro e w' ⟨rfl, rfl⟩))
      refine wp_region_held_drew (S := fun w' => w'.cell? ⟨g, 8, none⟩ = some (.int .i64 ct) ∧ w'.cell? ⟨g, 6, none⟩ = some (.int .i64 tr)) (by kernel_rfl) (by exact HC.out) (fun hHeld => ?_)
      refine tk 0 ?_ rfl ?_ ?_
      rotate_left
      · intro w' hSw; (go_simp <;> (with_reducible rfl))
      try simp only [Act.put, putL]
      refine tk 1 ?_ rfl ?_ ?_
      rotate_left
      · intro w' hSw; (go_simp <;> (with_reducible rfl))
      try simp only [Act.put, putL]
      refine tk 2 ?_ rfl ?_ ?_
      rotate_left
      · intro w' hSw; (go_simp <;> (with_reducible rfl))
      try simp only [Act.put, putL]
      refine tk 3 ?_ rfl ?_ ?_
      rotate_left
      · intro w' hSw; (go_simp <;> (with_reducible rfl))
      try simp only [Act.put, putL]
      refine tk 4 ?_ rfl ?_ ?_
      rotate_left
      · intro w' hSw; (go_simp <;> (with_reducible rfl))
      try simp only [Act.put, putL]
      refine tk 5 ?_ rfl ?_ ?_
      rotate_left
      · intro w' hSw; (go_simp <;> (with_reducible rfl))
      try simp only [Act.put, putL]
      refine tk 6 ?_ rfl ?_ ?_
      rotate_left
      · intro w' hSw; (go_simp <;> (with_reducible rfl))
      try simp only [Act.put, putL]
      refine tk 7 ?_ rfl ?_ ?_
      rotate_left
      · intro w' hSw; (go_simp <;> (with_reducible rfl))
      try simp only [Act.put, putL]
      refine tk 8 ?_ rfl ?_ ?_
      rotate_left
      · intro w' hSw; (go_simp <;> (with_reducible rfl))
      try simp only [Act.put, putL]
      refine wpAnyH_done (by kernel_rfl) ?_ _
      clear hHeld
      go_wp2_with fail
      have hfin := setp ez (below_dP HB1.out 1) (show (w1.drewN 1).heap[z]? = _ from HZ1.out) (.int .u32 0) (.slice none 0 0)
      exact bodyPost_ret (v := .tuple #[.agg #[.int .u32 0, .slice none 0 0], .bool false, .int .i64 7]) (results_rowT rfl _ _ z _ _ _ _ (.bool false) (.int .i64 7) rfl rfl rfl hfin.2 Try.underlying54 rfl (by kernel_rfl)) rfl (HE.out _ hfin.1)
theorem tick_take (s : XS) (mi : Int) (lim K : Nat) (h0 : s.bs ≠ []) (hl : max 1 (limX s) = lim) (hK : min mi.toNat lim = K) : s.bs.take (min mi.toNat (max 1 s.win.toNat)) = s.bs.take K := by
  have h1 : 0 < s.bs.length := List.length_pos_iff.2 h0
  unfold limX at hl
  rcases Nat.le_total (min mi.toNat (max 1 s.win.toNat)) s.bs.length with h2 | h2
  · rw [show min mi.toNat (max 1 s.win.toNat) = K by omega]
  · rw [List.take_of_length_le h2, List.take_of_length_le (by omega)]
set_option maxHeartbeats 2000000 in
theorem tick_some {w : World} {S : Nat → Prop} {g c : Nat} {A : Option Addr} {s : XS} {wt ct al : Int} (h : XMem w S g A c s wt ct al) (mss now : Int) (hn : nowX now) (hk4 : tickK mss now s = 4) :
    Calls Try.prog 22 #[.pointer (some ⟨g, 0, none⟩), .int .i64 mss, .int .u64 now] w (XTicks XmAt S g (tickS mss now s) (tickA mss now s) (tickB mss now s) (tickE mss now s) (tickD mss now s) w) := by
  obtain ⟨z, ez⟩ : ∃ z, w.heap.size = z := ⟨_, rfl⟩
  obtain ⟨w1, ew1⟩ : ∃ v, w.alloc (.cells #[.int .u32 0, .slice none 0 0] 54) = v := ⟨_, rfl⟩
  have hB1 : Below w.heap.size w w1 := by rw [← ew1]; exact (Below.refl _ _).alloc (Nat.le_refl _) _
  have hZ1 : w1.heap[z]? = some (.cells #[.int .u32 0, .slice none 0 0] 54 (0, 0)) := by rw [← ew1, ← ez]; exact heap_alloc_new w _
  have z0 : w1.cell? ⟨z, 0, none⟩ = some (.int .u32 0) := by rw [blk_cell hZ1]; rfl
  have z1 : w1.cell? ⟨z, 1, none⟩ = some (.slice none 0 0) := by rw [blk_cell hZ1]; rfl
  have zf0 := blk_free hZ1 0
  have zf1 := blk_free hZ1 1
  have HB1 := Lib.hid hB1
  have HZ1 := Lib.hid hZ1
  have Ew1 := Lib.hid ew1
  have h1 := h.on hB1
  have Hno := Lib.hid (xnone_no g w1 h1.c0)
  have H := Lib.hid h
  have H1 := Lib.hid h1
  clear hB1 hZ1 ew1
  have hok := h.ok
  have hbad : badM mss = false := by
    cases hb : badM mss with
    | false => rfl
    | true => unfold tickK at hk4; rw [hb] at hk4; simp at hk4
  have hmm : 1 ≤ mss ∧ mss ≤ 1500 := by
    have h9 := hbad
    unfold badM at h9
    have := of_decide_eq_false h9
    omega
  have hdue : dueX now s = true := by
    cases hb : dueX now s with
    | true => rfl
    | false => unfold tickK at hk4; rw [hbad, hb] at hk4; simp at hk4
  have hcnt : ¬ s.tries ≤ s.count := fun e => by
    unfold tickK at hk4
    rw [hbad, hdue, if_neg (by simp), if_neg (by simp), if_pos e] at hk4
    omega
  have Hmay := Lib.hid (may19_any mss w1 false hbad)
  obtain ⟨ax, eax⟩ : ∃ x, alarmX s = x := ⟨_, rfl⟩
  have hset : setX s = true ∧ s.alarm ≤ now := by
    unfold dueX at hdue
    simpa using hdue
  have hbs : s.bs ≠ [] := fun e => by
    have h9 := hset.1
    unfold setX at h9
    rw [e] at h9
    simp at h9
  have Hal := Lib.hid (xalarm_mem h1 ax true eax hset.1)
  have hle : ¬ now < ax := by
    have e : alarmX s = s.alarm := by unfold alarmX; rw [if_pos hset.1]
    omega
  obtain ⟨ewt, ect, eal⟩ := h.on_ hbs
  have c8 := h1.c8
  have c6 := h1.c6
  obtain ⟨tr, etr⟩ : ∃ x, s.tries = x := ⟨_, rfl⟩
  rw [etr] at c6
  have heq : (ct == tr) = false := by rw [beq_eq_false_iff_ne]; omega
  have HC := Lib.hid (And.intro c8 c6)
  have hwb := hok.waits
  have hcb := hok.count
  have htb := hok.tries
  rw [← ewt] at hwb
  rw [← ect, etr] at hcb
  rw [etr] at htb
  rw [← ect, etr] at hcnt
  -- the state behind the three stores
  obtain ⟨w1d, ew1d⟩ : ∃ v, w1.drew = v := ⟨_, rfl⟩
  have h1d : XMem w1d S g A c s wt ct al := by rw [← ew1d]; exact h1.drewN 1
  have hB01 : But (fun _ => False) w w1d := by rw [← ew1d]; exact (But.of HB1.out).drew
  have hZ1d : w1d.heap[z]? = some (.cells #[.int .u32 0, .slice none 0 0] 54 (0, 0)) := by rw [← ew1d]; exact HZ1.out
  have hzg := cells_not hZ1d h1d.box (by decide)
  obtain ⟨cn1, ecn1⟩ : ∃ x, ct + 1 = x := ⟨_, rfl⟩
  obtain ⟨wt2, ewt2⟩ : ∃ x, wt * 2 = x := ⟨_, rfl⟩
  obtain ⟨al2, eal2⟩ : ∃ x, now + wt2 = x := ⟨_, rfl⟩
  have hbx2 := heap_setCell_at h1d.box 8 (.int .i64 cn1)
  obtain ⟨w2, ew2⟩ : ∃ v, w1d.setCell ⟨g, 8, none⟩ (.int .i64 cn1) = v := ⟨_, rfl⟩
  rw [ew2] at hbx2
  have hbx3 := heap_setCell_at hbx2 7 (.int .u64 wt2)
  obtain ⟨w3, ew3⟩ : ∃ v, w2.setCell ⟨g, 7, none⟩ (.int .u64 wt2) = v := ⟨_, rfl⟩
  rw [ew3] at hbx3
  have hbx4 := heap_setCell_at hbx3 9 (.int .u64 al2)
  obtain ⟨w4, ew4⟩ : ∃ v, w3.setCell ⟨g, 9, none⟩ (.int .u64 al2) = v := ⟨_, rfl⟩
  rw [ew4] at hbx4
  have hB14 : But (fun q => q = g) w1d w4 := by
    rw [← ew4, ← ew3, ← ew2]
    exact (((But.refl (fun q => q = g) w1d).setCell (p := ⟨g, 8, none⟩) rfl _).setCell (p := ⟨g, 7, none⟩) rfl _).setCell (p := ⟨g, 9, none⟩) rfl _
  have hwlt := h.lt g h.sg
  have hokS : OkX { s with count := cn1, wait := wt2, alarm := al2 } := by
    have h9 := tick_ok (mss := mss) hok hn
    unfold tickS at h9
    rw [if_pos hk4, ← ect, ← ewt, ecn1, show wt + wt = wt2 by omega, eal2] at h9
    exact ⟨h9.una, h9.byte, h9.len, hok.sent, h9.win, h9.rto, h9.tries, h9.count, h9.wait, h9.alarm⟩
  have h4 : XMem w4 S g A c { s with count := cn1, wait := wt2, alarm := al2 } wt2 cn1 al2 :=
    ⟨by rw [hbx4]; rfl, h1d.sl.but hB14 (fun b hb => h1d.off b hb), h1d.own, hokS, fun _ => ⟨rfl, rfl, rfl⟩, h1d.sg, fun q hq => hB14.lt (h1d.lt q hq)⟩
  obtain ⟨lm, elm⟩ : ∃ n, limX s = n := ⟨_, rfl⟩
  obtain ⟨lim, elim⟩ : ∃ n, max 1 lm = n := ⟨_, rfl⟩
  obtain ⟨K, eK⟩ : ∃ n, min mss.toNat lim = n := ⟨_, rfl⟩
  have hlp : 0 < s.bs.length := List.length_pos_iff.2 hbs
  have hlim : lim ≤ s.bs.length := by have := lim_le s; omega
  have hlen := hok.len
  have hD : tickD mss now s = s.bs.take K := by
    unfold tickD
    rw [if_pos hk4]
    exact tick_take s mss lim K hbs (by rw [elm]; exact elim) eK
  have hDl : (tickD mss now s).length = K := by rw [hD, List.length_take]; omega
  have hS : tickS mss now s = { s with count := cn1, wait := wt2, alarm := al2, sent := max s.sent K } := by
    unfold tickS
    rw [if_pos hk4, hDl, ← ect, ← ewt, ecn1, show wt + wt = wt2 by omega, eal2]
  have hA : tickA mss now s = s.una := by unfold tickA; rw [if_pos hk4]
  have hTB : tickB mss now s = true := by unfold tickB; exact decide_eq_true hk4
  have hTE : tickE mss now s = 0 := by unfold tickE; rw [hk4]; rfl
  rw [hA, hTB, hTE]
  have Hin := Lib.hid (inwin_any h4 lm (by show limX s = lm; exact elm))
  have Hcut := Lib.hid (fun W => cutter_any g mss lim W)
  have hux := hok.una
  have u1 : wrap64 (ct + 1) = cn1 := by rw [IntWalk.wrap64_in _ (by omega)]; exact ecn1
  have u2 : IntKind.u64.wrap (wt * 2) = wt2 := by rw [IntKind.wrap_u64]; omega
  have u2' : (wt * 2) % 18446744073709551616 = wt2 := by omega
  have u3 : IntKind.u64.wrap (now + wt2) = al2 := by rw [IntKind.wrap_u64]; omega
  have u3' : (now + wt2) % 18446744073709551616 = al2 := by omega
  have d8 : w1d.cell? ⟨g, 8, none⟩ = some (.int .i64 ct) := h1d.c8
  have f8 := h1d.free 8
  have d7 : w2.cell? ⟨g, 7, none⟩ = some (.int .u64 wt) := by rw [blk_cell hbx2]; rfl
  have f7 := blk_free hbx2 7
  have d7b : w3.cell? ⟨g, 7, none⟩ = some (.int .u64 wt2) := by rw [blk_cell hbx3]; rfl
  have d9 : w3.cell? ⟨g, 9, none⟩ = some (.int .u64 al) := by rw [blk_cell hbx3]; rfl
  have f9 := blk_free hbx3 9
  obtain ⟨li, eli⟩ : ∃ v : Int, (lim : Int) = v := ⟨_, rfl⟩
  have u4 : (if (1 : Int) < (lm : Int) then (lm : Int) else 1) = li := by split <;> omega
  have u5 : (if (1 : Nat) < lm then (lm : Int) else 1) = li := by split <;> omega
  have HEnd := Lib.hid (fun (W : World) (p q r : Nat) (hB : But (fun _ => False) w4 W) (hcb : CutB W p q r g mss lim) =>
    cutter1_any (h4.but hB (fun _ _ e => e)) p q r mss 0 lim K hcb hmm (Nat.zero_le _) hlim (by rw [Nat.zero_add]; exact eK.symm) (tickS mss now s) (by rw [hS]) s.una (by show numX (s.una + ((0 : Nat) : Int)) = s.una; unfold numX; omega) (tickD mss now s) (by rw [hD]; rfl))
  have HZ4 := Lib.hid (hB14.blk hZ1d hzg)
  have HB04 := Lib.hid ((hB01.mono (fun _ _ e => e.elim)).trans hB14)
  have Hlt := Lib.hid (show (∀ j, S j → j < w.heap.size) ∧ w.heap.size ≤ z ∧ S g from ⟨h.lt, by omega, h.sg⟩)
  have Ew1d := Lib.hid ew1d
  have Ew2 := Lib.hid ew2
  have Ew3 := Lib.hid ew3
  have Ew4 := Lib.hid ew4
  have Eli := Lib.hid eli
  clear h h1 hok hbad hmm hdue hcnt hset hbs ewt ect eal c8 c6 etr hwb hcb htb ew1d h1d hB01 hZ1d hzg ecn1 ewt2 eal2 hbx2 ew2 hbx3 ew3 hbx4 ew4 hB14 hwlt hokS h4 elm elim eK hlp hlim hlen hD hDl hS hA hTB hTE hux hk4 hn eax eli
  go_enter Try.func22, Try.ntmps22
  go_upto_region 1 with (fail)
  rw [Ew1.out]
  go_wp2_with (first | (go_at_call 40; refine Hno.out.mono ?_; rintro e w' ⟨rfl, rfl⟩) | (go_at_call 45; refine Hmay.out.mono ?_; rintro e w' ⟨rfl, rfl⟩) | (go_at_call 25; refine Hal.out.mono ?_; rintro e w' ⟨rfl, rfl⟩))
  refine wp_region_held_drew (S := fun w' => w'.cell? ⟨g, 8, none⟩ = some (.int .i64 ct) ∧ w'.cell? ⟨g, 6, none⟩ = some (.int .i64 tr)) (by kernel_rfl) (by exact HC.out) (fun hHeld => ?_)
  refine tk 0 ?_ rfl ?_ ?_
  rotate_left
  · intro w' hSw; (go_simp <;> (with_reducible rfl))
  try simp only [Act.put, putL]
  refine tk 1 ?_ rfl ?_ ?_
  rotate_left
  · intro w' hSw; (go_simp <;> (with_reducible rfl))
  try simp only [Act.put, putL]
  refine tk 2 ?_ rfl ?_ ?_
  rotate_left
  · intro w' hSw; (go_simp <;> (with_reducible rfl))
  try simp only [Act.put, putL]
  refine tk 3 ?_ rfl ?_ ?_
  rotate_left
  · intro w' hSw; (go_simp <;> (with_reducible rfl))
  try simp only [Act.put, putL]
  refine tk 4 ?_ rfl ?_ ?_
  rotate_left
  · intro w' hSw; (go_simp <;> (with_reducible rfl))
  try simp only [Act.put, putL]
  refine tk 5 ?_ rfl ?_ ?_
  rotate_left
  · intro w' hSw; (go_simp <;> (with_reducible rfl))
  try simp only [Act.put, putL]
  refine tk 6 ?_ rfl ?_ ?_
  rotate_left
  · intro w' hSw; (go_simp <;> (with_reducible rfl))
  try simp only [Act.put, putL]
  refine tk 7 ?_ rfl ?_ ?_
  rotate_left
  · intro w' hSw; (go_simp <;> (with_reducible rfl))
  try simp only [Act.put, putL]
  refine tk 8 ?_ rfl ?_ ?_
  rotate_left
  · intro w' hSw; (go_simp <;> (with_reducible rfl))
  try simp only [Act.put, putL]
  refine wpAnyH_done (by kernel_rfl) ?_ _
  clear hHeld heq hle z0 z1 zf0 zf1
  rw [Ew1d.out]
  go_upto_region 11 with (fail)
  rw [Ew2.out]
  clear d8 f8 u1
  go_upto_region 12 with (fail)
  rw [Ew3.out]
  clear d7 f7 u2 u2'
  go_upto_region 13 with (fail)
  rw [Ew4.out]
  clear d7b d9 f9 u3 u3'
  go_wp2_with fail
  refine Hin.out.mono ?_
  rintro e w5 ⟨rfl, n5, ew5⟩
  have hB45 : But (fun _ => False) w4 w5 := by rw [← ew5]; exact (But.refl _ _).drewN n5
  have HB45 := Lib.hid hB45
  clear ew5 hB45
  go_wp2_with fail
  rw [← Eli.out]
  refine (Hcut.out w5).mono ?_
  rintro e w6 ⟨p, q, r, rfl, hcb, hb6, hp, hq, hr⟩
  unfold cutF
  have HB46 := Lib.hid (HB45.out.trans (But.of hb6))
  have Hcl := Lib.hid (HEnd.out w6 p q r HB46.out hcb)
  clear hcb hb6 hp hq hr u4 u5
  go_wp2_with fail
  refine Hcl.out.mono ?_
  rintro e w7 ⟨A7, n7, c7, rfl, hdl, ho, hx, hb⟩
  have hB07 := HB04.out.trans ((HB46.out.mono (fun _ _ e => e.elim)).trans hb)
  have hZ7 := hb.blk (HB46.out.blk HZ4.out (fun e => e)) (fun e => by have := Hlt.out.1 g Hlt.out.2.2; have := Hlt.out.2.1; omega)
  have z0 : w7.cell? ⟨z, 0, none⟩ = some (.int .u32 0) := by rw [blk_cell hZ7]; rfl
  have z1 : w7.cell? ⟨z, 1, none⟩ = some (.slice none 0 0) := by rw [blk_cell hZ7]; rfl
  have zf0 := blk_free hZ7 0
  have zf1 := blk_free hZ7 1
  obtain ⟨w8, ew8⟩ : ∃ v, (w7.setCell ⟨z, 0, none⟩ (.int .u32 s.una)).setCell ⟨z, 1, none⟩ (.slice A7 n7 c7) = v := ⟨_, rfl⟩
  have hZ8 : w8.heap[z]? = some (.cells #[.int .u32 s.una, .slice A7 n7 c7] 54 (0, 0)) := by
    rw [← ew8]
    simp [World.setCell, Array.getElem?_modify, hZ7]
  have hB78 : But (fun k => k = z) w7 w8 := by rw [← ew8]; exact ((But.refl (fun k => k = z) w7).setCell (p := ⟨z, 0, none⟩) rfl _).setCell (p := ⟨z, 1, none⟩) rfl _
  have HF := Lib.hid (show XTicks XmAt S g (tickS mss now s) s.una true 0 (tickD mss now s) w (.returned (.tuple #[.agg #[.int .u32 s.una, .slice A7 n7 c7], .bool true, .int .i64 0])) w8 from by
    obtain ⟨hl1, hl2, hl3⟩ := Hlt.out
    have hsz6 := (HB04.out.trans (HB46.out.mono (fun _ _ e => e.elim))).size
    have hno := own_notc ho hZ7 (by decide)
    refine ⟨A7, n7, c7, rfl, hdl, own_but (ho.mono hsz6) hB78 (fun b hb e => hno (by rw [show b = z from e] at hb; exact hb)), S, ⟨A, c, _, _, _, hx.but hB78 (fun j hj e => by have := hl1 j hj; omega)⟩, ?_, fun j hj => .inl hj, fun b hb e => ?_⟩
    · exact (hB07.mono (fun j _ e => by rw [show j = g from e]; exact hl3)).trans2 hB78 (fun j hj e => by omega)
    · have h6 := hl1 b e
      rcases ho.2 with ⟨e5, _⟩ | ⟨g2, cap, cur, e5, hB, _⟩
      · rw [e5] at hb; cases hb
      · rw [e5] at hb
        injection hb with hb
        subst hb
        have : w6.heap.size ≤ g2 := hB
        have h6 : g2 < w.heap.size := h6
        omega)
  clear hB07 hZ7 hB78 hdl ho hx hb
  go_wp2_with fail
  try rw [ew8]
  exact bodyPost_ret (v := .tuple #[.agg #[.int .u32 s.una, .slice A7 n7 c7], .bool true, .int .i64 0]) (results_rowT rfl _ _ z _ _ _ _ (.bool true) (.int .i64 0) rfl rfl rfl hZ8 Try.underlying54 rfl (by kernel_rfl)) rfl HF.out
theorem tick_mem {w : World} {S : Nat → Prop} {g c : Nat} {A : Option Addr} {s : XS} {wt ct al : Int} (h : XMem w S g A c s wt ct al) (mss now : Int) (hn : nowX now) :
    Calls Try.prog 22 #[.pointer (some ⟨g, 0, none⟩), .int .i64 mss, .int .u64 now] w (XTicks XmAt S g (tickS mss now s) (tickA mss now s) (tickB mss now s) (tickE mss now s) (tickD mss now s) w) := by
  by_cases hk : tickK mss now s = 4
  · exact tick_some h mss now hn hk
  · exact tick_none h mss now hn hk
end Go.Proofs.Ytncbkgcblmohoaa
