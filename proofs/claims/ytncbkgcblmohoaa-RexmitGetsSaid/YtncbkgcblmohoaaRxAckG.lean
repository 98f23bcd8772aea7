/-
  A buffer of the program's: Acked, Copy.
-/
import Derived.Test.YtncbkgcblmohoaaTk
import Derived.Test.YtncbkgcblmohoaaRxTurnG
namespace Go.Proofs.Ytncbkgcblmohoaa
set_option maxRecDepth 10000
open Go.RowKit
set_option linter.unusedSimpArgs false
set_option linter.unusedVariables false

/-- s[lo:n:n] of bytes that lie somewhere: no room behind. -/
theorem slv_rest {w : World} {A : Option Addr} {n c : Nat} {vs : List Value} (h : SlV w 5 1 (.slice A n c) n vs) (lo : Nat) (hlo : lo ≤ n) :
    ∃ A', (∀ W : World, (Instr.sliceAt 37 (.slice A n c) (some (.int .i64 (lo : Int))) (some (.int .i64 (n : Int))) (some (.int .i64 (n : Int)))).run Try.prog W = .ok (.slice A' (n - lo) (n - lo)) W) ∧ SlV w 5 1 (.slice A' (n - lo) (n - lo)) (n - lo) (vs.drop lo) ∧ (Value.slice A' (n - lo) (n - lo)).ownBlock = (Value.slice A n c).ownBlock := by
  rcases h with ⟨e, rfl, rfl⟩ | ⟨g, o, c', e, C, hg, hC, hl, hnc, hm, hc⟩
  · injection e with e1 e2 e3
    subst e1; subst e3
    obtain rfl : lo = 0 := by omega
    exact ⟨none, fun W => by go_simp, .inl ⟨rfl, rfl, rfl⟩, rfl⟩
  · injection e with e1 e2 e3
    subst e1; subst e3
    have hm0 := hm
    unfold maxLen at hm
    have i0 : (0 : Int) ≤ (lo : Int) := by omega
    have i1 : (lo : Int) ≤ (n : Int) := by omega
    have i2 : (n : Int) ≤ (c : Int) := by omega
    have i3 : lo ≤ c := by omega
    by_cases hl2 : n = lo
    · subst hl2
      refine ⟨some ⟨g, o, none⟩, fun W => by go_simp, ?_, rfl⟩
      rw [Nat.sub_self, List.drop_eq_nil_of_le (by omega)]
      exact .inr ⟨g, o, 0, rfl, C, hg, by omega, rfl, Nat.le_refl _, by simp [maxLen], fun i hi => by simp at hi⟩
    · have i4 : ¬ lo = n := fun e => hl2 e.symm
      refine ⟨some ⟨g, o + lo, none⟩, fun W => by go_simp, .inr ⟨g, o + lo, n - lo, rfl, C, hg, by omega, by rw [List.length_drop]; omega, Nat.le_refl _, by omega, fun i hi => ?_⟩, rfl⟩
      rw [List.length_drop] at hi
      rw [Nat.add_assoc, hc (lo + i) (by omega), List.getElem?_drop]
section
variable {w w' : World} {S T : Nat → Prop} {g c : Nat} {A : Option Addr} {s : XS} {wt ct al : Int}
theorem leave_any (h : XMem w S g A c s wt ct al) (gone : Nat) (hg : gone ≤ s.sent) :
    Calls Try.prog 50 #[.pointer (some ⟨g, 0, none⟩), .int .i64 (gone : Int)] w (fun e w' => e = .returned (.tuple #[]) ∧ ∃ A' c', XMem w' S g A' c' (goneX gone s.win s) wt ct al ∧ But (fun k => k = g) w w') := by
  have hok := h.ok
  have hsl := hok.sent
  have hln := hok.len
  obtain ⟨n, en⟩ : ∃ n, s.bs.length = n := ⟨_, rfl⟩
  obtain ⟨u, eu⟩ : ∃ u, numX (s.una + (gone : Int)) = u := ⟨_, rfl⟩
  have Hnu := Lib.hid (xnumber_any h (gone : Int) u eu)
  have hs0 := h.sl
  rw [en] at hs0
  obtain ⟨A', hcut, hs', hown⟩ := slv_rest hs0 gone (by omega)
  obtain ⟨m, em⟩ : ∃ m, n - gone = m := ⟨_, rfl⟩
  rw [em] at hcut hs' hown
  have hbx1 := heap_setCell_at h.box 1 (.int .u32 u)
  obtain ⟨w1, ew1⟩ : ∃ v, w.setCell ⟨g, 1, none⟩ (.int .u32 u) = v := ⟨_, rfl⟩
  rw [ew1] at hbx1
  have hbx2 := heap_setCell_at hbx1 2 (.slice A' m m)
  obtain ⟨w2, ew2⟩ : ∃ v, w1.setCell ⟨g, 2, none⟩ (.slice A' m m) = v := ⟨_, rfl⟩
  rw [ew2] at hbx2
  obtain ⟨sn, esn⟩ : ∃ v : Int, ((s.sent - gone : Nat) : Int) = v := ⟨_, rfl⟩
  have hbx3 := heap_setCell_at hbx2 3 (.int .i64 sn)
  obtain ⟨w3, ew3⟩ : ∃ v, w2.setCell ⟨g, 3, none⟩ (.int .i64 sn) = v := ⟨_, rfl⟩
  rw [ew3] at hbx3
  have hB : But (fun k => k = g) w w3 := by
    rw [← ew3, ← ew2, ← ew1]
    exact (((But.refl (fun k => k = g) w).setCell (p := ⟨g, 1, none⟩) rfl _).setCell (p := ⟨g, 2, none⟩) rfl _).setCell (p := ⟨g, 3, none⟩) rfl _
  have hlen : (goneX gone s.win s).bs.length = m := by show (s.bs.drop gone).length = m; rw [List.length_drop]; omega
  have HR := Lib.hid (show XMem w3 S g A' m (goneX gone s.win s) wt ct al ∧ But (fun k => k = g) w w3 from by
    refine ⟨⟨?_, ?_, ?_, ?_, ?_, h.sg, fun k hk => hB.lt (h.lt k hk)⟩, hB⟩
    · rw [hlen, hbx3, ← esn, ← eu]; rfl
    · rw [hlen]
      have h5 := hs'.but hB (fun b hb e => h.off b (by rw [en, ← hown]; exact hb) e)
      rw [← List.map_drop] at h5
      exact h5
    · rw [hlen, hown, ← en]
      exact h.own
    · exact ⟨numX_bd _, fun x hx => hok.byte x (List.mem_of_mem_drop hx), by rw [hlen]; omega, by rw [hlen]; show s.sent - gone ≤ m; omega, hok.win, hok.rto, hok.tries, hok.count, hok.wait, hok.alarm⟩
    · intro e
      exact h.on_ (fun e2 => e (by show s.bs.drop gone = []; rw [e2]; simp)))
  have c1 := h.c1
  have c2 := h.c2
  rw [en] at c2
  have f1 := h.free 1
  have d2 : w1.cell? ⟨g, 2, none⟩ = some (.slice A n c) := by rw [blk_cell hbx1, ← en]; rfl
  have f2 := blk_free hbx1 2
  obtain ⟨se, ese⟩ : ∃ v : Int, (s.sent : Int) = v := ⟨_, rfl⟩
  have d3 : w2.cell? ⟨g, 3, none⟩ = some (.int .i64 se) := by rw [blk_cell hbx2, ← ese]; rfl
  have f3 := blk_free hbx2 3
  obtain ⟨gi, egi⟩ : ∃ v : Int, (gone : Int) = v := ⟨_, rfl⟩
  have u1 : wrap64 (se - gi) = sn := by rw [IntWalk.wrap64_in _ (by omega)]; omega
  have Ew1 := Lib.hid ew1
  have Ew2 := Lib.hid ew2
  have Ew3 := Lib.hid ew3
  rw [egi] at Hnu hcut ⊢
  clear h hok hsl hln hs0 hs' hown hbx1 hbx2 hbx3 ew1 ew2 ew3 hB hlen en em esn ese egi hg eu
  go_enter Try.func50, Try.ntmps50
  go_upto_region 2 with (go_at_call 42; refine Hnu.out.mono ?_; rintro e w' ⟨rfl, rfl⟩)
  rw [Ew1.out]
  clear c1 c2 f1
  go_upto_region 3 with (fail)
  rw [Ew2.out]
  clear d2 f2
  go_wp2_with fail
  rw [Ew3.out]
  go_end0
  exact ⟨rfl, A', m, HR.out⟩
theorem within_far (a u : Int) (n : Nat) (hn : n ≤ 16384) (ha : u32X a) (hu : u32X u) : sWithin a u ((n : Int) + 1) = decide (0 ≤ farX u a ∧ farX u a ≤ (n : Int)) := by
  unfold sWithin farX
  rw [Bool.eq_iff_iff, decide_eq_true_iff, decide_eq_true_iff]
  omega
set_option maxHeartbeats 2000000 in
theorem ack_mem (h : XMem w S g A c s wt ct al) (ack win now : Int) (ha : u32X ack) (hw : u32X win) (hn : nowX now) :
    Calls Try.prog 20 #[.pointer (some ⟨g, 0, none⟩), .int .u32 ack, .int .u32 win, .int .u64 now] w (XDoes XmAt S g (ackS ack win now s) (.tuple #[.int .i64 (ackN ack win s), .int .i64 (ackE ack win s)]) w) := by
  have Hno := Lib.hid (xnone_no g w h.c0)
  have hok := h.ok
  have hsn : s.sent ≤ 16384 := by have := hok.sent; have := hok.len; omega
  have hwf := within_far ack s.una s.sent hsn ha hok.una
  obtain ⟨una, euna⟩ : ∃ v, s.una = v := ⟨_, rfl⟩
  obtain ⟨sn, esn⟩ : ∃ v : Int, (s.sent : Int) = v := ⟨_, rfl⟩
  obtain ⟨wd, ewd⟩ : ∃ v, w.drew = v := ⟨_, rfl⟩
  have hd : XMem wd S g A c s wt ct al := by rw [← ewd]; exact h.drewN 1
  have hBd : But S w wd := by rw [← ewd]; exact (But.refl _ _).drew
  have HSw := Lib.hid (show w.cell? ⟨g, 1, none⟩ = some (.int .u32 una) ∧ w.cell? ⟨g, 3, none⟩ = some (.int .i64 sn) from ⟨by rw [← euna]; exact h.c1, by rw [← esn]; exact h.c3⟩)
  have HSd := Lib.hid (show wd.cell? ⟨g, 1, none⟩ = some (.int .u32 una) ∧ wd.cell? ⟨g, 3, none⟩ = some (.int .i64 sn) from ⟨by rw [← euna]; exact hd.c1, by rw [← esn]; exact hd.c3⟩)
  have u1 : IntKind.u32.wrap sn = sn := by rw [IntKind.wrap_u32]; omega
  have u2 : IntKind.u32.wrap (sn + 1) = sn + 1 := by rw [IntKind.wrap_u32]; omega
  have Hd := Lib.hid hd
  have HBd := Lib.hid hBd
  have Ewd := Lib.hid ewd
  rw [euna, esn] at hwf
  by_cases hin : 0 ≤ farX s.una ack ∧ farX s.una ack ≤ (s.sent : Int)
  · have hwi : sWithin ack una (sn + 1) = true := by rw [hwf, ← euna, ← esn]; exact decide_eq_true hin
    by_cases hwin : (1073741824 : Int) < win
    · have hbad : ackBad ack win s = true := by unfold ackBad; exact decide_eq_true (.inr (.inr hwin))
      have HE := Lib.hid (show XDoes XmAt S g (ackS ack win now s) (.tuple #[.int .i64 (ackN ack win s), .int .i64 (ackE ack win s)]) w (.returned (.tuple #[.int .i64 0, .int .i64 1])) wd from by
        unfold ackS ackN ackE
        rw [if_pos hbad, if_pos hbad, if_pos hbad]
        exact ⟨rfl, S, ⟨A, c, wt, ct, al, Hd.out⟩, HBd.out, fun k hk => .inl hk⟩)
      clear h hok hsn hwf euna esn ewd hd hBd hin hbad
      go_enter Try.func20, Try.ntmps20
      go_wp2_with (go_at_call 40; refine Hno.out.mono ?_; rintro e w' ⟨rfl, rfl⟩)
      refine wp_region_held_drew (S := fun w' => w'.cell? ⟨g, 1, none⟩ = some (.int .u32 una) ∧ w'.cell? ⟨g, 3, none⟩ = some (.int .i64 sn)) (by kernel_rfl) (by exact HSw.out) (fun hHeld => ?_)
      rw [Ewd.out] at hHeld ⊢
      refine tk 0 ?_ rfl ?_ ?_
      rotate_left
      · intro w' hSw; (go_simp <;> (with_reducible rfl))
      try simp only [Act.put, putL]
      refine tk 1 ?_ rfl ?_ ?_
      rotate_left
      · intro w' hSw; (go_simp <;> (with_reducible rfl))
      try simp only [Act.put, putL]
      refine tk 2 ?_ rfl ?_ ?_
      rotate_left
      · intro w' hSw; (go_simp <;> (with_reducible rfl))
      try simp only [Act.put, putL]
      refine tk 3 ?_ rfl ?_ ?_
      rotate_left
      · intro w' hSw; (go_simp <;> (with_reducible rfl))
      try simp only [Act.put, putL]
      refine tk 4 ?_ rfl ?_ ?_
      rotate_left
      · intro w' hSw; (go_simp <;> (with_reducible rfl))
      try simp only [Act.put, putL]
      refine tk 5 ?_ rfl ?_ ?_
      rotate_left
      · intro w' hSw; (go_simp <;> (with_reducible rfl))
      try simp only [Act.put, putL]
      refine tk 6 ?_ rfl ?_ ?_
      rotate_left
      · intro w' hSw; (go_simp <;> (with_reducible rfl))
      try simp only [Act.put, putL]
      refine tk 7 ?_ rfl ?_ ?_
      rotate_left
      · intro w' hSw; (go_simp <;> (with_reducible rfl))
      try simp only [Act.put, putL]
      refine tk 8 ?_ rfl ?_ ?_
      rotate_left
      · intro w' hSw; (go_simp <;> (with_reducible rfl))
      try simp only [Act.put, putL]
      refine tk 9 ?_ rfl ?_ ?_
      rotate_left
      · intro w' hSw; (go_simp <;> (with_reducible rfl))
      try simp only [Act.put, putL]
      refine tk 10 ?_ rfl ?_ ?_
      rotate_left
      · intro w' hSw; (go_simp <;> (with_reducible rfl))
      try simp only [Act.put, putL]
      refine tkC 11 rfl (fun K hK => ?_)
      go_simp
      refine (within_any ack una (sn + 1) wd).mono ?_; rintro e w' ⟨rfl, rfl⟩; rw [hwi]
      refine hK.out _ _ ?_ (fun hHeld => ?_)
      · exact HSd.out
      clear hK K
      try simp only [Act.put, putL]
      refine tk 12 ?_ rfl ?_ ?_
      rotate_left
      · intro w' hSw; (go_simp <;> (with_reducible rfl))
      try simp only [Act.put, putL]
      refine tk 13 ?_ rfl ?_ ?_
      rotate_left
      · intro w' hSw; (go_simp <;> (with_reducible rfl))
      try simp only [Act.put, putL]
      refine tk 14 ?_ rfl ?_ ?_
      rotate_left
      · intro w' hSw; (go_simp <;> (with_reducible rfl))
      try simp only [Act.put, putL]
      refine tk 15 ?_ rfl ?_ ?_
      rotate_left
      · intro w' hSw; (go_simp <;> (with_reducible rfl))
      try simp only [Act.put, putL]
      refine tk 16 ?_ rfl ?_ ?_
      rotate_left
      · intro w' hSw; (go_simp <;> (with_reducible rfl))
      try simp only [Act.put, putL]
      refine wpAnyH_done (by kernel_rfl) ?_ _
      clear hHeld
      go_wp2_with fail
      go_ret2
      exact HE.out
    · have hbad : ¬ ackBad ack win s = true := by unfold ackBad; simp; omega
      have hwin2 : ((1073741824 : Int) < win) = False := eq_false hwin
      obtain ⟨gone, eg⟩ : ∃ n : Nat, farX s.una ack = (n : Int) := ⟨(farX s.una ack).toNat, by omega⟩
      obtain ⟨w2, ew2⟩ : ∃ v, wd.setCell ⟨g, 4, none⟩ (.int .u32 win) = v := ⟨_, rfl⟩
      obtain ⟨hx2, hB2⟩ := hd.set_ (s' := { s with win := win }) (wt' := wt) (ct' := ct) (al' := al) 4 (.int .u32 win) rfl rfl { hok with win := ⟨hw.1, by show win ≤ 1073741824; omega⟩ } hd.on_
      rw [ew2] at hx2 hB2
      have f4 := hd.free 4
      have k4 := hd.c4
      have d1 : w2.cell? ⟨g, 1, none⟩ = some (.int .u32 una) := by rw [← euna]; exact hx2.c1
      have e3 : sAhead una ack = (gone : Int) := by rw [← eg, ← euna]; rfl
      have hgl : gone ≤ s.sent := by omega
      have Hle := Lib.hid (leave_any hx2 gone (by exact hgl))
      have HB02 := Lib.hid (hBd.trans (but_m hd hB2))
      have Hx2 := Lib.hid hx2
      have Hp := Lib.hid (show gone ≤ 16384 ∧ ¬ ackBad ack win s = true ∧ farX s.una ack = (gone : Int) ∧ nowX now from ⟨by omega, hbad, eg, hn⟩)
      have Ew2 := Lib.hid ew2
      obtain ⟨gi, egi⟩ : ∃ v : Int, (gone : Int) = v := ⟨_, rfl⟩
      have u3 : wrap64 gi = gi := by rw [IntWalk.wrap64_in _ (by omega)]
      have u4 : IntKind.i64.wrap gi = gi := by rw [IntKind.wrap_i64]; omega
      have Egi := Lib.hid egi
      rw [egi] at e3 Hle
      have HE : Hid (ackE ack win s = 0 ∧ ackN ack win s = gi) := Lib.hid ⟨by unfold ackE; rw [if_neg hbad], by unfold ackN; rw [if_neg hbad, eg, egi]⟩
      by_cases hg0 : gone = 0
      · have q1 : ¬ (0 : Int) < gi := by omega
        have HF := Lib.hid (show XDoes XmAt S g (ackS ack win now s) (.tuple #[.int .i64 (ackN ack win s), .int .i64 (ackE ack win s)]) w (.returned (.tuple #[.int .i64 gi, .int .i64 0])) w2 from by
          rw [HE.out.1, HE.out.2]
          unfold ackS
          rw [if_neg hbad, if_pos (by rw [eg, hg0]; rfl)]
          exact ⟨rfl, S, ⟨A, c, wt, ct, al, hx2⟩, HB02.out, fun k hk => .inl hk⟩)
        clear h hok hsn hwf euna esn ewd hd hBd hin hbad hwin eg ew2 hx2 hB2 hgl hg0 egi HE
        go_enter Try.func20, Try.ntmps20
        go_wp2_with (go_at_call 40; refine Hno.out.mono ?_; rintro e w' ⟨rfl, rfl⟩)
        refine wp_region_held_drew (S := fun w' => w'.cell? ⟨g, 1, none⟩ = some (.int .u32 una) ∧ w'.cell? ⟨g, 3, none⟩ = some (.int .i64 sn)) (by kernel_rfl) (by exact HSw.out) (fun hHeld => ?_)
        rw [Ewd.out] at hHeld ⊢
        refine tk 0 ?_ rfl ?_ ?_
        rotate_left
        · intro w' hSw; (go_simp <;> (with_reducible rfl))
        try simp only [Act.put, putL]
        refine tk 1 ?_ rfl ?_ ?_
        rotate_left
        · intro w' hSw; (go_simp <;> (with_reducible rfl))
        try simp only [Act.put, putL]
        refine tk 2 ?_ rfl ?_ ?_
        rotate_left
        · intro w' hSw; (go_simp <;> (with_reducible rfl))
        try simp only [Act.put, putL]
        refine tk 3 ?_ rfl ?_ ?_
        rotate_left
        · intro w' hSw; (go_simp <;> (with_reducible rfl))
        try simp only [Act.put, putL]
        refine tk 4 ?_ rfl ?_ ?_
        rotate_left
        · intro w' hSw; (go_simp <;> (with_reducible rfl))
        try simp only [Act.put, putL]
        refine tk 5 ?_ rfl ?_ ?_
        rotate_left
        · intro w' hSw; (go_simp <;> (with_reducible rfl))
        try simp only [Act.put, putL]
        refine tk 6 ?_ rfl ?_ ?_
        rotate_left
        · intro w' hSw; (go_simp <;> (with_reducible rfl))
        try simp only [Act.put, putL]
        refine tk 7 ?_ rfl ?_ ?_
        rotate_left
        · intro w' hSw; (go_simp <;> (with_reducible rfl))
        try simp only [Act.put, putL]
        refine tk 8 ?_ rfl ?_ ?_
        rotate_left
        · intro w' hSw; (go_simp <;> (with_reducible rfl))
        try simp only [Act.put, putL]
        refine tk 9 ?_ rfl ?_ ?_
        rotate_left
        · intro w' hSw; (go_simp <;> (with_reducible rfl))
        try simp only [Act.put, putL]
        refine tk 10 ?_ rfl ?_ ?_
        rotate_left
        · intro w' hSw; (go_simp <;> (with_reducible rfl))
        try simp only [Act.put, putL]
        refine tkC 11 rfl (fun K hK => ?_)
        go_simp
        refine (within_any ack una (sn + 1) wd).mono ?_; rintro e w' ⟨rfl, rfl⟩; rw [hwi]
        refine hK.out _ _ ?_ (fun hHeld => ?_)
        · exact HSd.out
        clear hK K
        try simp only [Act.put, putL]
        refine tk 12 ?_ rfl ?_ ?_
        rotate_left
        · intro w' hSw; (go_simp <;> (with_reducible rfl))
        try simp only [Act.put, putL]
        refine tk 13 ?_ rfl ?_ ?_
        rotate_left
        · intro w' hSw; (go_simp <;> (with_reducible rfl))
        try simp only [Act.put, putL]
        refine tk 14 ?_ rfl ?_ ?_
        rotate_left
        · intro w' hSw; (go_simp <;> (with_reducible rfl))
        try simp only [Act.put, putL]
        refine tk 15 ?_ rfl ?_ ?_
        rotate_left
        · intro w' hSw; (go_simp <;> (with_reducible rfl))
        try simp only [Act.put, putL]
        refine tk 16 ?_ rfl ?_ ?_
        rotate_left
        · intro w' hSw; (go_simp <;> (with_reducible rfl))
        try simp only [Act.put, putL]
        refine wpAnyH_done (by kernel_rfl) ?_ _
        clear hHeld u1 u2 hwi hwin2
        go_upto_region 6 with (fail)
        rw [Ew2.out]
        clear k4 f4
        go_wp2_with (go_at_call 34; refine (ahead_any _ _ _).mono ?_; rintro e w' ⟨rfl, rfl⟩; rw [e3])
        go_ret2
        exact HF.out
      · have q1 : (0 : Int) < gi := by omega
        clear h hok hsn hwf euna esn ewd hd hBd hin hbad hwin eg ew2 hx2 hB2 hgl egi
        go_enter Try.func20, Try.ntmps20
        go_wp2_with (go_at_call 40; refine Hno.out.mono ?_; rintro e w' ⟨rfl, rfl⟩)
        refine wp_region_held_drew (S := fun w' => w'.cell? ⟨g, 1, none⟩ = some (.int .u32 una) ∧ w'.cell? ⟨g, 3, none⟩ = some (.int .i64 sn)) (by kernel_rfl) (by exact HSw.out) (fun hHeld => ?_)
        rw [Ewd.out] at hHeld ⊢
        refine tk 0 ?_ rfl ?_ ?_
        rotate_left
        · intro w' hSw; (go_simp <;> (with_reducible rfl))
        try simp only [Act.put, putL]
        refine tk 1 ?_ rfl ?_ ?_
        rotate_left
        · intro w' hSw; (go_simp <;> (with_reducible rfl))
        try simp only [Act.put, putL]
        refine tk 2 ?_ rfl ?_ ?_
        rotate_left
        · intro w' hSw; (go_simp <;> (with_reducible rfl))
        try simp only [Act.put, putL]
        refine tk 3 ?_ rfl ?_ ?_
        rotate_left
        · intro w' hSw; (go_simp <;> (with_reducible rfl))
        try simp only [Act.put, putL]
        refine tk 4 ?_ rfl ?_ ?_
        rotate_left
        · intro w' hSw; (go_simp <;> (with_reducible rfl))
        try simp only [Act.put, putL]
        refine tk 5 ?_ rfl ?_ ?_
        rotate_left
        · intro w' hSw; (go_simp <;> (with_reducible rfl))
        try simp only [Act.put, putL]
        refine tk 6 ?_ rfl ?_ ?_
        rotate_left
        · intro w' hSw; (go_simp <;> (with_reducible rfl))
        try simp only [Act.put, putL]
        refine tk 7 ?_ rfl ?_ ?_
        rotate_left
        · intro w' hSw; (go_simp <;> (with_reducible rfl))
        try simp only [Act.put, putL]
        refine tk 8 ?_ rfl ?_ ?_
        rotate_left
        · intro w' hSw; (go_simp <;> (with_reducible rfl))
        try simp only [Act.put, putL]
        refine tk 9 ?_ rfl ?_ ?_
        rotate_left
        · intro w' hSw; (go_simp <;> (with_reducible rfl))
        try simp only [Act.put, putL]
        refine tk 10 ?_ rfl ?_ ?_
        rotate_left
        · intro w' hSw; (go_simp <;> (with_reducible rfl))
        try simp only [Act.put, putL]
        refine tkC 11 rfl (fun K hK => ?_)
        go_simp
        refine (within_any ack una (sn + 1) wd).mono ?_; rintro e w' ⟨rfl, rfl⟩; rw [hwi]
        refine hK.out _ _ ?_ (fun hHeld => ?_)
        · exact HSd.out
        clear hK K
        try simp only [Act.put, putL]
        refine tk 12 ?_ rfl ?_ ?_
        rotate_left
        · intro w' hSw; (go_simp <;> (with_reducible rfl))
        try simp only [Act.put, putL]
        refine tk 13 ?_ rfl ?_ ?_
        rotate_left
        · intro w' hSw; (go_simp <;> (with_reducible rfl))
        try simp only [Act.put, putL]
        refine tk 14 ?_ rfl ?_ ?_
        rotate_left
        · intro w' hSw; (go_simp <;> (with_reducible rfl))
        try simp only [Act.put, putL]
        refine tk 15 ?_ rfl ?_ ?_
        rotate_left
        · intro w' hSw; (go_simp <;> (with_reducible rfl))
        try simp only [Act.put, putL]
        refine tk 16 ?_ rfl ?_ ?_
        rotate_left
        · intro w' hSw; (go_simp <;> (with_reducible rfl))
        try simp only [Act.put, putL]
        refine wpAnyH_done (by kernel_rfl) ?_ _
        clear hHeld u1 u2 hwi hwin2
        go_upto_region 6 with (fail)
        rw [Ew2.out]
        clear k4 f4
        go_wp2_with (go_at_call 34; refine (ahead_any _ _ _).mono ?_; rintro e w' ⟨rfl, rfl⟩; rw [e3])
        refine Hle.out.mono ?_
        rintro e w3 ⟨rfl, A3, c3, hx3, hB3⟩
        have Hbeg := Lib.hid (begin_any hx3 now Hp.out.2.2.2)
        have HB3 := Lib.hid hB3
        clear hx3 hB3 d1
        go_wp2_with fail
        refine Hbeg.out.mono ?_
        rintro e w4 ⟨rfl, hx4, hB4⟩
        have HF := Lib.hid (show XDoes XmAt S g (ackS ack win now s) (.tuple #[.int .i64 (ackN ack win s), .int .i64 (ackE ack win s)]) w (.returned (.tuple #[.int .i64 gi, .int .i64 0])) w4 from by
          rw [HE.out.1, HE.out.2]
          unfold ackS
          rw [if_neg Hp.out.2.1, if_neg (by rw [Hp.out.2.2.1]; omega), Hp.out.2.2.1, Int.toNat_natCast]
          exact ⟨rfl, S, ⟨A3, c3, _, _, _, hx4⟩, HB02.out.trans ((but_m Hx2.out HB3.out).trans (but_m Hx2.out hB4)), fun k hk => .inl hk⟩)
        clear hx4 hB4
        go_wp2_with fail
        go_ret2
        exact HF.out
  · have hwi : sWithin ack una (sn + 1) = false := by rw [hwf, ← euna, ← esn]; exact decide_eq_false hin
    have hbad : ackBad ack win s = true := by unfold ackBad; exact decide_eq_true (by omega)
    have HE := Lib.hid (show XDoes XmAt S g (ackS ack win now s) (.tuple #[.int .i64 (ackN ack win s), .int .i64 (ackE ack win s)]) w (.returned (.tuple #[.int .i64 0, .int .i64 1])) wd from by
      unfold ackS ackN ackE
      rw [if_pos hbad, if_pos hbad, if_pos hbad]
      exact ⟨rfl, S, ⟨A, c, wt, ct, al, Hd.out⟩, HBd.out, fun k hk => .inl hk⟩)
    clear h hok hsn hwf euna esn ewd hd hBd hin hbad
    go_enter Try.func20, Try.ntmps20
    go_wp2_with (go_at_call 40; refine Hno.out.mono ?_; rintro e w' ⟨rfl, rfl⟩)
    refine wp_region_held_drew (S := fun w' => w'.cell? ⟨g, 1, none⟩ = some (.int .u32 una) ∧ w'.cell? ⟨g, 3, none⟩ = some (.int .i64 sn)) (by kernel_rfl) (by exact HSw.out) (fun hHeld => ?_)
    rw [Ewd.out] at hHeld ⊢
    refine tk 0 ?_ rfl ?_ ?_
    rotate_left
    · intro w' hSw; (go_simp <;> (with_reducible rfl))
    try simp only [Act.put, putL]
    refine tk 1 ?_ rfl ?_ ?_
    rotate_left
    · intro w' hSw; (go_simp <;> (with_reducible rfl))
    try simp only [Act.put, putL]
    refine tk 2 ?_ rfl ?_ ?_
    rotate_left
    · intro w' hSw; (go_simp <;> (with_reducible rfl))
    try simp only [Act.put, putL]
    refine tk 3 ?_ rfl ?_ ?_
    rotate_left
    · intro w' hSw; (go_simp <;> (with_reducible rfl))
    try simp only [Act.put, putL]
    refine tk 4 ?_ rfl ?_ ?_
    rotate_left
    · intro w' hSw; (go_simp <;> (with_reducible rfl))
    try simp only [Act.put, putL]
    refine tk 5 ?_ rfl ?_ ?_
    rotate_left
    · intro w' hSw; (go_simp <;> (with_reducible rfl))
    try simp only [Act.put, putL]
    refine tk 6 ?_ rfl ?_ ?_
    rotate_left
    · intro w' hSw; (go_simp <;> (with_reducible rfl))
    try simp only [Act.put, putL]
    refine tk 7 ?_ rfl ?_ ?_
    rotate_left
    · intro w' hSw; (go_simp <;> (with_reducible rfl))
    try simp only [Act.put, putL]
    refine tk 8 ?_ rfl ?_ ?_
    rotate_left
    · intro w' hSw; (go_simp <;> (with_reducible rfl))
    try simp only [Act.put, putL]
    refine tk 9 ?_ rfl ?_ ?_
    rotate_left
    · intro w' hSw; (go_simp <;> (with_reducible rfl))
    try simp only [Act.put, putL]
    refine tk 10 ?_ rfl ?_ ?_
    rotate_left
    · intro w' hSw; (go_simp <;> (with_reducible rfl))
    try simp only [Act.put, putL]
    refine tkC 11 rfl (fun K hK => ?_)
    go_simp
    refine (within_any ack una (sn + 1) wd).mono ?_; rintro e w' ⟨rfl, rfl⟩; rw [hwi]
    refine hK.out _ _ ?_ (fun hHeld => ?_)
    · exact HSd.out
    clear hK K
    try simp only [Act.put, putL]
    refine tk 12 ?_ rfl ?_ ?_
    rotate_left
    · intro w' hSw; (go_simp <;> (with_reducible rfl))
    try simp only [Act.put, putL]
    refine tk 13 ?_ rfl ?_ ?_
    rotate_left
    · intro w' hSw; (go_simp <;> (with_reducible rfl))
    try simp only [Act.put, putL]
    refine tkN 14 rfl ?_
    try simp only [Act.put, putL]
    refine tkN 15 rfl ?_
    try simp only [Act.put, putL]
    refine tk 16 ?_ rfl ?_ ?_
    rotate_left
    · intro w' hSw; (go_simp <;> (with_reducible rfl))
    try simp only [Act.put, putL]
    refine wpAnyH_done (by kernel_rfl) ?_ _
    clear hHeld
    go_wp2_with fail
    go_ret2
    exact HE.out
set_option maxHeartbeats 2000000 in
theorem copy_memX (h : XMem w S g A c s wt ct al) : Calls Try.prog 24 #[.pointer (some ⟨g, 0, none⟩)] w (XCopies XmAt S g s w) := by
  have Hno := Lib.hid (xnone_no g w h.c0)
  have k0 := h.c0
  have k1 := h.c1
  have k2 := h.c2
  have k3 := h.c3
  have k4 := h.c4
  have k5 := h.c5
  have k6 := h.c6
  have k7 := h.c7
  have k8 := h.c8
  have k9 := h.c9
  obtain ⟨z, ez⟩ : ∃ z, w.heap.size = z := ⟨_, rfl⟩
  obtain ⟨n, en⟩ : ∃ n, s.bs.length = n := ⟨_, rfl⟩
  obtain ⟨se, ese⟩ : ∃ v : Int, (s.sent : Int) = v := ⟨_, rfl⟩
  rw [en] at k2
  rw [ese] at k3
  have hgz : ¬ g = z := by have := h.lt g h.sg; omega
  obtain ⟨w1, ew1⟩ : ∃ w1, w.alloc (.cells #[.pointer (some ⟨z, 0, none⟩), .int .u32 s.una, .slice A n c, .int .i64 se, .int .u32 s.win, .int .u64 s.rto, .int .i64 s.tries, .int .u64 wt, .int .i64 ct, .int .u64 al] 84) = w1 := ⟨_, rfl⟩
  have hB1 : Below w.heap.size w w1 := by rw [← ew1]; exact (Below.refl _ _).alloc (Nat.le_refl _) _
  have hbox1 : w1.heap[z]? = some (.cells #[.pointer (some ⟨z, 0, none⟩), .int .u32 s.una, .slice A n c, .int .i64 se, .int .u32 s.win, .int .u64 s.rto, .int .i64 s.tries, .int .u64 wt, .int .i64 ct, .int .u64 al] 84 (0, 0)) := by rw [← ew1, ← ez]; exact heap_alloc_new w _
  have hm1 := h.on hB1
  have hs1 : w1.heap.size = z + 1 := by rw [← ew1]; simp [ez]
  have k21 := hm1.c2
  rw [en] at k21
  have hrd := hm1.rdc
  rw [en] at hrd
  have hln := h.ok.len
  have Hcl := Lib.hid (xclone_any A n c s.bs w1 hrd (by omega))
  have H := Lib.hid (And.intro h (And.intro ez (And.intro en ese)))
  have HB1 := Lib.hid hB1
  have HBox1 := Lib.hid hbox1
  have Ew1 := Lib.hid ew1
  have Hs1 := Lib.hid hs1
  clear h hB1 hbox1 hm1 hs1 ew1 ese hrd hln en
  go_enter Try.func24, Try.ntmps24
  go_upto_region 5 with (go_at_call 40; refine Hno.out.mono ?_; rintro e w' ⟨rfl, rfl⟩)
  rw [Ew1.out]
  clear k0 k1 k2 k3 k4 k5 k6 k7 k8 k9
  go_wp2_with fail
  refine Hcl.out.mono ?_
  rintro e2 w2 ⟨A5, c5, rfl, hnc5, hcm5, ho5, hB2⟩
  have hbox2 := blk_on HBox1.out hB2
  have c4 : w2.cell? ⟨z, 2, none⟩ = some (.slice A n c) := by rw [blk_cell hbox2]; rfl
  have f4 := blk_free hbox2 2
  have HD := Lib.hid (show XCopies XmAt S g s w (.returned (.pointer (some ⟨z, 0, none⟩))) (w2.setCell ⟨z, 2, none⟩ (.slice A5 n c5)) from by
    obtain ⟨h, ez, en, ese⟩ := H.out
    have hs1 := Hs1.out
    have hB3 : But (fun k => k = z) w2 (w2.setCell ⟨z, 2, none⟩ (.slice A5 n c5)) := (But.refl (fun k => k = z) w2).setCell (p := ⟨z, 2, none⟩) rfl _
    have hb3 : Below w.heap.size w (w2.setCell ⟨z, 2, none⟩ (.slice A5 n c5)) := (below_trans HB1.out hB2).trans (hB3.below (fun k hk => by omega) (by have := HB1.out.size; have := hB2.size; omega))
    have hzlt := lt_of_block hbox2
    have hnew : ∀ b, (Value.slice A5 n c5).ownBlock = some b → z + 1 ≤ b ∧ b < w2.heap.size := fun b hb => by
      rcases ho5.2 with ⟨e, _⟩ | ⟨g2, cap, cur, e, hB, hg, _⟩
      · rw [e] at hb; cases hb
      · rw [e] at hb
        injection hb with hb
        have hb : g2 = b := hb
        subst hb
        exact ⟨by omega, lt_of_block hg⟩
    refine ⟨z, S, fun k => k = z ∨ (Value.slice A5 n c5).ownBlock = some k, rfl, ⟨A, c, wt, ct, al, h.on hb3⟩, ⟨A5, c5, wt, ct, al, ⟨?_, ?_, ?_, h.ok, h.on_, .inl rfl, fun k hk => ?_⟩⟩, But.of hb3, fun k hk => .inl hk, fun k hk => ?_, fun k hk hk2 => ?_⟩
    · rw [en]
      have h6 := heap_setCell_at hbox2 2 (.slice A5 n c5)
      rw [h6, ← ese]
      rfl
    · rw [en]
      exact (own_slv ho5).but hB3 (fun b hb e => by have := (hnew b hb).1; have : b = z := e; omega)
    · rw [en]
      exact fun b hb => .inr hb
    · refine hB3.lt ?_
      rcases hk with hk | hk
      · omega
      · exact (hnew k hk).2
    · rcases hk with hk | hk
      · omega
      · have := (hnew k hk).1; omega
    · have h7 := h.lt k hk
      rcases hk2 with hk2 | hk2
      · omega
      · have := (hnew k hk2).1; omega)
  clear ho5 hB2 hbox2 hnc5 hcm5
  go_wp2_with fail
  go_ret
  exact HD.out
end
end Go.Proofs.Ytncbkgcblmohoaa
