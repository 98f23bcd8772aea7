/-
  The document's own buffer (culvertref19): Acked.
-/
import Derived.Test.YtncbkgcblmohoaaTk
import Derived.Test.YtncbkgcblmohoaaRxRefW
namespace Go.Proofs.Ytncbkgcblmohoaa
set_option maxRecDepth 10000
open Go.RowKit
set_option linter.unusedSimpArgs false
set_option linter.unusedVariables false

theorem gone_ok {s : XS} {win : Int} (h : OkX s) (hw : 0 ≤ win ∧ win ≤ 1073741824) (n : Nat) : OkX (goneX n win s) := by
  refine ⟨numX_bd _, fun x hx => h.byte x (List.mem_of_mem_drop hx), ?_, ?_, hw, h.rto, h.tries, h.count, h.wait, h.alarm⟩
  · simp only [goneX, List.length_drop]; have := h.len; omega
  · simp only [goneX, List.length_drop]; have := h.sent; omega
theorem gone_zero {s : XS} (h : OkX s) (win : Int) : goneX 0 win s = { s with win := win } := by
  have e : numX (s.una + ((0 : Nat) : Int)) = s.una := by
    have := h.una
    unfold numX
    omega
  unfold goneX
  rw [e, List.drop_zero, Nat.sub_zero]
theorem farX_ahead (a b : Int) : sAhead a b = farX a b := rfl
section
variable {w w' : World} {T V : Nat → Prop} {g c a : Nat} {A : Option Addr} {first : Int} {W : List Int} {s s' : XS}
set_option maxHeartbeats 1000000 in
theorem rack19_any (h : RefX w T g A c first W a s) (ack win now : Int) (ha : 0 ≤ ack ∧ ack < 4294967296) (hw : 0 ≤ win ∧ win < 4294967296) (hn : 0 ≤ now ∧ now ≤ 4398046511104) :
    Calls Try.prog 21 #[.pointer (some ⟨g, 0, none⟩), .int .u32 ack, .int .u32 win, .int .u64 now] w (RDoX T g first W.length (ackS ack win now s) (.tuple #[.int .i64 (ackN ack win s), .int .i64 (ackE ack win s)]) w) := by
  have H := Lib.hid h
  have HU := Lib.hid (runa19_any h)
  have c2 := h.c2
  have c3 := h.c3
  have hsent := h.ok.sent
  have hlen := h.ok.len
  have hbl := h.blen
  have hbig := h.big
  obtain ⟨f, ef⟩ : ∃ f, farX s.una ack = f := ⟨_, rfl⟩
  have HAh := Lib.hid (rahead_any s.una ack w h.ok.una ha)
  rw [farX_ahead, ef] at HAh
  have hfb : -2147483648 ≤ f ∧ f < 2147483648 := by rw [← ef]; unfold farX; omega
  obtain ⟨m, em⟩ : ∃ m, a + s.sent = m := ⟨_, rfl⟩
  rw [em] at c3
  obtain ⟨p, ep⟩ : ∃ p : Int, (a : Int) + f = p := ⟨_, rfl⟩
  have z1 : IntKind.i64.wrap ((a : Int) + f) = p := by rw [IntKind.wrap_i64]; omega
  have z2 : wrap64 f = f := IntWalk.wrap64_in _ (by omega)
  have z3 : wrap64 ((a : Int) + f) = p := by rw [IntWalk.wrap64_in _ (by omega)]; omega
  by_cases hf0 : f < 0
  · have Hx := Lib.hid (And.intro hbl hbig)
    clear h hsent hlen hbl hbig em ep hn hw ha
    have HE := Lib.hid (fun k => show RDoX T g first W.length (ackS ack win now s) (.tuple #[.int .i64 (ackN ack win s), .int .i64 (ackE ack win s)]) w (.returned (.tuple #[.int .i64 0, .int .i64 1])) (w.drewN k) from by
      have hb : ackBad ack win s = true := by unfold ackBad; exact decide_eq_true (by rw [ef]; omega)
      unfold ackS ackN ackE
      rw [if_pos hb, if_pos hb, if_pos hb]
      exact ⟨rfl, T, A, c, W, a, H.out.drewN k, (But.refl T w).drewN k, fun k hk => .inl hk, Nat.le_refl _⟩)
    clear ef
    go_enter Try.func21, Try.ntmps21
    go_wp2_with (first | (go_at_call 19; refine HU.out.mono ?_; rintro e w' ⟨rfl, rfl⟩) | (go_at_call 51; refine HAh.out.mono ?_; rintro e w' ⟨rfl, rfl⟩))
    refine wp_region_held_drew (S := fun w' => w'.cell? ⟨g, 2, none⟩ = some (.int .i64 (a : Int)) ∧ w'.cell? ⟨g, 3, none⟩ = some (.int .i64 (m : Int))) (by kernel_rfl) (by exact ⟨c2, c3⟩) (fun hHeld => ?_)
    refine tk 0 ?_ rfl ?_ ?_
    rotate_left
    · intro w' hSw; (go_simp <;> (with_reducible rfl))
    try simp only [Act.put, putL]
    refine tk 1 ?_ rfl ?_ ?_
    rotate_left
    · intro w' hSw; (go_simp <;> (with_reducible rfl))
    try simp only [Act.put, putL]
    refine tk 2 ?_ rfl ?_ ?_
    rotate_left
    · intro w' hSw; (go_simp <;> (with_reducible rfl))
    try simp only [Act.put, putL]
    refine tkN 3 rfl ?_
    try simp only [Act.put, putL]
    refine tkN 4 rfl ?_
    try simp only [Act.put, putL]
    refine tkN 5 rfl ?_
    try simp only [Act.put, putL]
    refine tkN 6 rfl ?_
    try simp only [Act.put, putL]
    refine tkN 7 rfl ?_
    try simp only [Act.put, putL]
    refine tkN 8 rfl ?_
    try simp only [Act.put, putL]
    refine tkN 9 rfl ?_
    try simp only [Act.put, putL]
    refine tkN 10 rfl ?_
    try simp only [Act.put, putL]
    refine tkN 11 rfl ?_
    try simp only [Act.put, putL]
    refine tkN 12 rfl ?_
    try simp only [Act.put, putL]
    refine tkN 13 rfl ?_
    try simp only [Act.put, putL]
    refine tk 14 ?_ rfl ?_ ?_
    rotate_left
    · intro w' hSw; (go_simp <;> (with_reducible rfl))
    try simp only [Act.put, putL]
    refine tk 15 ?_ rfl ?_ ?_
    rotate_left
    · intro w' hSw; (go_simp <;> (with_reducible rfl))
    try simp only [Act.put, putL]
    refine tkN 16 rfl ?_
    try simp only [Act.put, putL]
    refine tkN 17 rfl ?_
    try simp only [Act.put, putL]
    refine tk 18 ?_ rfl ?_ ?_
    rotate_left
    · intro w' hSw; (go_simp <;> (with_reducible rfl))
    try simp only [Act.put, putL]
    refine wpAnyH_done (by kernel_rfl) ?_ _
    clear hHeld
    go_wp2_with fail
    go_ret2
    exact HE.out 1
  · have g0 : (f < 0) = False := eq_false hf0
    by_cases hf1 : (s.sent : Int) < f
    · have q1 : (m : Int) < p := by omega
      clear h hsent hlen hbl hbig em ep hn hw ha
      have HE := Lib.hid (fun k => show RDoX T g first W.length (ackS ack win now s) (.tuple #[.int .i64 (ackN ack win s), .int .i64 (ackE ack win s)]) w (.returned (.tuple #[.int .i64 0, .int .i64 1])) (w.drewN k) from by
        have hb : ackBad ack win s = true := by unfold ackBad; exact decide_eq_true (by rw [ef]; omega)
        unfold ackS ackN ackE
        rw [if_pos hb, if_pos hb, if_pos hb]
        exact ⟨rfl, T, A, c, W, a, H.out.drewN k, (But.refl T w).drewN k, fun k hk => .inl hk, Nat.le_refl _⟩)
      clear ef
      go_enter Try.func21, Try.ntmps21
      go_wp2_with (first | (go_at_call 19; refine HU.out.mono ?_; rintro e w' ⟨rfl, rfl⟩) | (go_at_call 51; refine HAh.out.mono ?_; rintro e w' ⟨rfl, rfl⟩))
      refine wp_region_held_drew (S := fun w' => w'.cell? ⟨g, 2, none⟩ = some (.int .i64 (a : Int)) ∧ w'.cell? ⟨g, 3, none⟩ = some (.int .i64 (m : Int))) (by kernel_rfl) (by exact ⟨c2, c3⟩) (fun hHeld => ?_)
      refine tk 0 ?_ rfl ?_ ?_
      rotate_left
      · intro w' hSw; (go_simp <;> (with_reducible rfl))
      try simp only [Act.put, putL]
      refine tk 1 ?_ rfl ?_ ?_
      rotate_left
      · intro w' hSw; (go_simp <;> (with_reducible rfl))
      try simp only [Act.put, putL]
      refine tk 2 ?_ rfl ?_ ?_
      rotate_left
      · intro w' hSw; (go_simp <;> (with_reducible rfl))
      try simp only [Act.put, putL]
      refine tk 3 ?_ rfl ?_ ?_
      rotate_left
      · intro w' hSw; (go_simp <;> (with_reducible rfl))
      try simp only [Act.put, putL]
      refine tk 4 ?_ rfl ?_ ?_
      rotate_left
      · intro w' hSw; (go_simp <;> (with_reducible rfl))
      try simp only [Act.put, putL]
      refine tk 5 ?_ rfl ?_ ?_
      rotate_left
      · intro w' hSw; (go_simp <;> (with_reducible rfl))
      try simp only [Act.put, putL]
      refine tk 6 ?_ rfl ?_ ?_
      rotate_left
      · intro w' hSw; (go_simp <;> (with_reducible rfl))
      try simp only [Act.put, putL]
      refine tk 7 ?_ rfl ?_ ?_
      rotate_left
      · intro w' hSw; (go_simp <;> (with_reducible rfl))
      try simp only [Act.put, putL]
      refine tk 8 ?_ rfl ?_ ?_
      rotate_left
      · intro w' hSw; (go_simp <;> (with_reducible rfl))
      try simp only [Act.put, putL]
      refine tk 9 ?_ rfl ?_ ?_
      rotate_left
      · intro w' hSw; (go_simp <;> (with_reducible rfl))
      try simp only [Act.put, putL]
      refine tk 10 ?_ rfl ?_ ?_
      rotate_left
      · intro w' hSw; (go_simp <;> (with_reducible rfl))
      try simp only [Act.put, putL]
      refine tk 11 ?_ rfl ?_ ?_
      rotate_left
      · intro w' hSw; (go_simp <;> (with_reducible rfl))
      try simp only [Act.put, putL]
      refine tk 12 ?_ rfl ?_ ?_
      rotate_left
      · intro w' hSw; (go_simp <;> (with_reducible rfl))
      try simp only [Act.put, putL]
      refine tk 13 ?_ rfl ?_ ?_
      rotate_left
      · intro w' hSw; (go_simp <;> (with_reducible rfl))
      try simp only [Act.put, putL]
      refine tk 14 ?_ rfl ?_ ?_
      rotate_left
      · intro w' hSw; (go_simp <;> (with_reducible rfl))
      try simp only [Act.put, putL]
      refine tk 15 ?_ rfl ?_ ?_
      rotate_left
      · intro w' hSw; (go_simp <;> (with_reducible rfl))
      try simp only [Act.put, putL]
      refine tkN 16 rfl ?_
      try simp only [Act.put, putL]
      refine tkN 17 rfl ?_
      try simp only [Act.put, putL]
      refine tk 18 ?_ rfl ?_ ?_
      rotate_left
      · intro w' hSw; (go_simp <;> (with_reducible rfl))
      try simp only [Act.put, putL]
      refine wpAnyH_done (by kernel_rfl) ?_ _
      clear hHeld
      go_wp2_with fail
      go_ret2
      exact HE.out 1
    · have q1 : ((m : Int) < p) = False := eq_false (by omega)
      by_cases hw1 : 1073741824 < win
      · clear h hsent hlen hbl hbig em ep hn hw ha
        have HE := Lib.hid (fun k => show RDoX T g first W.length (ackS ack win now s) (.tuple #[.int .i64 (ackN ack win s), .int .i64 (ackE ack win s)]) w (.returned (.tuple #[.int .i64 0, .int .i64 1])) (w.drewN k) from by
          have hb : ackBad ack win s = true := by unfold ackBad; exact decide_eq_true (by rw [ef]; omega)
          unfold ackS ackN ackE
          rw [if_pos hb, if_pos hb, if_pos hb]
          exact ⟨rfl, T, A, c, W, a, H.out.drewN k, (But.refl T w).drewN k, fun k hk => .inl hk, Nat.le_refl _⟩)
        clear ef
        go_enter Try.func21, Try.ntmps21
        go_wp2_with (first | (go_at_call 19; refine HU.out.mono ?_; rintro e w' ⟨rfl, rfl⟩) | (go_at_call 51; refine HAh.out.mono ?_; rintro e w' ⟨rfl, rfl⟩))
        refine wp_region_held_drew (S := fun w' => w'.cell? ⟨g, 2, none⟩ = some (.int .i64 (a : Int)) ∧ w'.cell? ⟨g, 3, none⟩ = some (.int .i64 (m : Int))) (by kernel_rfl) (by exact ⟨c2, c3⟩) (fun hHeld => ?_)
        refine tk 0 ?_ rfl ?_ ?_
        rotate_left
        · intro w' hSw; (go_simp <;> (with_reducible rfl))
        try simp only [Act.put, putL]
        refine tk 1 ?_ rfl ?_ ?_
        rotate_left
        · intro w' hSw; (go_simp <;> (with_reducible rfl))
        try simp only [Act.put, putL]
        refine tk 2 ?_ rfl ?_ ?_
        rotate_left
        · intro w' hSw; (go_simp <;> (with_reducible rfl))
        try simp only [Act.put, putL]
        refine tk 3 ?_ rfl ?_ ?_
        rotate_left
        · intro w' hSw; (go_simp <;> (with_reducible rfl))
        try simp only [Act.put, putL]
        refine tk 4 ?_ rfl ?_ ?_
        rotate_left
        · intro w' hSw; (go_simp <;> (with_reducible rfl))
        try simp only [Act.put, putL]
        refine tk 5 ?_ rfl ?_ ?_
        rotate_left
        · intro w' hSw; (go_simp <;> (with_reducible rfl))
        try simp only [Act.put, putL]
        refine tk 6 ?_ rfl ?_ ?_
        rotate_left
        · intro w' hSw; (go_simp <;> (with_reducible rfl))
        try simp only [Act.put, putL]
        refine tk 7 ?_ rfl ?_ ?_
        rotate_left
        · intro w' hSw; (go_simp <;> (with_reducible rfl))
        try simp only [Act.put, putL]
        refine tk 8 ?_ rfl ?_ ?_
        rotate_left
        · intro w' hSw; (go_simp <;> (with_reducible rfl))
        try simp only [Act.put, putL]
        refine tk 9 ?_ rfl ?_ ?_
        rotate_left
        · intro w' hSw; (go_simp <;> (with_reducible rfl))
        try simp only [Act.put, putL]
        refine tk 10 ?_ rfl ?_ ?_
        rotate_left
        · intro w' hSw; (go_simp <;> (with_reducible rfl))
        try simp only [Act.put, putL]
        refine tk 11 ?_ rfl ?_ ?_
        rotate_left
        · intro w' hSw; (go_simp <;> (with_reducible rfl))
        try simp only [Act.put, putL]
        refine tk 12 ?_ rfl ?_ ?_
        rotate_left
        · intro w' hSw; (go_simp <;> (with_reducible rfl))
        try simp only [Act.put, putL]
        refine tk 13 ?_ rfl ?_ ?_
        rotate_left
        · intro w' hSw; (go_simp <;> (with_reducible rfl))
        try simp only [Act.put, putL]
        refine tk 14 ?_ rfl ?_ ?_
        rotate_left
        · intro w' hSw; (go_simp <;> (with_reducible rfl))
        try simp only [Act.put, putL]
        refine tk 15 ?_ rfl ?_ ?_
        rotate_left
        · intro w' hSw; (go_simp <;> (with_reducible rfl))
        try simp only [Act.put, putL]
        refine tk 16 ?_ rfl ?_ ?_
        rotate_left
        · intro w' hSw; (go_simp <;> (with_reducible rfl))
        try simp only [Act.put, putL]
        refine tk 17 ?_ rfl ?_ ?_
        rotate_left
        · intro w' hSw; (go_simp <;> (with_reducible rfl))
        try simp only [Act.put, putL]
        refine tk 18 ?_ rfl ?_ ?_
        rotate_left
        · intro w' hSw; (go_simp <;> (with_reducible rfl))
        try simp only [Act.put, putL]
        refine wpAnyH_done (by kernel_rfl) ?_ _
        clear hHeld
        go_wp2_with fail
        go_ret2
        exact HE.out 1
      · have q2 : ((1073741824 : Int) < win) = False := eq_false hw1
        obtain ⟨k, ek⟩ : ∃ k : Nat, f = k := ⟨f.toNat, by omega⟩
        have hks : k ≤ s.sent := by omega
        have hwb : 0 ≤ win ∧ win ≤ 1073741824 := by omega
        have hal := h.al
        have hb : ¬ ackBad ack win s = true := by unfold ackBad; simp only [decide_eq_true_eq]; rw [ef]; omega
        obtain ⟨N, eN⟩ : ∃ N, a + k = N := ⟨_, rfl⟩
        have epN : p = (N : Int) := by omega
        have H1 := Lib.hid (h.drewN 1)
        obtain ⟨w1, ew1⟩ : ∃ v, w.drewN 1 = v := ⟨_, rfl⟩
        have Hb1 := Lib.hid (show But T w w1 by rw [← ew1]; exact (But.refl T w).drewN 1)
        rw [ew1] at H1
        obtain ⟨h2, hb2⟩ := H1.out.set (s' := { s with win := win }) 4 (.int .u32 win) a H1.out.al rfl h.bs h.una ⟨h.ok.una, h.ok.byte, h.ok.len, h.ok.sent, hwb, h.ok.rto, h.ok.tries, h.ok.count, h.ok.wait, h.ok.alarm⟩
        obtain ⟨w2, ew2⟩ : ∃ v, w1.setCell ⟨g, 4, none⟩ (.int .u32 win) = v := ⟨_, rfl⟩
        rw [ew2] at h2 hb2
        have hcell : (cellsX A W.length c first a { s with win := win }).setIfInBounds 2 (.int .i64 (N : Int)) = cellsX A W.length c first N (goneX k win s) := by
          have e1 : N + (s.sent - k) = a + s.sent := by omega
          unfold cellsX goneX
          simp only []
          rw [e1]
          rfl
        obtain ⟨h3, hb3⟩ := h2.set (s' := goneX k win s) 2 (.int .i64 (N : Int)) N (by omega) hcell (by show s.bs.drop k = _; rw [h.bs, List.drop_drop, eN]) (by show numX (s.una + (k : Int)) = _; rw [h.una, numX_num]; congr 1; omega) (gone_ok h.ok hwb k)
        obtain ⟨w3, ew3⟩ : ∃ v, w2.setCell ⟨g, 2, none⟩ (.int .i64 p) = v := ⟨_, rfl⟩
        rw [← epN, ew3] at h3 hb3
        have HB := Lib.hid (show But T w w3 from Hb1.out.trans ((but_g h hb2).trans (but_g h hb3)))
        have d4 : w1.cell? ⟨g, 4, none⟩ = some (.int .u32 s.win) := H1.out.c4
        have f4 := H1.out.free 4
        have d2 := h2.c2
        have f2 := h2.free 2
        have Ew1 := Lib.hid (show w.drew = w1 from ew1)
        have Ew2 := Lib.hid ew2
        have Ew3 := Lib.hid ew3
        have HR3 := Lib.hid h3
        have HAn := Lib.hid (ranew19_any h3 now hn)
        have eE : ackE ack win s = 0 := by unfold ackE; rw [if_neg hb]
        have eN2 : ackN ack win s = f := by unfold ackN; rw [if_neg hb, ef]
        rw [eE, eN2]
        have eS : ackS ack win now s = if f = 0 then { s with win := win } else anewX now (goneX k win s) := by
          unfold ackS
          rw [if_neg hb, ef, ek]
          rfl
        obtain ⟨S2, eS2⟩ : ∃ S2, ackS ack win now s = S2 := ⟨_, rfl⟩
        rw [eS2]
        rw [eS] at eS2
        have ES2 := Lib.hid eS2
        have HZ := Lib.hid (gone_zero h.ok win)
        have hal2 := h.al
        have EK := Lib.hid ek
        clear ek epN eS2 eS h hsent hlen hbl hbig em ep hn hw ha ef eN hb hks hal h2 hb2 h3 hb3 ew1 ew2 ew3 hcell eE eN2 hfb hwb hal2
        go_enter Try.func21, Try.ntmps21
        go_wp2_with (first | (go_at_call 19; refine HU.out.mono ?_; rintro e w' ⟨rfl, rfl⟩) | (go_at_call 51; refine HAh.out.mono ?_; rintro e w' ⟨rfl, rfl⟩))
        refine wp_region_held_drew (S := fun w' => w'.cell? ⟨g, 2, none⟩ = some (.int .i64 (a : Int)) ∧ w'.cell? ⟨g, 3, none⟩ = some (.int .i64 (m : Int))) (by kernel_rfl) (by exact ⟨c2, c3⟩) (fun hHeld => ?_)
        refine tk 0 ?_ rfl ?_ ?_
        rotate_left
        · intro w' hSw; (go_simp <;> (with_reducible rfl))
        try simp only [Act.put, putL]
        refine tk 1 ?_ rfl ?_ ?_
        rotate_left
        · intro w' hSw; (go_simp <;> (with_reducible rfl))
        try simp only [Act.put, putL]
        refine tk 2 ?_ rfl ?_ ?_
        rotate_left
        · intro w' hSw; (go_simp <;> (with_reducible rfl))
        try simp only [Act.put, putL]
        refine tk 3 ?_ rfl ?_ ?_
        rotate_left
        · intro w' hSw; (go_simp <;> (with_reducible rfl))
        try simp only [Act.put, putL]
        refine tk 4 ?_ rfl ?_ ?_
        rotate_left
        · intro w' hSw; (go_simp <;> (with_reducible rfl))
        try simp only [Act.put, putL]
        refine tk 5 ?_ rfl ?_ ?_
        rotate_left
        · intro w' hSw; (go_simp <;> (with_reducible rfl))
        try simp only [Act.put, putL]
        refine tk 6 ?_ rfl ?_ ?_
        rotate_left
        · intro w' hSw; (go_simp <;> (with_reducible rfl))
        try simp only [Act.put, putL]
        refine tk 7 ?_ rfl ?_ ?_
        rotate_left
        · intro w' hSw; (go_simp <;> (with_reducible rfl))
        try simp only [Act.put, putL]
        refine tk 8 ?_ rfl ?_ ?_
        rotate_left
        · intro w' hSw; (go_simp <;> (with_reducible rfl))
        try simp only [Act.put, putL]
        refine tk 9 ?_ rfl ?_ ?_
        rotate_left
        · intro w' hSw; (go_simp <;> (with_reducible rfl))
        try simp only [Act.put, putL]
        refine tk 10 ?_ rfl ?_ ?_
        rotate_left
        · intro w' hSw; (go_simp <;> (with_reducible rfl))
        try simp only [Act.put, putL]
        refine tk 11 ?_ rfl ?_ ?_
        rotate_left
        · intro w' hSw; (go_simp <;> (with_reducible rfl))
        try simp only [Act.put, putL]
        refine tk 12 ?_ rfl ?_ ?_
        rotate_left
        · intro w' hSw; (go_simp <;> (with_reducible rfl))
        try simp only [Act.put, putL]
        refine tk 13 ?_ rfl ?_ ?_
        rotate_left
        · intro w' hSw; (go_simp <;> (with_reducible rfl))
        try simp only [Act.put, putL]
        refine tk 14 ?_ rfl ?_ ?_
        rotate_left
        · intro w' hSw; (go_simp <;> (with_reducible rfl))
        try simp only [Act.put, putL]
        refine tk 15 ?_ rfl ?_ ?_
        rotate_left
        · intro w' hSw; (go_simp <;> (with_reducible rfl))
        try simp only [Act.put, putL]
        refine tk 16 ?_ rfl ?_ ?_
        rotate_left
        · intro w' hSw; (go_simp <;> (with_reducible rfl))
        try simp only [Act.put, putL]
        refine tk 17 ?_ rfl ?_ ?_
        rotate_left
        · intro w' hSw; (go_simp <;> (with_reducible rfl))
        try simp only [Act.put, putL]
        refine tk 18 ?_ rfl ?_ ?_
        rotate_left
        · intro w' hSw; (go_simp <;> (with_reducible rfl))
        try simp only [Act.put, putL]
        refine wpAnyH_done (by kernel_rfl) ?_ _
        clear hHeld
        rw [Ew1.out]
        go_upto_region 5 with (fail)
        rw [Ew2.out]
        go_upto_region 6 with (fail)
        rw [Ew3.out]
        clear z1 z3 d4 f4 d2 f2 c2 c3
        by_cases hk0 : f = 0
        · subst hk0
          obtain rfl : k = 0 := by have := EK.out; omega
          have e2 := ES2.out
          rw [if_pos rfl, ← HZ.out] at e2
          subst e2
          go_wp2_with fail
          go_ret2
          exact ⟨rfl, T, A, c, W, _, HR3.out, HB.out, fun q hq => .inl hq, Nat.le_refl _⟩
        · have e2 := ES2.out
          rw [if_neg hk0] at e2
          subst e2
          have h6 : 0 < f := by omega
          clear hk0
          go_wp2_with fail
          refine HAn.out.mono ?_
          rintro e w7 ⟨rfl, h7, hb7⟩
          have HG := Lib.hid (And.intro h7 (HB.out.trans (but_g H.out hb7)))
          clear h7 hb7
          go_wp2_with fail
          go_ret2
          exact ⟨rfl, T, A, c, W, _, HG.out.1, HG.out.2, fun q hq => .inl hq, Nat.le_refl _⟩
end
end Go.Proofs.Ytncbkgcblmohoaa
