/-
  OptsParts holds: options stand one behind the other; 01s between change nothing; a byte less, and the last one is short.
-/
import Derived.Test.YtikfklbgncdbnaaOptLaw
import Derived.Test.YtikfklbgncdbnaaRepeat
namespace Go.Proofs.Ytikfklbgncdbnaa.optsParts
set_option maxRecDepth 10000
open Go.ChangeShapes Go.WideShapes Go.ChangeAt Go.RowKit
set_option linter.unusedVariables false
set_option linter.unusedSimpArgs false

theorem repeat_any (r b c : Nat) (ri : Int) (w : World) (hr : r ≤ 3) (hi : ri = (r : Int)) (h : Rd w (some ⟨b, 0, none⟩) 1 [1]) : Calls Try.prog 36 #[.slice (some ⟨b, 0, none⟩) 1 c, .int .i64 ri] w (Ones r w) := by
  subst hi
  have : r = 0 ∨ r = 1 ∨ r = 2 ∨ r = 3 := by omega
  rcases this with rfl | rfl | rfl | rfl
  · exact repeat_0 _ c w
  · exact repeat_1 b 0 c w h
  · exact repeat_2 b 0 c w h
  · exact repeat_3 b 0 c w h
theorem LO.take {w : World} {A : Option Addr} {n k : Nat} {os : List OptV} {ls : List (Int × List Int)} (h : LO w A n os ls) (hk : k ≤ n) : LO w A k (os.take k) (ls.take k) := ⟨h.1.take hk, h.2.take k⟩
theorem wpList_appOG {ops : Array Oper} {rest : List Oper} {o : Oper} {a : Act} {w : World} {Q : Exit → Act → World → Prop} (hw : Region.wanted o (yielded ops a.tmps) = true) (s x : Operand)
    (ho : o.op = .call { callee := .builtin .append, args := #[s, x], argTypes := #[23, 23] })
    (B : Nat) (A A' : Option Addr) (n c m c' : Nat) (os os' : List OptV) (hs : a.eval s = .slice A n c) (hx : a.eval x = .slice A' m c') (h : OwnO w B A n c os) (hr : RdO w A' m os') (hsz : (n + m) * 32 ≤ 140737488355328) (hB : B ≤ w.heap.size)
    (hk : ∀ A2 c2 w', OwnO w' B A2 (n + m) c2 (os ++ os') → Below B w w' →
      wpList Try.prog ops Q rest (a.put o.dst (.slice A2 (n + m) c2)) w') : wpList Try.prog ops Q (o :: rest) a w := by
  refine BigFrame.wpList_want hw fun K hK => ?_
  obtain ⟨A2, c2, w', hrun, h1, h2, h3, h4⟩ := appO_run w o.type B A A' n c m c' os os' h hr hsz hB
  unfold Oper.wp execOp
  simp only [ho, resolve, invoke, builtin, Sem.run_bind, Sem.run_pure, Result.andThen_ok, List.map_toArray, List.map_cons, List.map_nil, hs, hx, hrun]
  exact hK _ _ (hk A2 c2 w' h1 h3)

theorem own_blk {w : World} {B n c g : Nat} {A : Option Addr} {l : List Int} {cs : Array Value} (h : OwnB w B A n c l) (hg : w.heap[g]? = some (.cells cs 31 (0, 0))) : ¬ Blk A g := by
  rintro ⟨a, rfl, ha⟩
  rcases id h.2 with ⟨e, _⟩ | ⟨g', cap, cur, e, hB, hg', _⟩
  · injection e with e _ _; cases e
  · injection e with e _ _
    injection e with e
    subst e
    exact own_ne h hg _ rfl ha
/-- One behind the other, 01s between. -/
theorem parse_parts {la lb : List (Int × List Int)} {r : Nat} (ha : ∀ l ∈ la, 2 ≤ l.1) (hb : lb.any badB = false) (hl : (bytesO lb).length ≤ 40) (h40 : (bytesO la ++ List.replicate r 1 ++ padTo4 (bytesO lb)).length ≤ 40) : parseO (bytesO la ++ List.replicate r 1 ++ padTo4 (bytesO lb)) = (la ++ lb, 0) := by
  have h1 := parseO_put hb hl
  have hp := padTo4_len (bytesO lb)
  unfold parseO at h1 ⊢
  rw [if_neg (by omega)] at h1 ⊢
  rw [List.append_assoc, parseL_bytes _ la ha, parseL_ones, h1, behindO_ok]
theorem parse_cut {la : List (Int × List Int)} (ha : ∀ l ∈ la, 2 ≤ l.1) (hne : la ≠ []) (h40 : (bytesO la).length ≤ 40) : parseO (bytesO la).dropLast = ([], 4) := by
  have h := parseL_cut la.dropLast (la.getLast hne) (fun l hl => ha l (List.dropLast_subset la hl)) (ha _ (List.getLast_mem hne))
  rw [List.dropLast_concat_getLast hne] at h
  unfold parseO
  rw [if_neg (by rw [List.length_dropLast]; omega), h]
theorem bytesO_ne {la : List (Int × List Int)} (h : la ≠ []) : 0 < (bytesO la).length := by
  cases la with
  | nil => exact absurd rfl h
  | cons l ls => simp only [bytesO, List.flatMap_cons, List.length_append, bytesOne]; simp; omega

set_option maxHeartbeats 4000000 in
set_option maxRecDepth 100000 in
theorem walk (w : World) (v0 : Value) (h0 : OptsAt w v0) (v1 : Value) (h1 : OptsAt w v1) (nops : Int) (wk : (Lit.int .u8 nops).wf = true) :
    Calls Try.prog 7 #[v0, v1, .int .u8 nops] w fun e w' => e = .returned (.bool true) ∧ Below w.heap.size w w' := by
  obtain ⟨A0, n0, c0, os0, ls0, rfl, hn0, hc0, hr0, hs0⟩ := h0
  obtain ⟨A1, n1, c1, os1, ls1, rfl, hn1, hc1, hr1, hs1⟩ := h1
  have hk : 0 ≤ nops ∧ nops < 256 := by have := bounds_u8 wk; omega
  obtain ⟨r, hr, hr3⟩ : ∃ r : Nat, nops % 4 = (r : Int) ∧ r ≤ 3 := ⟨(nops % 4).toNat, by omega, by omega⟩
  have Hf0 := Lib.hid (few_any A0 n0 c0 os0 ls0 w ⟨hn0, hc0⟩ hr0 hs0)
  have Hr1 := Lib.hid hr1
  have Hs1 := Lib.hid hs1
  have Hc1 := Lib.hid (And.intro hn1 hc1)
  clear hr0 hs0 hr1 hs1 hn0 hc0 hn1 hc1
  go_enter Try.func7, Try.ntmps7
  go_wp2_with fail
  refine Hf0.out.mono ?_
  rintro e w1 ⟨A2, c2, os2, rfl, ho2, hs2, hb1⟩
  have hm0 : min n0 20 ≤ 20 := Nat.min_le_right _ _
  have hm1 : min n1 20 ≤ 20 := Nat.min_le_right _ _
  have HL1 := Lib.hid (LO.mk ho2.rd hs2)
  have Hc2 := Lib.hid (And.intro ho2.cap ho2.capMax)
  have Hb1 := Lib.hid hb1
  have Hf1 := Lib.hid (few_any A1 n1 c1 os1 ls1 w1 Hc1.out (Hr1.out.below hb1) (Hs1.out.below hb1))
  obtain ⟨f0, ef0⟩ : ∃ f, fewL ls0 = f := ⟨_, rfl⟩
  obtain ⟨f1, ef1⟩ : ∃ f, fewL ls1 = f := ⟨_, rfl⟩
  rw [ef0] at HL1
  rw [ef1] at Hf1
  obtain ⟨m0, em0⟩ : ∃ m, min n0 20 = m := ⟨_, rfl⟩
  obtain ⟨m1, em1⟩ : ∃ m, min n1 20 = m := ⟨_, rfl⟩
  rw [em0] at HL1 hm0 Hc2
  rw [em1] at hm1 Hf1
  rw [em0]
  clear ho2 hs2 hb1 Hf0 Hr1 Hs1 Hc1 ef0 ef1 em0 em1
  go_wp2_with fail
  refine Hf1.out.mono ?_
  rintro e w2 ⟨A3, c3, os3, rfl, ho3, hs3, hb2⟩
  have HM2 := Lib.hid (LO.mk ho3.rd hs3)
  have Hc3 := Lib.hid (And.intro ho3.cap ho3.capMax)
  have HL2 := Lib.hid (HL1.out.on hb2)
  have Hb2 := Lib.hid (below_trans Hb1.out hb2)
  clear ho3 hs3 hb2 HL1 Hb1 Hf1
  obtain ⟨ka, hka, hkan, hka4⟩ := min_nat 4 m0 (by omega)
  obtain ⟨kb, hkb, hkbn, hkb4⟩ := min_nat 4 m1 (by omega)
  have hxc2 := Hc2.out.1
  have hxc3 := Hc3.out.1
  have hka1 : (ka : Int) ≤ (c2 : Int) := by omega
  have hkb1 : (kb : Int) ≤ (c3 : Int) := by omega
  have hka0 : (0 : Int) ≤ (ka : Int) := by omega
  have hkb0 : (0 : Int) ≤ (kb : Int) := by omega
  have hka2 : ka ≤ c2 := by omega
  have hkb2 : kb ≤ c3 := by omega
  have HA2 := Lib.hid (LO.take HL2.out hkan)
  have HB2 := Lib.hid (LO.take HM2.out hkbn)
  obtain ⟨la, ela⟩ : ∃ la, f0.take ka = la := ⟨_, rfl⟩
  obtain ⟨lb, elb⟩ : ∃ lb, f1.take kb = lb := ⟨_, rfl⟩
  obtain ⟨osa, eosa⟩ : ∃ os, os2.take ka = os := ⟨_, rfl⟩
  obtain ⟨osb, eosb⟩ : ∃ os, os3.take kb = os := ⟨_, rfl⟩
  rw [ela, eosa] at HA2
  rw [elb, eosb] at HB2
  clear ela elb eosa eosb HL2 HM2
  go_wp2_with fail
  refine wp_region_held_drew (S := fun _ => True) (by kernel_rfl) trivial (fun hHeld => ?_)
  refine wpAnyH_take (i := 0) (oi := { dst := some 20, op := Go.Op.move (Go.Operand.tmp 0), type := 23, pos := "outright.go:42", after := #[], guard := none }) (v := ?_) rfl (by kernel_rfl) (by kernel_rfl) (by kernel_rfl) (fun _ _ _ h => h) (Or.inl ⟨by rfl, ?_⟩) (by assumption) ?_
  rotate_left 1
  · intro w' hSw; (go_simp <;> (with_reducible rfl))
  (try simp only [Act.put, List.setIfInBounds_toArray, List.set_cons_zero, List.set_cons_succ])
  refine wpAnyH_take (i := 1) (oi := { dst := some 21, op := Go.Op.move (Go.Operand.tmp 0), type := 23, pos := "outright.go:42", after := #[], guard := none }) (v := ?_) rfl (by kernel_rfl) (by kernel_rfl) (by kernel_rfl) (fun _ _ _ h => h) (Or.inl ⟨by rfl, ?_⟩) (by assumption) ?_
  rotate_left 1
  · intro w' hSw; (go_simp <;> (with_reducible rfl))
  (try simp only [Act.put, List.setIfInBounds_toArray, List.set_cons_zero, List.set_cons_succ])
  refine wpAnyH_take (i := 2) (oi := { dst := some 22, op := Go.Op.call { callee := Go.Callee.builtin Go.Builtin.len, args := #[Go.Operand.tmp 21], argTypes := #[23] }, type := 3, pos := "outright.go:42", after := #[{ on := 1, ground := Go.Ground.data }], guard := none }) (v := ?_) rfl (by kernel_rfl) (by kernel_rfl) (by kernel_rfl) (fun _ _ _ h => h) (Or.inl ⟨by rfl, ?_⟩) (by assumption) ?_
  rotate_left 1
  · intro w' hSw; (go_simp <;> (with_reducible rfl))
  (try simp only [Act.put, List.setIfInBounds_toArray, List.set_cons_zero, List.set_cons_succ])
  refine wpAnyH_take (i := 3) (oi := { dst := some 23, op := Go.Op.call { callee := Go.Callee.builtin Go.Builtin.min, args := #[Go.Operand.tmp 22, Go.Operand.const (Go.Value.int Go.IntKind.i64 4)], argTypes := #[3, 3] }, type := 3, pos := "outright.go:42", after := #[{ on := 2, ground := Go.Ground.data }], guard := none }) (v := ?_) rfl (by kernel_rfl) (by kernel_rfl) (by kernel_rfl) (fun _ _ _ h => h) (Or.inl ⟨by rfl, ?_⟩) (by assumption) ?_
  rotate_left 1
  · intro w' hSw; (go_simp <;> (with_reducible rfl))
  (try simp only [Act.put, List.setIfInBounds_toArray, List.set_cons_zero, List.set_cons_succ])
  refine wpAnyH_take (i := 4) (oi := { dst := some 24, op := Go.Op.slice 23 (Go.Operand.tmp 20) none (some (Go.Operand.tmp 23)) none, type := 23, pos := "outright.go:42", after := #[{ on := 0, ground := Go.Ground.data }, { on := 3, ground := Go.Ground.data }], guard := none }) (v := ?_) rfl (by kernel_rfl) (by kernel_rfl) (by kernel_rfl) (fun _ _ _ h => h) (Or.inl ⟨by rfl, ?_⟩) (by assumption) ?_
  rotate_left 1
  · intro w' hSw; (go_simp <;> (with_reducible rfl))
  (try simp only [Act.put, List.setIfInBounds_toArray, List.set_cons_zero, List.set_cons_succ])
  refine wpAnyH_take (i := 5) (oi := { dst := some 25, op := Go.Op.move (Go.Operand.tmp 1), type := 23, pos := "outright.go:42", after := #[], guard := none }) (v := ?_) rfl (by kernel_rfl) (by kernel_rfl) (by kernel_rfl) (fun _ _ _ h => h) (Or.inl ⟨by rfl, ?_⟩) (by assumption) ?_
  rotate_left 1
  · intro w' hSw; (go_simp <;> (with_reducible rfl))
  (try simp only [Act.put, List.setIfInBounds_toArray, List.set_cons_zero, List.set_cons_succ])
  refine wpAnyH_take (i := 6) (oi := { dst := some 26, op := Go.Op.move (Go.Operand.tmp 1), type := 23, pos := "outright.go:42", after := #[], guard := none }) (v := ?_) rfl (by kernel_rfl) (by kernel_rfl) (by kernel_rfl) (fun _ _ _ h => h) (Or.inl ⟨by rfl, ?_⟩) (by assumption) ?_
  rotate_left 1
  · intro w' hSw; (go_simp <;> (with_reducible rfl))
  (try simp only [Act.put, List.setIfInBounds_toArray, List.set_cons_zero, List.set_cons_succ])
  refine wpAnyH_take (i := 7) (oi := { dst := some 27, op := Go.Op.call { callee := Go.Callee.builtin Go.Builtin.len, args := #[Go.Operand.tmp 26], argTypes := #[23] }, type := 3, pos := "outright.go:42", after := #[{ on := 6, ground := Go.Ground.data }], guard := none }) (v := ?_) rfl (by kernel_rfl) (by kernel_rfl) (by kernel_rfl) (fun _ _ _ h => h) (Or.inl ⟨by rfl, ?_⟩) (by assumption) ?_
  rotate_left 1
  · intro w' hSw; (go_simp <;> (with_reducible rfl))
  (try simp only [Act.put, List.setIfInBounds_toArray, List.set_cons_zero, List.set_cons_succ])
  refine wpAnyH_take (i := 8) (oi := { dst := some 28, op := Go.Op.call { callee := Go.Callee.builtin Go.Builtin.min, args := #[Go.Operand.tmp 27, Go.Operand.const (Go.Value.int Go.IntKind.i64 4)], argTypes := #[3, 3] }, type := 3, pos := "outright.go:42", after := #[{ on := 7, ground := Go.Ground.data }], guard := none }) (v := ?_) rfl (by kernel_rfl) (by kernel_rfl) (by kernel_rfl) (fun _ _ _ h => h) (Or.inl ⟨by rfl, ?_⟩) (by assumption) ?_
  rotate_left 1
  · intro w' hSw; (go_simp <;> (with_reducible rfl))
  (try simp only [Act.put, List.setIfInBounds_toArray, List.set_cons_zero, List.set_cons_succ])
  refine wpAnyH_take (i := 9) (oi := { dst := some 29, op := Go.Op.slice 23 (Go.Operand.tmp 25) none (some (Go.Operand.tmp 28)) none, type := 23, pos := "outright.go:42", after := #[{ on := 5, ground := Go.Ground.data }, { on := 8, ground := Go.Ground.data }], guard := none }) (v := ?_) rfl (by kernel_rfl) (by kernel_rfl) (by kernel_rfl) (fun _ _ _ h => h) (Or.inl ⟨by rfl, ?_⟩) (by assumption) ?_
  rotate_left 1
  · intro w' hSw; (go_simp <;> (with_reducible rfl))
  (try simp only [Act.put, List.setIfInBounds_toArray, List.set_cons_zero, List.set_cons_succ])
  refine wpAnyH_take (i := 10) (oi := { dst := some 0, op := Go.Op.assign (Go.Operand.tmp 24), type := 23, pos := "outright.go:42", after := #[{ on := 4, ground := Go.Ground.data }, { on := 0, ground := Go.Ground.phase }, { on := 1, ground := Go.Ground.phase }, { on := 2, ground := Go.Ground.phase }, { on := 3, ground := Go.Ground.phase }, { on := 4, ground := Go.Ground.phase }, { on := 5, ground := Go.Ground.textOnly Go.Departure.lateStores }, { on := 6, ground := Go.Ground.textOnly Go.Departure.lateStores }, { on := 7, ground := Go.Ground.textOnly Go.Departure.lateStoresUnsure }, { on := 8, ground := Go.Ground.textOnly Go.Departure.lateStoresUnsure }, { on := 9, ground := Go.Ground.textOnly Go.Departure.lateStoresUnsure }], guard := none }) (v := ?_) rfl (by kernel_rfl) (by kernel_rfl) (by kernel_rfl) (fun _ _ _ h => h) (Or.inl ⟨by rfl, ?_⟩) (by assumption) ?_
  rotate_left 1
  · intro w' hSw; (go_simp <;> (with_reducible rfl))
  (try simp only [Act.put, List.setIfInBounds_toArray, List.set_cons_zero, List.set_cons_succ])
  refine wpAnyH_take (i := 11) (oi := { dst := some 1, op := Go.Op.assign (Go.Operand.tmp 29), type := 23, pos := "outright.go:42", after := #[{ on := 9, ground := Go.Ground.data }, { on := 10, ground := Go.Ground.chain }, { on := 0, ground := Go.Ground.phase }, { on := 1, ground := Go.Ground.phase }, { on := 2, ground := Go.Ground.phase }, { on := 3, ground := Go.Ground.phase }, { on := 4, ground := Go.Ground.phase }, { on := 5, ground := Go.Ground.phase }, { on := 6, ground := Go.Ground.phase }, { on := 7, ground := Go.Ground.phase }, { on := 8, ground := Go.Ground.phase }, { on := 9, ground := Go.Ground.phase }, { on := 10, ground := Go.Ground.phase }], guard := none }) (v := ?_) rfl (by kernel_rfl) (by kernel_rfl) (by kernel_rfl) (fun _ _ _ h => h) (Or.inl ⟨by rfl, ?_⟩) (by assumption) ?_
  rotate_left 1
  · intro w' hSw; (go_simp <;> (with_reducible rfl))
  (try simp only [Act.put, List.setIfInBounds_toArray, List.set_cons_zero, List.set_cons_succ])
  refine wpAnyH_done (by kernel_rfl) ?_ _
  obtain ⟨w3, ew3⟩ : ∃ w3, w2.drew = w3 := ⟨_, rfl⟩
  have HA3 := Lib.hid (show LO w3 A2 ka osa la by rw [← ew3]; exact HA2.out.on (Below.drew (Below.refl _ _)))
  have HB3 := Lib.hid (show LO w3 A3 kb osb lb by rw [← ew3]; exact HB2.out.on (Below.drew (Below.refl _ _)))
  have Hb3 := Lib.hid (show Below w.heap.size w w3 by rw [← ew3]; exact Hb2.out.drew)
  simp only [ew3]
  clear ew3 HA2 HB2 Hb2 hHeld
  have Hla := Lib.hid (show la.length = ka by rw [← HA3.out.2.len, HA3.out.1.len])
  have Hlb := Lib.hid (show lb.length = kb by rw [← HB3.out.2.len, HB3.out.1.len])
  have hwz : Below w3.heap.size w3 w3 := Below.refl _ _
  go_wp2_with fail
  go_loopg [7, 32] ka (fun gk x i wr => ∃ (j m : Nat) (Ax : Option Addr) (cx : Nat), Hid (gk + j = ka) ∧ j ≤ ka ∧ m ≤ 40 * j ∧ x = .slice Ax m cx ∧ i = .int .i64 (j : Int) ∧ Hid (OwnB wr w3.heap.size Ax m cx (bytesO (la.take j))) ∧ Hid ((la.take j).any badB = false) ∧ Below w3.heap.size w3 wr)
  case atStart => exact ⟨0, 0, none, 0, rfl, Nat.zero_le _, Nat.le_refl _, rfl, rfl, Lib.hid (by simpa [bytesO] using OwnB.nil _ _), Lib.hid (by simp), hwz⟩
  case round =>
    clear hwz
    obtain ⟨j, m, Ax, cx, hgk, hj, hmj, rfl, rfl, hown, hok, hb⟩ := hrel
    by_cases hjk : j < ka
    · obtain ⟨b1, p1, hrun1, hb1, hk0, hd0⟩ := HA3.out.1.index (c := c2) hjk
      have o1 := HA3.out.2.get j (by rw [HA3.out.1.len]; exact hjk)
      have Hsb := Lib.hid (take_snoc_ la j (0, []) (by rw [Hla.out]; exact hjk))
      obtain ⟨v1, ev1⟩ : ∃ v, osa.getD j .none = v := ⟨_, rfl⟩
      obtain ⟨l1, el1⟩ : ∃ v, la.getD j (0, []) = v := ⟨_, rfl⟩
      rw [ev1] at hk0 hd0 o1
      rw [el1] at o1 Hsb
      obtain ⟨kd, Ad, nd, cd⟩ := v1
      obtain ⟨t1, d⟩ := l1
      obtain ⟨rfl, hkd, hncd, hcmd, r1⟩ := o1
      simp only at hk0 hd0 hkd hncd hcmd r1
      have hk1 := (hb.cell (p := ⟨b1, p1, none⟩) hb1).trans hk0
      have hd1 := (hb.cell (p := ⟨b1, p1 + 1, none⟩) hb1).trans hd0
      have Hd := Lib.hid r1.len
      have Hrd := Lib.hid r1
      have hbx := hb.alloc hb.size (.cells #[.int .u8 kd, .slice Ad nd cd] 31)
      have Hbx := Lib.hid hbx
      have hblk := heap_alloc_new wr (.cells #[.int .u8 kd, .slice Ad nd cd] 31)
      obtain ⟨g9, eg9⟩ : ∃ g, wr.heap.size = g := ⟨_, rfl⟩
      rw [eg9] at hblk
      have Hblk := Lib.hid hblk
      have Hbad := Lib.hid (show badB (kd, d) = (decide (kd < 2) || decide (38 < nd)) by unfold badB; simp only [r1.len])
      clear hk0 hd0 ev1 el1 r1 hbx hblk
      by_cases hk2 : kd < 2
      · skip
        go_wp2_with fail
        refine (awake_any _).mono ?_
        rintro e w9 ⟨rfl, hb9⟩
        have Hb9 := Lib.hid (below_trans Hb3.out (below_trans Hbx.out hb9))
        clear hb9
        go_wp2_with fail
        go_ret
        exact ⟨rfl, Hb9.out⟩
      · by_cases hn38 : 38 < nd
        · have hn38' : 38 < (nd : Int) := by omega
          have hk2' : decide (kd < 2) = false := decide_eq_false hk2
          go_wp2_with fail
          refine (awake_any _).mono ?_
          rintro e w9 ⟨rfl, hb9⟩
          have Hb9 := Lib.hid (below_trans Hb3.out (below_trans Hbx.out hb9))
          clear hb9
          go_wp2_with fail
          go_ret
          exact ⟨rfl, Hb9.out⟩
        · have hn38' : (nd : Int) ≤ 38 := by omega
          have hk2' : decide (kd < 2) = false := decide_eq_false hk2
          have hw8 : IntKind.u8.wrap (2 + (nd : Int)) = 2 + (nd : Int) := by simp [IntKind.wrap, IntKind.bits, IntKind.signed]; omega
          have hw1 : IntKind.i64.wrap (2 + (nd : Int)) = 2 + (nd : Int) := IntWalk.i64_in _ (by omega)
          have Hok2 := Lib.hid (show (la.take (j + 1)).any badB = false by rw [Hsb.out, List.any_append, hok.out, List.any_cons, Hbad.out, decide_eq_false hk2, decide_eq_false hn38]; rfl)
          have Hby := Lib.hid (show bytesO (la.take (j + 1)) = bytesO (la.take j) ++ [kd, 2 + (nd : Int)] ++ d by rw [Hsb.out, bytesO_snoc, show bytesOne (kd, d) = [kd, 2 + (nd : Int)] ++ d by unfold bytesOne; rw [Hd.out], ← List.append_assoc])
          have Hsof := Lib.hid (show ∀ w' : World, w'.heap[g9]? = some (.cells #[.int .u8 kd, .slice Ad nd cd] 31 (0, 0)) → w'.cell? ⟨g9, 0, none⟩ = some (.int .u8 kd) ∧ w'.cell? ⟨g9, 1, none⟩ = some (.slice Ad nd cd) from fun w' h => ⟨blk_cell h 0, blk_cell h 1⟩)
          go_wp2_with fail
          obtain ⟨wq, ewq⟩ : ∃ wq, (wr.alloc (.cells #[.int .u8 kd, .slice Ad nd cd] 31)).drew = wq := ⟨_, rfl⟩
          have hblkq : wq.heap[g9]? = some (.cells #[.int .u8 kd, .slice Ad nd cd] 31 (0, 0)) := by rw [← ewq]; exact Hblk.out
          have hszq : wq.heap.size = g9 + 1 := by rw [← ewq]; show (wr.alloc _).heap.size = _; simp [eg9]
          have hownq : OwnB wq w3.heap.size Ax m cx (bytesO (la.take j)) := by rw [← ewq]; exact hown.out.on (Below.drew ((Below.refl _ _).alloc (Nat.le_refl _) _))
          have hbq : Below w3.heap.size w3 wq := by rw [← ewq]; exact Hbx.out.drew
          have hba : Below wq.heap.size wq (wq.alloc (.cells #[.int .u8 kd, .int .u8 (2 + (nd : Int))] 5)) := (Below.refl _ _).alloc (Nat.le_refl _) _
          have HO8 := Lib.hid (hownq.on hba)
          have HR8 := Lib.hid (Rd.const_ wq wq.heap.size rfl [kd, 2 + (nd : Int)] 5 (0, 0) (by simp; omega))
          have HK8 := Lib.hid (blk_on hblkq hba)
          have HB8 := Lib.hid (hbq.trans (hba.mono (B' := w3.heap.size) hbq.size))
          clear hblkq hszq hownq hbq hba
          refine wp_region_held_drew (S := fun w' => w'.cell? ⟨g9, 0, none⟩ = some (.int .u8 kd) ∧ w'.cell? ⟨g9, 1, none⟩ = some (.slice Ad nd cd)) (by kernel_rfl) (Hsof.out _ Hblk.out) (fun hHeld => ?_)
          rw [ewq] at hHeld
          rw [ewq]
          refine wpAnyH_take (i := 0) (oi := { dst := some 46, op := Go.Op.move (Go.Operand.tmp 7), type := 22, pos := "outright.go:48", after := #[], guard := none }) (v := ?_) rfl (by kernel_rfl) (by kernel_rfl) (by kernel_rfl) (fun _ _ _ h => h) (Or.inl ⟨by rfl, ?_⟩) (by assumption) ?_
          rotate_left 1
          · intro w' hSw; (go_simp <;> (with_reducible rfl))
          (try simp only [Act.put, List.setIfInBounds_toArray, List.set_cons_zero, List.set_cons_succ])
          refine wpAnyH_take (i := 1) (oi := { dst := some 47, op := Go.Op.fieldAddr 31 (Go.Operand.tmp 9) 0, type := 0, pos := "outright.go:48", after := #[], guard := none }) (v := ?_) rfl (by kernel_rfl) (by kernel_rfl) (by kernel_rfl) (fun _ _ _ h => h) (Or.inl ⟨by rfl, ?_⟩) (by assumption) ?_
          rotate_left 1
          · intro w' hSw; (go_simp <;> (with_reducible rfl))
          (try simp only [Act.put, List.setIfInBounds_toArray, List.set_cons_zero, List.set_cons_succ])
          refine wpAnyH_take (i := 2) (oi := { dst := some 48, op := Go.Op.load 5 (Go.Operand.tmp 47), type := 5, pos := "outright.go:48", after := #[{ on := 1, ground := Go.Ground.data }], guard := none }) (v := ?_) rfl (by kernel_rfl) (by kernel_rfl) (by kernel_rfl) (fun _ _ _ h => h) (Or.inl ⟨by rfl, ?_⟩) (by assumption) ?_
          rotate_left 1
          · intro w' hSw; (go_simp <;> (with_reducible rfl))
          (try simp only [Act.put, List.setIfInBounds_toArray, List.set_cons_zero, List.set_cons_succ])
          refine wpAnyH_take (i := 3) (oi := { dst := some 49, op := Go.Op.fieldAddr 31 (Go.Operand.tmp 9) 1, type := 0, pos := "outright.go:48", after := #[], guard := none }) (v := ?_) rfl (by kernel_rfl) (by kernel_rfl) (by kernel_rfl) (fun _ _ _ h => h) (Or.inl ⟨by rfl, ?_⟩) (by assumption) ?_
          rotate_left 1
          · intro w' hSw; (go_simp <;> (with_reducible rfl))
          (try simp only [Act.put, List.setIfInBounds_toArray, List.set_cons_zero, List.set_cons_succ])
          refine wpAnyH_take (i := 4) (oi := { dst := some 50, op := Go.Op.load 22 (Go.Operand.tmp 49), type := 22, pos := "outright.go:48", after := #[{ on := 3, ground := Go.Ground.data }], guard := none }) (v := ?_) rfl (by kernel_rfl) (by kernel_rfl) (by kernel_rfl) (fun _ _ _ h => h) (Or.inl ⟨by rfl, ?_⟩) (by assumption) ?_
          rotate_left 1
          · intro w' hSw; (go_simp <;> (with_reducible rfl))
          (try simp only [Act.put, List.setIfInBounds_toArray, List.set_cons_zero, List.set_cons_succ])
          refine wpAnyH_take (i := 5) (oi := { dst := some 51, op := Go.Op.call { callee := Go.Callee.builtin Go.Builtin.len, args := #[Go.Operand.tmp 50], argTypes := #[22] }, type := 3, pos := "outright.go:48", after := #[{ on := 4, ground := Go.Ground.data }], guard := none }) (v := ?_) rfl (by kernel_rfl) (by kernel_rfl) (by kernel_rfl) (fun _ _ _ h => h) (Or.inl ⟨by rfl, ?_⟩) (by assumption) ?_
          rotate_left 1
          · intro w' hSw; (go_simp <;> (with_reducible rfl))
          (try simp only [Act.put, List.setIfInBounds_toArray, List.set_cons_zero, List.set_cons_succ])
          refine wpAnyH_take (i := 6) (oi := { dst := some 52, op := Go.Op.binOp Go.BinOp.add 3 (Go.Operand.const (Go.Value.int Go.IntKind.i64 2)) (Go.Operand.tmp 51) 3, type := 3, pos := "outright.go:48", after := #[{ on := 5, ground := Go.Ground.data }], guard := none }) (v := ?_) rfl (by kernel_rfl) (by kernel_rfl) (by kernel_rfl) (fun _ _ _ h => h) (Or.inl ⟨by rfl, ?_⟩) (by assumption) ?_
          rotate_left 1
          · intro w' hSw; (go_simp <;> (with_reducible rfl))
          (try simp only [Act.put, List.setIfInBounds_toArray, List.set_cons_zero, List.set_cons_succ])
          refine wpAnyH_take (i := 7) (oi := { dst := some 53, op := Go.Op.convert 3 5 (Go.Operand.tmp 52), type := 5, pos := "outright.go:48", after := #[{ on := 6, ground := Go.Ground.data }], guard := none }) (v := ?_) rfl (by kernel_rfl) (by kernel_rfl) (by kernel_rfl) (fun _ _ _ h => h) (Or.inl ⟨by rfl, ?_⟩) (by assumption) ?_
          rotate_left 1
          · intro w' hSw; (go_simp <;> (with_reducible rfl))
          (try simp only [Act.put, List.setIfInBounds_toArray, List.set_cons_zero, List.set_cons_succ])
          refine wpAnyH_take (i := 10) (oi := { dst := some 56, op := Go.Op.fieldAddr 31 (Go.Operand.tmp 9) 1, type := 0, pos := "outright.go:48", after := #[], guard := none }) (v := ?_) rfl (by kernel_rfl) (by kernel_rfl) (by kernel_rfl) (fun _ _ _ h => h) (Or.inl ⟨by rfl, ?_⟩) (by assumption) ?_
          rotate_left 1
          · intro w' hSw; (go_simp <;> (with_reducible rfl))
          (try simp only [Act.put, List.setIfInBounds_toArray, List.set_cons_zero, List.set_cons_succ])
          refine wpAnyH_take (i := 11) (oi := { dst := some 57, op := Go.Op.load 22 (Go.Operand.tmp 56), type := 22, pos := "outright.go:48", after := #[{ on := 10, ground := Go.Ground.data }], guard := none }) (v := ?_) rfl (by kernel_rfl) (by kernel_rfl) (by kernel_rfl) (fun _ _ _ h => h) (Or.inl ⟨by rfl, ?_⟩) (by assumption) ?_
          rotate_left 1
          · intro w' hSw; (go_simp <;> (with_reducible rfl))
          (try simp only [Act.put, List.setIfInBounds_toArray, List.set_cons_zero, List.set_cons_succ])
          refine wpAnyH_ready (rs := [8]) (by kernel_rfl) (by simp) ?_
          refine AllReadyH.cons (o := { dst := some 54, op := Go.Op.buildSlice 22 2 #[(0, Go.Operand.tmp 48), (1, Go.Operand.tmp 53)], type := 22, pos := "outright.go:48", after := #[{ on := 2, ground := Go.Ground.data }, { on := 7, ground := Go.Ground.data }], guard := none }) rfl (fun K hK => ?_) AllReadyH.nil
          go_simp
          skip
          refine hK.out _ _ ?_ (fun hHeld => ?_)
          · exact Hsof.out _ HK8.out
          clear hK K
          (try simp only [Act.put, List.setIfInBounds_toArray, List.set_cons_zero, List.set_cons_succ])
          refine wpAnyH_ready (rs := [9]) (by kernel_rfl) (by simp) ?_
          refine AllReadyH.cons (o := { dst := some 55, op := Go.Op.call { callee := Go.Callee.builtin Go.Builtin.append, args := #[Go.Operand.tmp 46, Go.Operand.tmp 54], argTypes := #[22, 22] }, type := 22, pos := "outright.go:48", after := #[{ on := 0, ground := Go.Ground.data }, { on := 8, ground := Go.Ground.data }], guard := none }) rfl (fun K hK => ?_) AllReadyH.nil
          (refine step_app (by rfl) (.tmp 46) (.tmp 54) (by rfl) w3.heap.size Ax (some ⟨wq.heap.size, 0, none⟩) m cx 2 2 _ [kd, 2 + (nd : Int)] (m + 2) _ rfl rfl (by rfl) (by rfl) HO8.out HR8.out (by omega) HB8.out.size ?_; intro A4 c4 w4 hown4 hgr4 hb4; have HK4 := Lib.hid ((grown_but hgr4).blk HK8.out (own_blk HO8.out HK8.out)); have HB4 := Lib.hid (HB8.out.trans hb4); have Hown4 := Lib.hid hown4)
          refine hK.out _ _ ?_ (fun hHeld => ?_)
          · exact Hsof.out _ HK4.out
          clear hK K
          (try simp only [Act.put, List.setIfInBounds_toArray, List.set_cons_zero, List.set_cons_succ])
          refine wpAnyH_ready (rs := [12]) (by kernel_rfl) (by simp) ?_
          refine AllReadyH.cons (o := { dst := some 58, op := Go.Op.call { callee := Go.Callee.builtin Go.Builtin.append, args := #[Go.Operand.tmp 55, Go.Operand.tmp 57], argTypes := #[22, 22] }, type := 22, pos := "outright.go:48", after := #[{ on := 9, ground := Go.Ground.data }, { on := 11, ground := Go.Ground.data }, { on := 9, ground := Go.Ground.chain }], guard := none }) rfl (fun K hK => ?_) AllReadyH.nil
          (refine step_app (by rfl) (.tmp 55) (.tmp 57) (by rfl) w3.heap.size A4 Ad (m + 2) c4 nd cd _ d (m + 2 + nd) _ rfl rfl (by rfl) (by rfl) Hown4.out (Hrd.out.below HB4.out) (by omega) HB4.out.size ?_; intro A5 c5 w5 hown5 hgr5 hb5; have HK5 := Lib.hid ((grown_but hgr5).blk HK4.out (own_blk Hown4.out HK4.out)); have HB5 := Lib.hid (HB4.out.trans hb5))
          refine hK.out _ _ ?_ (fun hHeld => ?_)
          · exact Hsof.out _ HK5.out
          clear hK K
          (try simp only [Act.put, List.setIfInBounds_toArray, List.set_cons_zero, List.set_cons_succ])
          refine wpAnyH_take (i := 13) (oi := { dst := some 7, op := Go.Op.assign (Go.Operand.tmp 58), type := 22, pos := "outright.go:48", after := #[{ on := 12, ground := Go.Ground.data }, { on := 12, ground := Go.Ground.chain }, { on := 0, ground := Go.Ground.phase }, { on := 1, ground := Go.Ground.phase }, { on := 2, ground := Go.Ground.phase }, { on := 3, ground := Go.Ground.phase }, { on := 4, ground := Go.Ground.phase }, { on := 5, ground := Go.Ground.phase }, { on := 6, ground := Go.Ground.phase }, { on := 7, ground := Go.Ground.phase }, { on := 8, ground := Go.Ground.phase }, { on := 9, ground := Go.Ground.phase }, { on := 10, ground := Go.Ground.phase }, { on := 11, ground := Go.Ground.phase }, { on := 12, ground := Go.Ground.phase }], guard := none }) (v := ?_) rfl (by kernel_rfl) (by kernel_rfl) (by kernel_rfl) (fun _ _ _ h => h) (Or.inl ⟨by rfl, ?_⟩) (by assumption) ?_
          rotate_left 1
          · intro w' hSw; (go_simp <;> (with_reducible rfl))
          (try simp only [Act.put, List.setIfInBounds_toArray, List.set_cons_zero, List.set_cons_succ])
          refine wpAnyH_done (by kernel_rfl) ?_ _
          have Hown5 := Lib.hid hown5
          rw [← Hby.out] at Hown5
          clear hown5 hgr5 hb5 hown4 hgr4 hb4
          go_wp2_with fail
          go_roundg (gk - 1)
          case measure => have := hgk.out; omega
          case rel => exact ⟨j + 1, m + 2 + nd, A5, c5, by have := hgk.out; show gk - 1 + (j + 1) = _; omega, by omega, by omega, rfl, by go_num, Hown5, Hok2, HB5.out⟩
    · obtain rfl : ka = j := by omega
      have ho := hown.out
      have hok' := hok.out
      rw [List.take_of_length_le (by rw [Hla.out]; omega)] at ho hok'
      have Hbadl := Lib.hid hok'
      have Hbytes := Lib.hid (show ∀ x ∈ bytesO la, 0 ≤ x ∧ x < 256 from bytesO_bytes (fun l hl => HA3.out.2.byte l hl) (fun l hl => (badB_false (by rw [List.any_eq_false] at hok'; simpa using hok' l hl)).2))
      have Hka2 := Lib.hid (show ∀ l ∈ la, 2 ≤ l.1 from fun l hl => (badB_false (by rw [List.any_eq_false] at hok'; simpa using hok' l hl)).1)
      obtain ⟨X, eX⟩ : ∃ X, bytesO la = X := ⟨_, rfl⟩
      have EX := Lib.hid eX
      rw [eX] at ho Hbytes
      have Ho := Lib.hid ho
      obtain ⟨w4, ew4⟩ : ∃ w4, wr = w4 := ⟨_, rfl⟩
      rw [ew4] at Ho hb
      have Hb4 := Lib.hid hb
      clear hown hok hok' ho eX hb
      go_wp2_with fail
      clear ew4
      have hba4 : Below w4.heap.size w4 (w4.alloc (.cells #[.int .u8 1] 5)) := (Below.refl _ _).alloc (Nat.le_refl _) _
      refine (repeat_any r w4.heap.size 1 _ _ hr3 (by first | rfl | exact hr) (Rd.const_ w4 w4.heap.size rfl [1] 5 (0, 0) (by decide))).mono ?_
      rintro e w5 ⟨A5, c5, rfl, hrc5, hr5, hb5⟩
      have hb45 := below_trans hba4 hb5
      have HO5 := Lib.hid (Ho.out.on hb45)
      have HR5 := Lib.hid hr5
      have HB5 := Lib.hid (Hb4.out.trans (hb45.mono (B' := w3.heap.size) Hb4.out.size))
      clear hba4 hb5 hb45 hr5
      go_wp2_with (refine wpList_app rfl (.tmp 60) (.tmp 65) rfl w3.heap.size Ax A5 m cx r c5 X (List.replicate r 1) rfl rfl HO5.out HR5.out (by omega) HB5.out.size ?_; intro A6 c6 w6 hown6 _ hb6 _)
      have hXR : ∀ x ∈ X ++ List.replicate r 1, 0 ≤ x ∧ x < 256 := bytes_app_ Hbytes.out (fun x hx => by rw [List.eq_of_mem_replicate hx]; omega)
      obtain ⟨mx, emx⟩ : ∃ mx, m + r = mx := ⟨_, rfl⟩
      obtain ⟨XR, eXR⟩ : ∃ XR, X ++ List.replicate r 1 = XR := ⟨_, rfl⟩
      rw [eXR] at hXR
      have HX6 := Lib.hid (show OwnB w6 w3.heap.size A6 mx c6 XR by rw [← emx, ← eXR]; exact hown6)
      have HXR := Lib.hid hXR
      have HB6 := Lib.hid (HB5.out.trans hb6)
      have hm160 : m ≤ 160 := by omega
      have hmx : mx ≤ 200 := by omega
      have hcx := HX6.out.cap
      have hcxm := HX6.out.capMax
      have EXR := Lib.hid eXR
      have EMX := Lib.hid emx
      simp only [emx]
      clear hown6 hb6 HO5 HR5 HB5 Ho Hb4 hXR eXR emx
      have hkb20 : kb ≤ 1000000 := by omega
      have HLB6 := Lib.hid (HB3.out.on HB6.out)
      by_cases hany : lb.any badB = true
      · have Hput := Lib.hid (put_arg A3 kb c3 osb lb w6 hkb20 HLB6.out hany)
        clear hany
        refine Hput.out.mono ?_
        rintro e w7 ⟨rfl, hb7⟩
        have Hb7 := Lib.hid (below_trans HB6.out hb7)
        clear hb7
        go_wp2_with fail
        refine (awake_any _).mono ?_
        rintro e w9 ⟨rfl, hb9⟩
        have Hb9 := Lib.hid (below_trans Hb3.out (below_trans Hb7.out hb9))
        clear hb9
        go_wp2_with fail
        go_ret
        exact ⟨rfl, Hb9.out⟩
      · have hany' : lb.any badB = false := by simpa using hany
        by_cases hlong : 40 < (bytesO lb).length
        · have Hput := Lib.hid (put_long A3 kb c3 osb lb w6 hkb20 HLB6.out hany' hlong)
          clear hany hany' hlong
          refine Hput.out.mono ?_
          rintro e w7 ⟨rfl, hb7⟩
          have Hb7 := Lib.hid (below_trans HB6.out hb7)
          clear hb7
          go_wp2_with fail
          refine (awake_any _).mono ?_
          rintro e w9 ⟨rfl, hb9⟩
          have Hb9 := Lib.hid (below_trans Hb3.out (below_trans Hb7.out hb9))
          clear hb9
          go_wp2_with fail
          go_ret
          exact ⟨rfl, Hb9.out⟩
        · obtain ⟨Y, eY⟩ : ∃ Y, padTo4 (bytesO lb) = Y := ⟨_, rfl⟩
          obtain ⟨YN, eYN⟩ : ∃ YN, Y.length = YN := ⟨_, rfl⟩
          have Hput := Lib.hid (put_got A3 kb c3 YN osb lb Y w6 hkb20 HLB6.out hany' (by omega) eY eYN)
          have hYN : YN ≤ 43 := by have := (padTo4_len (bytesO lb)).2.2; rw [eY, eYN] at this; omega
          have Hpp := Lib.hid (fun h40 => parse_parts (r := r) Hka2.out hany' (by omega) h40)
          rw [eY, EX.out, EXR.out] at Hpp
          have EYN := Lib.hid eYN
          clear hany hany' hlong eY eYN
          refine Hput.out.mono ?_
          rintro e w7 ⟨A7, c7, rfl, hr7, hb7⟩
          have Hr7 := Lib.hid hr7
          have HX7 := Lib.hid (HX6.out.on hb7)
          have Hb7 := Lib.hid (below_trans HB6.out hb7)
          have hws : IntKind.i64.wrap ((mx : Int) + (YN : Int)) = (mx : Int) + (YN : Int) := IntWalk.i64_in _ (by omega)
          clear hr7 hb7 HX6 HB6 HLB6 Hput
          by_cases h40 : 40 < mx + YN
          · have h40i : 40 < (mx : Int) + (YN : Int) := by omega
            go_wp2_with fail
            refine (awake_any _).mono ?_
            rintro e w9 ⟨rfl, hb9⟩
            have Hb9 := Lib.hid (below_trans Hb3.out (below_trans Hb7.out hb9))
            clear hb9
            go_wp2_with fail
            go_ret
            exact ⟨rfl, Hb9.out⟩
          · have h40i : (mx : Int) + (YN : Int) ≤ 40 := by omega
            have Hparse := Lib.hid (Hpp.out (by rw [List.length_append, HX7.out.len, EYN.out]; omega))
            clear Hpp h40
            have hba : Below w7.heap.size w7 (w7.alloc (.cells #[] 5)) := (Below.refl _ _).alloc (Nat.le_refl _) _
            have Ho8 := Lib.hid (OwnB.made (w := w7.alloc (.cells #[] 5)) (B := w7.heap.size) (g := w7.heap.size) (cap := 0) (cur := #[]) (heap_alloc_new w7 _) (Nat.le_refl _) (by simp [maxLen]) rfl)
            have HX8 := Lib.hid ((HX7.out.rd HXR.out).below hba)
            have Hba := Lib.hid hba
            clear hba
            go_wp2_with (first | (refine wpList_app rfl (.tmp 84) (.tmp 85) rfl w7.heap.size _ A6 0 0 mx c6 [] XR rfl rfl Ho8.out HX8.out (by omega) (by simp) ?_; intro A8 c8 w8 hown8 _ hb8 _; have hown8' : OwnB w8 w7.heap.size A8 mx c8 XR := by { simpa using hown8 }; have hb8' := Hba.out.trans hb8; have hr8 := Hr7.out.below hb8') | (refine wpList_app rfl (.tmp 86) (.tmp 87) rfl w7.heap.size A8 A7 mx c8 YN c7 XR Y rfl rfl hown8' hr8 (by omega) hb8'.size ?_; intro A9 c9 w9 hown9 _ hb9 _))
            have hb79 := hb8'.trans hb9
            have Hb9 := Lib.hid (below_trans Hb7.out hb79)
            have HX9 := Lib.hid (HX7.out.on hb79)
            have hYb : ∀ y ∈ Y, 0 ≤ y ∧ y < 256 := Hr7.out.byte
            have Hr9 := Lib.hid (hown9.rd (bytes_app_ HXR.out hYb))
            clear hown8 hown8' hb8 hb8' hr8 hown9 hb9 hb79 Ho8 HX8 Hba HX7 Hr7 Hb7 hYb
            refine (parse_got A9 (mx + YN) c9 (XR ++ Y) (la ++ lb) 0 w9 Hparse.out (by omega) Hr9.out).mono ?_
            rintro e w10 ⟨A10, m10, c10, os10, hm10, hm10b, rfl, hL10, hb10⟩
            have HL10 := Lib.hid hL10
            have HX10 := Lib.hid (HX9.out.on hb10)
            have Hb10 := Lib.hid (below_trans Hb9.out hb10)
            clear hL10 hb10 HX9 Hb9 Hr9 hm10
            have hba : Below w10.heap.size w10 (w10.alloc (.cells #[] 31)) := (Below.refl _ _).alloc (Nat.le_refl _) _
            have Ho11 := Lib.hid (OwnO.made (w := w10.alloc (.cells #[] 31)) (B := w10.heap.size) (g := w10.heap.size) (cap := 0) (cur := #[]) (heap_alloc_new w10 _) (Nat.le_refl _) (by simp [maxLen]) rfl)
            have HAx := Lib.hid ((HA3.out.on Hb10.out).on hba)
            have Hba := Lib.hid hba
            clear hba
            go_wp2_with (first | (refine wpList_appOG rfl (.tmp 96) (.tmp 97) rfl w10.heap.size _ A2 0 0 ka c2 [] osa rfl rfl Ho11.out HAx.out.1 (by omega) (by simp) ?_; intro A11 c11 w11 hown11 hb11; have hown11' : OwnO w11 w10.heap.size A11 ka c11 osa := by { simpa using hown11 }; have hb11' := Hba.out.trans hb11; have hr11 := (HB3.out.on Hb10.out).on hb11') | (refine wpList_appOG rfl (.tmp 98) (.tmp 99) rfl w10.heap.size A11 A3 ka c11 kb c3 osa osb rfl rfl hown11' hr11.1 (by omega) hb11'.size ?_; intro A12 c12 w12 hown12 hb12))
            have hb1012 := hb11'.trans hb12
            have HL12 := Lib.hid (show LO w12 A12 (ka + kb) (osa ++ osb) (la ++ lb) from ⟨hown12.rd, (((HA3.out.on Hb10.out).on hb1012).2).app (((HB3.out.on Hb10.out).on hb1012).2)⟩)
            have HM12 := Lib.hid (HL10.out.on hb1012)
            have HX12 := Lib.hid (HX10.out.on hb1012)
            have Hb12 := Lib.hid (below_trans Hb10.out hb1012)
            clear hown11 hown11' hb11 hb11' hr11 hown12 hb12 hb1012 Ho11 HAx Hba HX10 HL10 Hb10
            refine (same_any A10 A12 m10 c10 (ka + kb) c12 os10 (osa ++ osb) (la ++ lb) (la ++ lb) w12 hm10b HM12.out.1 HM12.out.2 HL12.out.1 HL12.out.2).mono ?_
            rw [decide_eq_true (rfl : la ++ lb = la ++ lb)]
            rintro e w13 ⟨rfl, hb13⟩
            have HX13 := Lib.hid (HX12.out.on hb13)
            have Hb13 := Lib.hid (below_trans Hb12.out hb13)
            have Hmx := Lib.hid (show mx = X.length + r by have h := HX13.out.len; rw [← EXR.out, List.length_append, List.length_replicate] at h; omega)
            clear hb13 HM12 HL12 HX12 Hb12 Hparse
            by_cases hr0 : r = 0
            · subst hr0
              by_cases hka00 : ka = 0
              · have hla0 : la = [] := List.eq_nil_of_length_eq_zero (by rw [Hla.out]; exact hka00)
                have hmx0 : mx = 0 := by rw [Hmx.out, ← EX.out, hla0]; rfl
                subst hmx0
                go_wp2_with fail
                refine (awake_any _).mono ?_
                rintro e w9 ⟨rfl, hb9⟩
                have Hb9 := Lib.hid (below_trans Hb3.out (below_trans Hb13.out hb9))
                clear hb9
                go_wp2_with fail
                go_ret
                exact ⟨rfl, Hb9.out⟩
              · have hne : la ≠ [] := by intro h; rw [h] at Hla; exact hka00 Hla.out.symm
                have hpos : 0 < mx := by have h := bytesO_ne hne; rw [EX.out] at h; rw [Hmx.out]; omega
                have hmx0 : ((mx : Int) == 0) = false := by simp; omega
                have hka0' : ((ka : Int) == 0) = false := by simp; omega
                obtain ⟨mp, emp⟩ : ∃ mp, mx = mp + 1 := ⟨mx - 1, by omega⟩
                have hwm : IntKind.i64.wrap ((mx : Int) - 1) = (mp : Int) := by rw [emp, show (((mp + 1 : Nat) : Int) - 1) = (mp : Int) by omega]; exact IntWalk.i64_in _ (by omega)
                have hmp1 : (mp : Int) ≤ (c6 : Int) := by omega
                have hmp0 : (0 : Int) ≤ (mp : Int) := by omega
                have hmp2 : mp ≤ c6 := by omega
                have hXX : XR = X := by rw [← EXR.out]; simp
                have hlx : X.length = mp + 1 := by have h := Hmx.out; omega
                have hcut := parse_cut Hka2.out hne (by rw [EX.out]; omega)
                rw [EX.out, List.dropLast_eq_take, hlx, Nat.add_sub_cancel] at hcut
                have hrd := (HX13.out.rd HXR.out).take (k := mp) (by omega)
                rw [hXX] at hrd
                have Hp := Lib.hid (parse_got A6 mp c6 (X.take mp) [] 4 w13 hcut (by omega) hrd)
                clear hcut hrd hXX hlx emp hka00 hne hpos
                go_wp2_with fail
                refine Hp.out.mono ?_
                rintro e w14 ⟨A14, m14, c14, os14, hm14, hm14b, rfl, hL14, hb14⟩
                have Hb14 := Lib.hid (below_trans Hb13.out hb14)
                clear hL14 hb14
                go_wp2_with fail
                refine (awake_any _).mono ?_
                rintro e w9 ⟨rfl, hb9⟩
                have Hb9 := Lib.hid (below_trans Hb3.out (below_trans Hb14.out hb9))
                clear hb9
                go_wp2_with fail
                go_ret
                exact ⟨rfl, Hb9.out⟩
            · have hr0i : 0 < (r : Int) := by omega
              have hmx0 : ((mx : Int) == 0) = false := by have := Hmx.out; simp; omega
              go_wp2_with fail
              refine (awake_any _).mono ?_
              rintro e w9 ⟨rfl, hb9⟩
              have Hb9 := Lib.hid (below_trans Hb3.out (below_trans Hb13.out hb9))
              clear hb9
              go_wp2_with fail
              go_ret
              exact ⟨rfl, Hb9.out⟩
theorem own : ownKnob Try.prog.godebug = none := by kernel_rfl
theorem laidOut : laidOutB Try.prog = true := by kernel_rfl

set_option maxRecDepth 100000 in
theorem lifted (os : Os) (started : os.Started) (H : Type) (enc : TypeId × Value → H) :
    ReturnsInHanded {} Try.checked os 7 .any (Rows.optsPartsSpec.pre6 enc Try.prog Try.f7 Rows.optsPartsRow.domain false) (Rows.optsPartsSpec.post enc Try.prog Try.f7 false true false false) := by
  refine returnsInHanded_of_change (C := Try.checked) own started (by kernel_rfl) Try.func7
    (ChangeSpec.witness6 (enc := enc) (C := Try.checked) false ⟨#[], #[(.slice none 0 0), (.slice none 0 0), .int .u8 0], []⟩ 8 (by kernel_rfl) (by kernel_rfl) (by kernel_rfl) (by kernel_rfl)) ?_
  intro W base args ds gs before hval0 hW hcnd _
  have hval : ∀ (j : Nat) t v, Try.f7.params[j]? = some t → args[j]? = some v → Value.okWide Try.prog W .any base t v := hval0
  have hW' := hW
  obtain ⟨p, q, hA0, hV, rfl, hfz, hnd⟩ := hW
  have hA : DataW.TrodAll enc Try.prog W 0 (fun _ => true) true Try.f7.params.toList args.toList ds p := hA0
  rw [Try.params7] at hA hval
  obtain ⟨v0, vs0, d0, ds0, p0, q0, hargs, rfl, rfl, h0, r0⟩ := trodAll_cons hA
  obtain ⟨v1, vs1, d1, ds1, p1, q1, rfl, rfl, rfl, h1, r1⟩ := trodAll_cons r0
  obtain ⟨v2, vs2, d2, ds2, p2, q2, rfl, rfl, rfl, h2, r2⟩ := trodAll_cons r1
  obtain ⟨rfl, rfl, rfl⟩ := trodAll_nil r2
  obtain rfl : args = #[v0, v1, v2] := by cases args; simp_all
  obtain ⟨rfl, rfl⟩ := trodVars_none hV
  have k0 := opts_open (hval 0 23 v0 rfl rfl) h0
  have lt0 : ∀ x ∈ p0, x.block < W.heap.size := by obtain ⟨m, hm⟩ := h0; exact DataW.trod_lt m _ _ _ hm
  have k1 := opts_open (hval 1 23 v1 rfl rfl) h1
  have lt1 : ∀ x ∈ p1, x.block < W.heap.size := by obtain ⟨m, hm⟩ := h1; exact DataW.trod_lt m _ _ _ hm
  obtain ⟨a2, rfl, rfl, rfl, w2⟩ := open_int Try.underlying5 (hval 2 5 v2 rfl rfl) h2
  clear hA0 hval0
  refine (walk W v0 k0 v1 k1 a2 w2).mono fun e W' ⟨he, bel⟩ => ?_
  subst he
  exact ⟨_, rfl, _, _, _, [], _, [], hW', trodAll_mk1 (shut_bool Try.underlying4 _), (trodAll_cons_mk (Below.trod laidOut (by kernel_rfl) (of_decide_eq_true (by kernel_rfl)) h0 bel lt0) (trodAll_cons_mk (Below.trod laidOut (by kernel_rfl) (of_decide_eq_true (by kernel_rfl)) h1 bel lt1) (trodAll_cons_mk (shut_int Try.underlying5 w2) trodAll_mk0))), rfl, bel.frame _, fun h => by cases h⟩

theorem over : Rows.optsPartsRow.holds Try.pinned (OpenSpec.ofChange Rows.optsPartsSpec) :=
  OpenClaim.holds_of_wide 7 Try.f7 rfl rfl rfl rfl rfl rfl rfl ⟨rfl, rfl, rfl, rfl, rfl⟩ rfl rfl rfl rfl rfl (by kernel_rfl) Try.func7 (by kernel_rfl)
    (of_decide_eq_true (by kernel_rfl)) (by unfold Func.isWrapper; first | (rw [if_pos (by decide +kernel)]; kernel_rfl) | (rw [if_neg (by decide +kernel)]; exact ⟨rfl, rfl⟩))
    (fun os started H enc _ => lifted os started H enc)

/-- The statement. -/
theorem proved : Rows.OptsPartsSaid := over
#print axioms proved
end Go.Proofs.Ytikfklbgncdbnaa.optsParts
