/-
  The contract of package wheel's due.
-/
import Derived.Test.YtlpgabbnldalhaaWhlPure
import Derived.Test.YtlpgabbnldalhaaAlmSort
import Derived.Deep.CutRange
import Derived.BigQuiet
import Derived.OwnWalk
namespace Go.Proofs.Ytlpgabbnldalhaa
set_option maxRecDepth 10000
open Go.RowKit
set_option linter.unusedSimpArgs false
set_option linter.unusedVariables false

theorem WMem.within {w : World} {S S' : Nat → Prop} {g m : Nat} {C : Array Value} {hs : Nat → Value} {ck : Int} {sl : Nat → AL} {K : Int → Prop} {R : Int → Value} (h : WMem w S' g m C hs ck sl K R) (hS : ∀ k, S' k → S k) (hl : ∀ k, S k → k < w.heap.size) : WMem w S g m C hs ck sl K R :=
  ⟨h.box, h.size, h.c0, h.c1, h.c2, h.cs, h.map, h.row, h.apart, hS _ h.sg, hS _ h.sm, fun j b hj hb => hS _ (h.sr j b hj hb), hl⟩
theorem WMem.lists {w : World} {S : Nat → Prop} {g m : Nat} {C : Array Value} {hs : Nat → Value} {ck : Int} {sl sl' : Nat → AL} {K : Int → Prop} {R : Int → Value} (h : WMem w S g m C hs ck sl K R) (he : ∀ j, j < 64 → sl j = sl' j) : WMem w S g m C hs ck sl' K R :=
  ⟨h.box, h.size, h.c0, h.c1, h.c2, h.cs, h.map, fun j hj => by rw [← he j hj]; exact h.row j hj, h.apart, h.sg, h.sm, h.sr, h.lt⟩
theorem WMem.keys {w : World} {S : Nat → Prop} {g m : Nat} {C : Array Value} {hs : Nat → Value} {ck : Int} {sl : Nat → AL} {K K' : Int → Prop} {R R' : Int → Value} (h : WMem w S g m C hs ck sl K R) (hK : ∀ e, K e ↔ K' e) (hR : ∀ e, K e → R e = R' e) : WMem w S g m C hs ck sl K' R' :=
  ⟨h.box, h.size, h.c0, h.c1, h.c2, h.cs, h.map.congr hK hR, h.row, h.apart, h.sg, h.sm, h.sr, h.lt⟩
/-- The lists, of which the first j have been cut. -/
def cutW (ck : Int) (sl : Nat → AL) (j : Nat) : Nat → AL := fun i => if i < j then leftW ck (sl i) else sl i
theorem cutW_succ (ck : Int) (sl : Nat → AL) (j : Nat) : upd (cutW ck sl j) j (leftW ck (sl j)) = cutW ck sl (j + 1) := by
  funext i
  unfold upd cutW
  by_cases e : i = j
  · subst e
    simp
  · rw [if_neg e]
    by_cases h : i < j
    · rw [if_pos h, if_pos (by omega)]
    · rw [if_neg h, if_neg (by omega)]
theorem cutW_at (ck : Int) (sl : Nat → AL) (j : Nat) : cutW ck sl j j = sl j := if_neg (by omega)
theorem cat_len {f : Nat → AL} {b : Nat} (h : ∀ j, (f j).length ≤ b) (n : Nat) : (catW f n).length ≤ n * b := by
  induction n with
  | zero => simp [catW]
  | succ n ih =>
    have := h n
    simp only [catW, List.length_append, Nat.add_mul, Nat.one_mul]
    omega
/-- What due tells and leaves. -/
def DueIs (S : Nat → Prop) (g m : Nat) (ck : Int) (sl : Nat → AL) (K : Int → Prop) (R : Int → Value) (w : World) (e : Ending) (w' : World) : Prop :=
  ∃ A c M C' hs', e = .returned (.slice A M.length c) ∧ M.Perm (catW (fun j => dueW ck (sl j)) 64) ∧ (∀ i j, i < j → j < M.length → ¬ befW (M.getD j (0, 0)) (M.getD i (0, 0))) ∧ SlV w' 65 2 (.slice A M.length c) M.length (flatA M) ∧
    (∀ b, (Value.slice A M.length c).ownBlock = some b → w.heap.size ≤ b) ∧ WMem w' S g m C' hs' ck (fun j => leftW ck (sl j)) K R ∧ But S w w'
/-- What the walk of due knows of the lists at slot j. -/
structure DueAt (S : Nat → Prop) (g m : Nat) (ck : Int) (sl D : Nat → AL) (K : Int → Prop) (R : Int → Value) (w : World) (j : Nat) (A : Option Addr) (c : Nat) (M : AL) (Cj : Array Value) (hj : Nat → Value) (wr : World) : Prop where
  eq : M = catW D j
  row : SlV wr 65 2 (.slice A M.length c) M.length (flatA M)
  own : ∀ b, (Value.slice A M.length c).ownBlock = some b → w.heap.size ≤ b
  mem : WMem wr S g m Cj hj ck (cutW ck sl j) K R
  but : But S w wr
theorem due_step {S : Nat → Prop} {g m : Nat} {ck : Int} {sl D : Nat → AL} {K : Int → Prop} {R : Int → Value} {w wo : World} {j : Nat} {A : Option Addr} {c : Nat} {M : AL} {Cj : Array Value} {hv : Nat → Value} (h : DueAt S g m ck sl D K R w j A c M Cj hv wo)
    (hlt : ∀ k, S k → k < w.heap.size) (hD : (fun j => dueW ck (sl j)) = D) (hb : ∀ j, (dueW ck (sl j)).length ≤ 1000000) (hjn : j < 64) {A2 : Option Addr} {c2 n i : Nat} (ev : hv j = .slice A2 n c2) (en : (sl j).length = n) (le : i ≤ n) (hnb : n ≤ 1000000)
    (hT : ∀ t, t < i → decide (((sl j).getD t (0, 0)).2 ≤ ck) = true) (hN : i = (sl j).length ∨ (fun b : Int × Int => decide (b.2 ≤ ck)) ((sl j).getD i (0, 0)) = false) (wi : World) (hwi : ∃ q, wi = wo.drewN q) :
    ∃ A3 c3 A4 c4 w4 A5 c5 w6, (∀ W : World, (Instr.slice 57 (.slice A2 n c2) none (some (.int .i64 (i : Int))) none).run Try.prog W = .ok (.slice A3 i c3) W) ∧
      (Builtin.append_ #[57, 57] 57 #[.slice A M.length c, .slice A3 i c3]).run Try.prog wi = .ok (.slice A4 (M.length + i) c4) w4 ∧
      (∀ W : World, (Instr.slice 57 (.slice A2 n c2) (some (.int .i64 (i : Int))) none none).run Try.prog W = .ok (.slice A5 (n - i) c5) W) ∧
      w4.drew.cell? ⟨g, 3 + j, none⟩ = some (hv j) ∧ w4.drew.frozen? ⟨g, 3 + j, none⟩ = false ∧ w4.drew.setCell ⟨g, 3 + j, none⟩ (.slice A5 (n - i) c5) = w6 ∧
      ∃ M' Cj' hj', M'.length = M.length + i ∧ DueAt S g m ck sl D K R w (j + 1) A4 c4 M' Cj' hj' w6 := by
  obtain ⟨hM, hS, hO, hW, hB⟩ := h
  obtain ⟨q, ewi⟩ := hwi
  have hRow := hW.row j hjn
  rw [cutW_at, ev, en] at hRow
  have hBi : But (fun _ => False) wo wi := by rw [ewi]; exact (But.refl _ _).drewN _
  have hWi := hW.but hBi (fun _ _ x => x)
  have hSi := hS.but hBi (fun _ _ x => x)
  have hRi := hRow.but hBi (fun _ _ x => x)
  clear ewi
  obtain ⟨hT1, hT2⟩ := takeWhile_at (p := fun b : Int × Int => decide (b.2 ≤ ck)) (sl j) (by rw [en]; exact le) hT hN
  obtain ⟨A3, c3, hcT, hsT, hoT⟩ := sv_to (P := Try.prog) Try.underlying57 info_walarm hRi (k := i) le
  have hMl : M.length ≤ 64 * 1000000 := by
    rw [hM]
    refine Nat.le_trans (cat_len (b := 1000000) (fun t => ?_) j) (Nat.mul_le_mul_right _ (Nat.le_of_lt hjn))
    rw [← hD]
    exact hb t
  obtain ⟨A4, c4, w4, hr4, hs4, hb4, ho4, ha4⟩ := sv_app (P := Try.prog) wi 57 57 65 _ 2 16 Try.underlying57 info_walarm (by omega) rfl _ _ M.length i _ _ hSi hsT (fun u hu => flatA_one (sl j) u (List.mem_of_mem_take hu)) (by omega)
  have hO4 : ∀ b, (Value.slice A4 (M.length + i) c4).ownBlock = some b → w.heap.size ≤ b := fun b hb => by
    rcases ho4 with e | e
    · exact hO b (by rw [← e]; exact hb)
    · have e2 : b = wi.heap.size := Option.some.inj (hb.symm.trans e)
      have h1 := hB.size
      have h2 := hBi.size
      omega
  have hW4 := (hWi.but hb4 (fun k hk e => by have := hlt k hk; have := hO k e; omega)).but (T := fun _ => False) (But.refl (fun _ => False) w4).drew (fun _ _ x => x)
  have hB4 : But S w w4.drew := ((hB.trans (hBi.mono (fun _ _ x => x.elim))).trans2 hb4 (fun k hk e => by have := hO k e; omega)).drew
  obtain ⟨A5, c5, hcF, hsF, hoF⟩ := sv_from (P := Try.prog) Try.underlying57 info_walarm hRi (k := i) le
  have hRo : ∀ b, (Value.slice A2 n c2).ownBlock = some b → S b := fun b hb => hW.sr j b hjn (by rw [ev]; exact hb)
  have hlL : (leftW ck (sl j)).length = n - i := by unfold leftW; rw [hT2, List.length_drop, en]
  have hfL : flatA (leftW ck (sl j)) = (flatA (sl j)).drop (i * 2) := by unfold leftW; rw [hT2, flatA_drop]
  have hsF4 : SlV w4.drew 65 2 (.slice A5 (n - i) c5) (leftW ck (sl j)).length (flatA (leftW ck (sl j))) := by
    rw [hlL, hfL]
    exact (hsF.but hb4 (fun b hb e => by have h1 := hlt b (hRo b (hoF ▸ hb)); have := hO b e; omega)).but (S := fun _ => False) (But.refl (fun _ => False) w4).drew (fun _ _ x => x)
  obtain ⟨hM6, hB6, hS6⟩ := hW4.lay hjn (But.refl _ _) hsF4 (fun b hb => .inl (by rw [ev, ← hoF]; exact hb))
  rw [cutW_succ] at hM6
  have hM6b := hM6.within (S := S) (fun k hk => by
    rcases hk with hk | hk
    · exact hk
    · exact hRo k (hoF ▸ hk)) (fun k hk => (hB4.trans hB6).lt (hlt k hk))
  have hg6 : But (fun k => k = g) w4.drew (w4.drew.setCell ⟨g, 3 + j, none⟩ (.slice A5 (n - i) c5)) := (But.refl (fun k => k = g) w4.drew).setCell (p := ⟨g, 3 + j, none⟩) rfl _
  have hlen6 : (M ++ dueW ck (sl j)).length = M.length + i := by unfold dueW; rw [hT1, List.length_append, List.length_take, en]; omega
  have hfl6 : flatA (M ++ dueW ck (sl j)) = flatA M ++ (flatA (sl j)).take (i * 2) := by unfold dueW; rw [hT1, flatA_append, flatA_take]
  refine ⟨A3, c3, A4, c4, w4, A5, c5, _, hcT, hr4, hcF, hW4.kj hjn, hW4.free (3 + j), rfl, M ++ dueW ck (sl j), _, _, hlen6, ⟨?_, ?_, ?_, hM6b, hB4.trans hB6⟩⟩
  · rw [hM, ← hD]; rfl
  · rw [hlen6, hfl6]
    refine ((hs4.but (S := fun _ => False) (But.refl (fun _ => False) w4).drew (fun _ _ x => x)).but hg6 (fun b hb e => ?_))
    have h1 := hO4 b hb
    have h2 := hlt g hW.sg
    omega
  · rw [hlen6]; exact hO4
set_option maxHeartbeats 2000000 in
theorem due_any (S : Nat → Prop) (g m : Nat) (C : Array Value) (hs : Nat → Value) (ck : Int) (sl : Nat → AL) (K : Int → Prop) (R : Int → Value) (w : World) (h : WMem w S g m C hs ck sl K R) (hb : ∀ j, (sl j).length ≤ 1000000) (hc : (catW (fun j => dueW ck (sl j)) 64).length ≤ 1000000) :
    Calls Try.prog 28 #[.pointer (some ⟨g, 0, none⟩)] w (DueIs S g m ck sl K R w) := by
  have hdb : ∀ j, (dueW ck (sl j)).length ≤ 1000000 := fun j => Nat.le_trans (dueW_le _ _) (hb j)
  have H := Lib.hid h
  have Hb := Lib.hid hb
  have Hdb := Lib.hid hdb
  have Hc := Lib.hid hc
  have HLt := Lib.hid h.lt
  obtain ⟨D, eD⟩ : ∃ D : Nat → AL, (fun j => dueW ck (sl j)) = D := ⟨_, rfl⟩
  have HD := Lib.hid eD
  have h0 : cutW ck sl 0 = sl := by funext i; exact if_neg (by omega)
  clear h hb hdb hc eD
  go_enter Try.func28, Try.ntmps28
  go_wp2_with fail
  go_loopg [2, 3, 4, 5, 6] 64 (fun gk x2 x3 x4 x5 x6 wr => ∃ (j : Nat) (A : Option Addr) (c : Nat) (M : AL) (Cj : Array Value) (hj : Nat → Value), Hid (gk + j = 64) ∧ j ≤ 64 ∧ x6 = .int .i64 (j : Int) ∧ x2 = .slice A M.length c ∧ Hid (DueAt S g m ck sl D K R w j A c M Cj hj wr))
  case atStart => exact ⟨0, none, 0, [], C, hs, rfl, Nat.zero_le _, rfl, rfl, Lib.hid ⟨rfl, .inl ⟨rfl, rfl, rfl⟩, fun b hb => (by cases hb), by rw [h0]; exact H.out, But.refl _ _⟩⟩
  case round =>
    obtain ⟨j, A, c, M, Cj, hv, hgk, hj, rfl, rfl, hR⟩ := hrel
    obtain rfl : gk = 64 - j := by have := hgk.out; omega
    obtain ⟨wo, hwo⟩ : ∃ wo, wo = wr := ⟨_, rfl⟩
    subst hwo
    clear hgk
    by_cases hjn : j < 64
    · have hrow := hR.out.mem.row j hjn
      rw [cutW_at] at hrow
      obtain ⟨A2, c2, ev⟩ := hrow.form
      have kj := hR.out.mem.kj hjn
      rw [ev] at kj hrow
      have hj1 : (j : Int) < 64 := by omega
      have hj0 : (0 : Int) ≤ (j : Int) := by omega
      obtain ⟨n, en⟩ : ∃ n, (sl j).length = n := ⟨_, rfl⟩
      rw [en] at kj hrow ev
      have hnb : n ≤ 1000000 := by rw [← en]; exact Hb.out j
      have Hrow := Lib.hid hrow
      have Hen := Lib.hid en
      have Hev := Lib.hid ev
      clear hrow en ev
      go_wp2_with fail
      go_loopg [5] n (fun gk x5 wr => ∃ (i q : Nat), Hid (gk + i = n) ∧ i ≤ n ∧ x5 = .int .i64 (i : Int) ∧ wr = wo.drewN q ∧ Hid (∀ t, t < i → decide (((sl j).getD t (0, 0)).2 ≤ ck) = true))
      case atStart => exact ⟨0, 0, rfl, Nat.zero_le _, rfl, rfl, Lib.hid (fun t ht => by omega)⟩
      case round =>
        obtain ⟨i, q, hgk, hi, rfl, rfl, hT⟩ := hrel
        have k1 := hR.out.mem.k1
        by_cases hin : i < n
        · obtain ⟨g2, o, rfl, hidx, c0, c1, hg2⟩ := sal_index Hrow.out Hen.out hin
          obtain ⟨a, ea⟩ : ∃ a, (sl j).getD i (0, 0) = a := ⟨_, rfl⟩
          rw [ea] at c0 c1
          have hin2 : (i : Int) < (n : Int) := by omega
          have hin3 : decide ((i : Int) < (n : Int)) = true := decide_eq_true hin2
          have hwr : IntKind.i64.wrap ((i : Int) + 1) = (i : Int) + 1 := by rw [IntKind.wrap_i64]; omega
          by_cases ha : a.2 ≤ ck
          · have had : decide (a.2 ≤ ck) = true := decide_eq_true ha
            have HT := Lib.hid (show ∀ t, t < i + 1 → decide (((sl j).getD t (0, 0)).2 ≤ ck) = true from fun t ht => by
              by_cases e : t = i
              · subst e; rw [ea]; exact had
              · exact hT.out t (by omega))
            clear ea
            go_wp2_with fail
            go_quiet (fail)
            go_wp2_with fail
            go_roundg (gk - 1)
            case measure => have := hgk.out; omega
            case rel => exact ⟨i + 1, q + nq, by have := hgk.out; show gk - 1 + (i + 1) = _; omega, by omega, by go_num, by first | rfl | rw [World.drewN_drewN], HT⟩
          · have had : decide (a.2 ≤ ck) = false := decide_eq_false ha
            have HN := Lib.hid (show i = (sl j).length ∨ (fun b : Int × Int => decide (b.2 ≤ ck)) ((sl j).getD i (0, 0)) = false from .inr (by rw [ea]; exact had))
            clear ea
            go_wp2_with fail
            go_quiet (fail)
            go_upto_region 7 with (fail)
            obtain ⟨wi, ewi⟩ : ∃ wi, wo.drewN (q + nq) = wi := ⟨_, rfl⟩
            first | rw [ewi] | (rw [World.drewN_drewN]; rw [ewi])
            obtain ⟨A3, c3, A4, c4, w4, A5, c5, w6, hcT, hr4, hcF, kj4, fr4, ew6, M', Cj', hj', hlen6, hNext⟩ := due_step hR.out HLt.out HD.out Hdb.out hjn Hev.out Hen.out (Nat.le_of_lt hin) hnb hT.out HN.out wi ⟨_, ewi.symm⟩
            obtain ⟨wd, ewd⟩ : ∃ wd, w4.drew = wd := ⟨_, rfl⟩
            rw [ewd] at kj4 fr4 ew6
            try simp only [Nat.sub_self] at ew6 hcF
            have Hr4 := Lib.hid hr4
            have Ew6 := Lib.hid ew6
            have Ewd := Lib.hid ewd
            have Hlen6 := Lib.hid hlen6
            have HNext := Lib.hid hNext
            clear ewi ewd ew6 hr4 hlen6 hNext
            go_wp2_with (at_builtin; refine wpList_appX rfl (.tmp 33) (.tmp 36) _ _ rfl rfl _ _ _ w4 rfl rfl Hr4.out ?_)
            refine wp_region_held_drew (S := fun W => True) (by kernel_rfl) trivial (fun hHeld => ?_)
            rw [Ewd.out]
            refine wpAnyH_take (i := 0) (oi := { dst := some 38, op := Go.Op.move (Go.Operand.tmp 0), type := 24, pos := "wheel.go:180", after := #[], guard := none }) (v := ?_) rfl (by kernel_rfl) (by kernel_rfl) (by kernel_rfl) (fun _ _ _ h => h) (Or.inl ⟨by rfl, ?_⟩) (by assumption) ?_
            rotate_left 1
            · intro w' hSw; (go_simp <;> (with_reducible rfl))
            (try simp only [Act.put, List.setIfInBounds_toArray, List.set_cons_zero, List.set_cons_succ])
            refine wpAnyH_take (i := 1) (oi := { dst := some 39, op := Go.Op.move (Go.Operand.tmp 3), type := 3, pos := "wheel.go:180", after := #[], guard := none }) (v := ?_) rfl (by kernel_rfl) (by kernel_rfl) (by kernel_rfl) (fun _ _ _ h => h) (Or.inl ⟨by rfl, ?_⟩) (by assumption) ?_
            rotate_left 1
            · intro w' hSw; (go_simp <;> (with_reducible rfl))
            (try simp only [Act.put, List.setIfInBounds_toArray, List.set_cons_zero, List.set_cons_succ])
            refine wpAnyH_take (i := 2) (oi := { dst := some 40, op := Go.Op.move (Go.Operand.tmp 4), type := 57, pos := "wheel.go:180", after := #[], guard := none }) (v := ?_) rfl (by kernel_rfl) (by kernel_rfl) (by kernel_rfl) (fun _ _ _ h => h) (Or.inl ⟨by rfl, ?_⟩) (by assumption) ?_
            rotate_left 1
            · intro w' hSw; (go_simp <;> (with_reducible rfl))
            (try simp only [Act.put, List.setIfInBounds_toArray, List.set_cons_zero, List.set_cons_succ])
            refine wpAnyH_take (i := 3) (oi := { dst := some 41, op := Go.Op.move (Go.Operand.tmp 5), type := 3, pos := "wheel.go:180", after := #[], guard := none }) (v := ?_) rfl (by kernel_rfl) (by kernel_rfl) (by kernel_rfl) (fun _ _ _ h => h) (Or.inl ⟨by rfl, ?_⟩) (by assumption) ?_
            rotate_left 1
            · intro w' hSw; (go_simp <;> (with_reducible rfl))
            (try simp only [Act.put, List.setIfInBounds_toArray, List.set_cons_zero, List.set_cons_succ])
            refine wpAnyH_take (i := 4) (oi := { dst := some 42, op := Go.Op.slice 57 (Go.Operand.tmp 40) (some (Go.Operand.tmp 41)) none none, type := 57, pos := "wheel.go:180", after := #[{ on := 2, ground := Go.Ground.data }, { on := 3, ground := Go.Ground.data }], guard := none }) (v := ?_) rfl (by kernel_rfl) (by kernel_rfl) (by kernel_rfl) (fun _ _ _ h => h) (Or.inl ⟨by rfl, ?_⟩) (by assumption) ?_
            rotate_left 1
            · intro w' hSw; (go_simp <;> (with_reducible rfl))
            (try simp only [Act.put, List.setIfInBounds_toArray, List.set_cons_zero, List.set_cons_succ])
            refine wpAnyH_take (i := 5) (oi := { dst := some 43, op := Go.Op.nilCheck (Go.Operand.tmp 38), type := 0, pos := "wheel.go:180", after := #[{ on := 0, ground := Go.Ground.data }], guard := none }) (v := ?_) rfl (by kernel_rfl) (by kernel_rfl) (by kernel_rfl) (fun _ _ _ h => h) (Or.inl ⟨by rfl, ?_⟩) (by assumption) ?_
            rotate_left 1
            · intro w' hSw; (go_simp <;> (with_reducible rfl))
            (try simp only [Act.put, List.setIfInBounds_toArray, List.set_cons_zero, List.set_cons_succ])
            refine wpAnyH_take (i := 6) (oi := { dst := some 44, op := Go.Op.fieldAddr 60 (Go.Operand.tmp 43) 3, type := 0, pos := "wheel.go:180", after := #[{ on := 5, ground := Go.Ground.data }], guard := none }) (v := ?_) rfl (by kernel_rfl) (by kernel_rfl) (by kernel_rfl) (fun _ _ _ h => h) (Or.inl ⟨by rfl, ?_⟩) (by assumption) ?_
            rotate_left 1
            · intro w' hSw; (go_simp <;> (with_reducible rfl))
            (try simp only [Act.put, List.setIfInBounds_toArray, List.set_cons_zero, List.set_cons_succ])
            refine wpAnyH_take (i := 7) (oi := { dst := some 45, op := Go.Op.indexAddr 58 (Go.Operand.tmp 44) (Go.Operand.tmp 39), type := 0, pos := "wheel.go:180", after := #[{ on := 6, ground := Go.Ground.data }, { on := 1, ground := Go.Ground.data }, { on := 0, ground := Go.Ground.phase }, { on := 1, ground := Go.Ground.phase }, { on := 2, ground := Go.Ground.phase }, { on := 3, ground := Go.Ground.phase }, { on := 4, ground := Go.Ground.phase }], guard := none }) (v := ?_) rfl (by kernel_rfl) (by kernel_rfl) (by kernel_rfl) (fun _ _ _ h => h) (Or.inl ⟨by rfl, ?_⟩) (by assumption) ?_
            rotate_left 1
            · intro w' hSw; (go_simp <;> (with_reducible rfl))
            (try simp only [Act.put, List.setIfInBounds_toArray, List.set_cons_zero, List.set_cons_succ])
            refine wpAnyH_ready (rs := [8]) (by kernel_rfl) (by simp) ?_
            refine AllReadyH.cons (o := { dst := none, op := Go.Op.store 57 (Go.Operand.tmp 45) (Go.Operand.tmp 42), type := 0, pos := "wheel.go:180", after := #[{ on := 7, ground := Go.Ground.data }, { on := 4, ground := Go.Ground.data }, { on := 0, ground := Go.Ground.phase }, { on := 1, ground := Go.Ground.phase }, { on := 2, ground := Go.Ground.phase }, { on := 3, ground := Go.Ground.phase }, { on := 4, ground := Go.Ground.phase }], guard := none }) rfl (fun K hK => ?_) AllReadyH.nil
            go_simp
            skip
            refine hK.out _ _ ?_ (fun hHeld => ?_)
            · exact trivial
            clear hK K
            (try simp only [Act.put, List.setIfInBounds_toArray, List.set_cons_zero, List.set_cons_succ])
            refine wpAnyH_done (by kernel_rfl) ?_ _
            clear hHeld
            rw [Ew6.out]
            go_wp2_with fail
            go_roundg (64 - (j + 1))
            case measure => omega
            case rel => exact ⟨j + 1, A4, c4, M', Cj', hj', Lib.hid (by omega), by omega, by go_num, by rw [Hlen6.out], HNext⟩
        · obtain rfl : i = n := by omega
          have HN := Lib.hid (show i = (sl j).length ∨ (fun b : Int × Int => decide (b.2 ≤ ck)) ((sl j).getD i (0, 0)) = false from .inl Hen.out.symm)
          have hin3 : decide ((i : Int) < (i : Int)) = false := by simp
          go_wp2_with fail
          go_quiet (fail)
          go_upto_region 7 with (fail)
          obtain ⟨wi, ewi⟩ : ∃ wi, wo.drewN (q + nq) = wi := ⟨_, rfl⟩
          first | rw [ewi] | (rw [World.drewN_drewN]; rw [ewi])
          obtain ⟨A3, c3, A4, c4, w4, A5, c5, w6, hcT, hr4, hcF, kj4, fr4, ew6, M', Cj', hj', hlen6, hNext⟩ := due_step hR.out HLt.out HD.out Hdb.out hjn Hev.out Hen.out (Nat.le_refl i) hnb hT.out HN.out wi ⟨_, ewi.symm⟩
          obtain ⟨wd, ewd⟩ : ∃ wd, w4.drew = wd := ⟨_, rfl⟩
          rw [ewd] at kj4 fr4 ew6
          try simp only [Nat.sub_self] at ew6 hcF
          have Hr4 := Lib.hid hr4
          have Ew6 := Lib.hid ew6
          have Ewd := Lib.hid ewd
          have Hlen6 := Lib.hid hlen6
          have HNext := Lib.hid hNext
          clear ewi ewd ew6 hr4 hlen6 hNext
          go_wp2_with (at_builtin; refine wpList_appX rfl (.tmp 33) (.tmp 36) _ _ rfl rfl _ _ _ w4 rfl rfl Hr4.out ?_)
          refine wp_region_held_drew (S := fun W => True) (by kernel_rfl) trivial (fun hHeld => ?_)
          rw [Ewd.out]
          refine wpAnyH_take (i := 0) (oi := { dst := some 38, op := Go.Op.move (Go.Operand.tmp 0), type := 24, pos := "wheel.go:180", after := #[], guard := none }) (v := ?_) rfl (by kernel_rfl) (by kernel_rfl) (by kernel_rfl) (fun _ _ _ h => h) (Or.inl ⟨by rfl, ?_⟩) (by assumption) ?_
          rotate_left 1
          · intro w' hSw; (go_simp <;> (with_reducible rfl))
          (try simp only [Act.put, List.setIfInBounds_toArray, List.set_cons_zero, List.set_cons_succ])
          refine wpAnyH_take (i := 1) (oi := { dst := some 39, op := Go.Op.move (Go.Operand.tmp 3), type := 3, pos := "wheel.go:180", after := #[], guard := none }) (v := ?_) rfl (by kernel_rfl) (by kernel_rfl) (by kernel_rfl) (fun _ _ _ h => h) (Or.inl ⟨by rfl, ?_⟩) (by assumption) ?_
          rotate_left 1
          · intro w' hSw; (go_simp <;> (with_reducible rfl))
          (try simp only [Act.put, List.setIfInBounds_toArray, List.set_cons_zero, List.set_cons_succ])
          refine wpAnyH_take (i := 2) (oi := { dst := some 40, op := Go.Op.move (Go.Operand.tmp 4), type := 57, pos := "wheel.go:180", after := #[], guard := none }) (v := ?_) rfl (by kernel_rfl) (by kernel_rfl) (by kernel_rfl) (fun _ _ _ h => h) (Or.inl ⟨by rfl, ?_⟩) (by assumption) ?_
          rotate_left 1
          · intro w' hSw; (go_simp <;> (with_reducible rfl))
          (try simp only [Act.put, List.setIfInBounds_toArray, List.set_cons_zero, List.set_cons_succ])
          refine wpAnyH_take (i := 3) (oi := { dst := some 41, op := Go.Op.move (Go.Operand.tmp 5), type := 3, pos := "wheel.go:180", after := #[], guard := none }) (v := ?_) rfl (by kernel_rfl) (by kernel_rfl) (by kernel_rfl) (fun _ _ _ h => h) (Or.inl ⟨by rfl, ?_⟩) (by assumption) ?_
          rotate_left 1
          · intro w' hSw; (go_simp <;> (with_reducible rfl))
          (try simp only [Act.put, List.setIfInBounds_toArray, List.set_cons_zero, List.set_cons_succ])
          refine wpAnyH_take (i := 4) (oi := { dst := some 42, op := Go.Op.slice 57 (Go.Operand.tmp 40) (some (Go.Operand.tmp 41)) none none, type := 57, pos := "wheel.go:180", after := #[{ on := 2, ground := Go.Ground.data }, { on := 3, ground := Go.Ground.data }], guard := none }) (v := ?_) rfl (by kernel_rfl) (by kernel_rfl) (by kernel_rfl) (fun _ _ _ h => h) (Or.inl ⟨by rfl, ?_⟩) (by assumption) ?_
          rotate_left 1
          · intro w' hSw; (go_simp <;> (with_reducible rfl))
          (try simp only [Act.put, List.setIfInBounds_toArray, List.set_cons_zero, List.set_cons_succ])
          refine wpAnyH_take (i := 5) (oi := { dst := some 43, op := Go.Op.nilCheck (Go.Operand.tmp 38), type := 0, pos := "wheel.go:180", after := #[{ on := 0, ground := Go.Ground.data }], guard := none }) (v := ?_) rfl (by kernel_rfl) (by kernel_rfl) (by kernel_rfl) (fun _ _ _ h => h) (Or.inl ⟨by rfl, ?_⟩) (by assumption) ?_
          rotate_left 1
          · intro w' hSw; (go_simp <;> (with_reducible rfl))
          (try simp only [Act.put, List.setIfInBounds_toArray, List.set_cons_zero, List.set_cons_succ])
          refine wpAnyH_take (i := 6) (oi := { dst := some 44, op := Go.Op.fieldAddr 60 (Go.Operand.tmp 43) 3, type := 0, pos := "wheel.go:180", after := #[{ on := 5, ground := Go.Ground.data }], guard := none }) (v := ?_) rfl (by kernel_rfl) (by kernel_rfl) (by kernel_rfl) (fun _ _ _ h => h) (Or.inl ⟨by rfl, ?_⟩) (by assumption) ?_
          rotate_left 1
          · intro w' hSw; (go_simp <;> (with_reducible rfl))
          (try simp only [Act.put, List.setIfInBounds_toArray, List.set_cons_zero, List.set_cons_succ])
          refine wpAnyH_take (i := 7) (oi := { dst := some 45, op := Go.Op.indexAddr 58 (Go.Operand.tmp 44) (Go.Operand.tmp 39), type := 0, pos := "wheel.go:180", after := #[{ on := 6, ground := Go.Ground.data }, { on := 1, ground := Go.Ground.data }, { on := 0, ground := Go.Ground.phase }, { on := 1, ground := Go.Ground.phase }, { on := 2, ground := Go.Ground.phase }, { on := 3, ground := Go.Ground.phase }, { on := 4, ground := Go.Ground.phase }], guard := none }) (v := ?_) rfl (by kernel_rfl) (by kernel_rfl) (by kernel_rfl) (fun _ _ _ h => h) (Or.inl ⟨by rfl, ?_⟩) (by assumption) ?_
          rotate_left 1
          · intro w' hSw; (go_simp <;> (with_reducible rfl))
          (try simp only [Act.put, List.setIfInBounds_toArray, List.set_cons_zero, List.set_cons_succ])
          refine wpAnyH_ready (rs := [8]) (by kernel_rfl) (by simp) ?_
          refine AllReadyH.cons (o := { dst := none, op := Go.Op.store 57 (Go.Operand.tmp 45) (Go.Operand.tmp 42), type := 0, pos := "wheel.go:180", after := #[{ on := 7, ground := Go.Ground.data }, { on := 4, ground := Go.Ground.data }, { on := 0, ground := Go.Ground.phase }, { on := 1, ground := Go.Ground.phase }, { on := 2, ground := Go.Ground.phase }, { on := 3, ground := Go.Ground.phase }, { on := 4, ground := Go.Ground.phase }], guard := none }) rfl (fun K hK => ?_) AllReadyH.nil
          go_simp
          skip
          refine hK.out _ _ ?_ (fun hHeld => ?_)
          · exact trivial
          clear hK K
          (try simp only [Act.put, List.setIfInBounds_toArray, List.set_cons_zero, List.set_cons_succ])
          refine wpAnyH_done (by kernel_rfl) ?_ _
          clear hHeld
          rw [Ew6.out]
          go_wp2_with fail
          go_roundg (64 - (j + 1))
          case measure => omega
          case rel => exact ⟨j + 1, A4, c4, M', Cj', hj', Lib.hid (by omega), by omega, by go_num, by rw [Hlen6.out], HNext⟩
    · obtain rfl : j = 64 := by omega
      have hcl := Hc.out
      rw [HD.out, ← hR.out.eq] at hcl
      have HSo := Lib.hid (sort_anyA A M.length c M wo hR.out.row rfl hcl)
      clear hcl
      go_wp2_with fail
      refine HSo.out.mono ?_
      rintro e w2 ⟨rfl, M', hp, hs2, hsl, hb2⟩
      have HE := Lib.hid (show DueIs S g m ck sl K R w (.returned (.slice A M.length c)) w2 from by
        have hl := hp.length_eq
        refine ⟨A, c, M', Cj, hv, by rw [hl], ?_, by rw [hl]; exact hs2, by rw [hl]; exact hsl, by rw [hl]; exact hR.out.own, ?_, ?_⟩
        · rw [HD.out, ← hR.out.eq]; exact hp
        · have h1 := hR.out.mem.but hb2 (fun k hk e => by have := HLt.out k hk; have := hR.out.own k e; omega)
          exact h1.lists (fun j hj => if_pos hj)
        · exact hR.out.but.trans2 hb2 (fun k hk e => by have := hR.out.own k e; omega))
      clear hp hs2 hsl hb2
      go_wp2_with fail
      go_ret
      exact HE.out
end Go.Proofs.Ytlpgabbnldalhaa
