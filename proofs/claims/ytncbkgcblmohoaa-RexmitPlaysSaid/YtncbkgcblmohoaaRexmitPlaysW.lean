/-
  RexmitPlays' walk, over the face.
-/
import Derived.Test.YtncbkgcblmohoaaRxPair
import Derived.Test.YtncbkgcblmohoaaRxNone
import Derived.Test.YtncbkgcblmohoaaRxAwake
import Derived.Test.YtncbkgcblmohoaaRxSame
import Derived.Test.YtncbkgcblmohoaaRxSpoil
import Derived.Test.YtncbkgcblmohoaaRxOpen
import Derived.Test.YtncbkgcblmohoaaSpoil
import Derived.Test.YtncbkgcblmohoaaTk
import Derived.Deep.CutRange
import Derived.Deep.CutBlock
import Derived.Deep.DeepCutAuto
import Derived.Deep.LoopGhost
import Derived.BigRegion
namespace Go.Proofs.Ytncbkgcblmohoaa.rexmitPlaysW
set_option maxRecDepth 10000
open Go.RowKit
set_option linter.unusedVariables false
set_option linter.unusedSimpArgs false
variable {XAt : XA}

theorem below_dN (w : World) (n : Nat) : Below w.heap.size w (w.drewN n) := ((But.refl (fun _ => False) w).drewN n).below (fun _ h => h.elim) (Nat.le_refl _)
theorem rnew19_bad (at_ win rto tries : Int) (w : World) (h : badX win rto tries) :
    Calls Try.prog 10 #[.int .u32 at_, .int .u32 win, .int .u64 rto, .int .i64 tries] w fun e w' => e = .returned (.tuple #[.pointer none, .int .i64 1]) ∧ Below w.heap.size w w' := by
  unfold badX at h
  by_cases h1 : rto < 1
  · clear h
    go_enter Try.func10, Try.ntmps10
    go_wp2_with fail
    go_ret2
    exact ⟨rfl, Below.refl _ _⟩
  by_cases h2 : (1073741824 : Int) < rto
  · clear h
    go_enter Try.func10, Try.ntmps10
    go_wp2_with fail
    go_ret2
    exact ⟨rfl, Below.refl _ _⟩
  by_cases h3 : tries < 1
  · clear h
    go_enter Try.func10, Try.ntmps10
    go_wp2_with fail
    go_ret2
    exact ⟨rfl, Below.refl _ _⟩
  by_cases h4 : (10 : Int) < tries
  · clear h
    go_enter Try.func10, Try.ntmps10
    go_wp2_with fail
    go_ret2
    exact ⟨rfl, Below.refl _ _⟩
  · have h5 : (1073741824 : Int) < win := by omega
    clear h
    go_enter Try.func10, Try.ntmps10
    go_wp2_with fail
    go_ret2
    exact ⟨rfl, Below.refl _ _⟩
theorem bad (F : XFace XAt) (w : World) (x y r t : Int) (hx : 0 ≤ x ∧ x < 4294967296) (hy : 0 ≤ y ∧ y < 4294967296) (hr : 0 ≤ r ∧ r < 18446744073709551616) (ht : -9223372036854775808 ≤ t ∧ t < 9223372036854775808) (hb : badX y r t) (v : Value) :
    Calls Try.prog 3 #[.agg #[.int .u32 x, .int .u32 y, .int .u64 r, .int .i64 t], v] w fun e w' => e = .returned (.bool true) ∧ Below w.heap.size w w' := by
  obtain ⟨z, ez⟩ : ∃ z, w.heap.size = z := ⟨_, rfl⟩
  obtain ⟨w1, ew1⟩ : ∃ v, w.alloc (.cells #[.int .u32 x, .int .u32 y, .int .u64 r, .int .i64 t] 25) = v := ⟨_, rfl⟩
  have hb1 : Below w.heap.size w w1 := by rw [← ew1]; exact (Below.refl _ _).alloc (Nat.le_refl _) _
  have hk1 : w1.heap[z]? = some (.cells #[.int .u32 x, .int .u32 y, .int .u64 r, .int .i64 t] 25 (0, 0)) := by rw [← ew1, ← ez]; exact heap_alloc_new w _
  have c0 : w1.cell? ⟨z, 0, none⟩ = some (.int .u32 x) := by rw [blk_cell hk1]; rfl
  have c1 : w1.cell? ⟨z, 1, none⟩ = some (.int .u32 y) := by rw [blk_cell hk1]; rfl
  have c2 : w1.cell? ⟨z, 2, none⟩ = some (.int .u64 r) := by rw [blk_cell hk1]; rfl
  have c3 : w1.cell? ⟨z, 3, none⟩ = some (.int .i64 t) := by rw [blk_cell hk1]; rfl
  have HB1 := Lib.hid hb1
  have HK1 := Lib.hid hk1
  have Ew1 := Lib.hid ew1
  clear hb1 hk1 ew1
  have H1 := Lib.hid (F.new_bad x y r t w1 hx hy hr (by unfold i64X; omega) hb)
  have H2 := Lib.hid (fun W => rnew19_bad x y r t W hb)
  have H3 := Lib.hid (fun W => awake19_any F W)
  clear F hb hx hy hr ht
  go_enter Try.func3, Try.ntmps3
  go_upto_region 1 with (fail)
  rw [Ew1.out]
  try rw [ez]
  go_wp2_with fail
  refine H1.out.mono ?_
  rintro e w2 ⟨rfl, hb2⟩
  have HB2 := Lib.hid hb2
  clear hb2
  have hk2 := blk_on HK1.out HB2.out
  have d0 : w2.cell? ⟨z, 0, none⟩ = some (.int .u32 x) := by rw [blk_cell hk2]; rfl
  have d1 : w2.cell? ⟨z, 1, none⟩ = some (.int .u32 y) := by rw [blk_cell hk2]; rfl
  have d2 : w2.cell? ⟨z, 2, none⟩ = some (.int .u64 r) := by rw [blk_cell hk2]; rfl
  have d3 : w2.cell? ⟨z, 3, none⟩ = some (.int .i64 t) := by rw [blk_cell hk2]; rfl
  clear hk2 c0 c1 c2 c3
  go_wp2_with fail
  refine (H2.out w2).mono ?_
  rintro e w3 ⟨rfl, hb3⟩
  have HB3 := Lib.hid (below_trans HB2.out hb3)
  clear hb3 d0 d1 d2 d3
  go_wp2_with fail
  refine (H3.out w3).mono ?_
  rintro e w4 ⟨rfl, hb4⟩
  have HB4 := Lib.hid (below_trans HB3.out hb4)
  clear hb4
  go_wp2_with fail
  refine (xwrite_none (NoX.nil w4) _ 0).mono ?_
  rintro e w9 ⟨rfl, rfl⟩
  go_wp2_with fail
  refine (xend_none (NoX.nil w4)).mono ?_
  rintro e w9 ⟨rfl, rfl⟩
  have HE := Lib.hid (below_trans HB1.out HB4.out)
  go_wp2_with fail
  go_ret
  exact ⟨rfl, HE.out⟩
theorem cutX_mem (m : Nat) : ∀ (f : Nat) (a : Int) (l : List Int), ∀ p ∈ cutX m f a l, ∀ y ∈ p.2, y ∈ l := by
  intro f
  induction f with
  | zero => intro a l p hp; simp [cutX] at hp
  | succ f ih =>
    intro a l p hp y hy
    by_cases e : l = []
    · simp [cutX, e] at hp
    · simp only [cutX, if_neg e, List.mem_cons] at hp
      rcases hp with hp | hp
      · subst hp
        exact List.mem_of_mem_take hy
      · exact List.mem_of_mem_drop (ih _ _ p hp y hy)
theorem send_byte {s : XS} (h : OkX s) (mss : Int) : ∀ p ∈ sendL mss s, ∀ y ∈ p.2, 0 ≤ y ∧ y < 256 := by
  intro p hp y hy
  unfold sendL at hp
  split at hp
  · simp at hp
  · have := cutX_mem _ _ _ _ p hp y hy
    unfold sendR at this
    exact h.byte y (List.mem_of_mem_take (List.mem_of_mem_drop this))
theorem tick_byte {s : XS} (h : OkX s) (mss now : Int) : ∀ y ∈ tickD mss now s, 0 ≤ y ∧ y < 256 := by
  intro y hy
  unfold tickD at hy
  split at hy
  · exact h.byte y (List.mem_of_mem_take hy)
  · simp at hy
theorem smq_of {w : World} {PT : TypeId} {B : Nat} {v : Value} {qs : List PQ} {ps : List (Int × List Int)} (h : PcsX w PT B v qs) (hq : qs.map toldQ = ps) (hb : ∀ p ∈ ps, ∀ y ∈ p.2, 0 ≤ y ∧ y < 256) : SmQ w PT v qs :=
  ⟨h.sl, fun q hq2 => (h.rows q hq2).rd (fun y hy => hb (toldQ q) (by rw [← hq]; exact List.mem_map_of_mem hq2) y hy)⟩
structure DatR (w : World) (B : Nat) (A : Option Addr) (n c : Nat) (l : List Int) : Prop where
  own : OwnB w B A n c l
  byte : ∀ x ∈ l, 0 ≤ x ∧ x < 256
section
variable {w w' : World} {B n c : Nat} {A : Option Addr} {l : List Int}
theorem DatR.rd (h : DatR w B A n c l) : Rd w A n l ∧ n ≤ c ∧ c ≤ maxLen := ⟨h.own.rd h.byte, h.own.cap, h.own.capMax⟩
theorem DatR.but {V : Nat → Prop} (h : DatR w B A n c l) (hb : But V w w') (hn : ∀ b, (Value.slice A n c).ownBlock = some b → ¬ V b) : DatR w' B A n c l := ⟨own_on2 h.own hb hn, h.byte⟩
end
theorem two8 {w0 w : World} {T D : Nat → Prop} {ws : MX} {gw : Nat} {first : Int} {N : Nat} {s : XS} (h : PX XAt w0 T D ws gw first N s w) : w.cell? ⟨gw, 4, none⟩ = some (.int .u32 s.win) ∧ w.cell? ⟨gw, 8, none⟩ = some (.int .u64 s.alarm) := ⟨(px_cells h).1, (px_cells h).2.1⟩
def actB (wh : Int) (A : Option Addr) (n c : Nat) (mss nn win now : Int) : Array Value := #[.int .i64 wh, .slice A n c, .int .i64 mss, .int .u32 nn, .int .u32 win, .int .u64 now]
theorem bx6 {w : World} {g : Nat} {T : TypeId} {fr : Nat × Nat} {a b c d e f : Value} (h : w.heap[g]? = some (.cells #[a, b, c, d, e, f] T fr)) : w.cell? ⟨g, 0, none⟩ = some a ∧ w.cell? ⟨g, 1, none⟩ = some b ∧ w.cell? ⟨g, 2, none⟩ = some c ∧ w.cell? ⟨g, 3, none⟩ = some d ∧ w.cell? ⟨g, 4, none⟩ = some e ∧ w.cell? ⟨g, 5, none⟩ = some f := by
  refine ⟨?_, ?_, ?_, ?_, ?_, ?_⟩ <;> (rw [blk_cell h]; rfl)
set_option maxHeartbeats 8000000 in
theorem good (F : XFace XAt) (w : World) (x y r t : Int) (hx : 0 ≤ x ∧ x < 4294967296) (hy : 0 ≤ y ∧ y < 4294967296) (hr : 0 ≤ r ∧ r < 18446744073709551616) (ht : -9223372036854775808 ≤ t ∧ t < 9223372036854775808) (hb : ¬ badX y r t) (A : Option Addr) (n c : Nat) (hacts : RdAv w A n) :
    Calls Try.prog 3 #[.agg #[.int .u32 x, .int .u32 y, .int .u64 r, .int .i64 t], .slice A n c] w fun e w' => e = .returned (.bool true) ∧ Below w.heap.size w w' := by
  obtain ⟨z, ez⟩ : ∃ z, w.heap.size = z := ⟨_, rfl⟩
  obtain ⟨w1, ew1⟩ : ∃ v, w.alloc (.cells #[.int .u32 x, .int .u32 y, .int .u64 r, .int .i64 t] 25) = v := ⟨_, rfl⟩
  have hb1 : Below w.heap.size w w1 := by rw [← ew1]; exact (Below.refl _ _).alloc (Nat.le_refl _) _
  have hk1 : w1.heap[z]? = some (.cells #[.int .u32 x, .int .u32 y, .int .u64 r, .int .i64 t] 25 (0, 0)) := by rw [← ew1, ← ez]; exact heap_alloc_new w _
  have c0 : w1.cell? ⟨z, 0, none⟩ = some (.int .u32 x) := by rw [blk_cell hk1]; rfl
  have c1 : w1.cell? ⟨z, 1, none⟩ = some (.int .u32 y) := by rw [blk_cell hk1]; rfl
  have c2 : w1.cell? ⟨z, 2, none⟩ = some (.int .u64 r) := by rw [blk_cell hk1]; rfl
  have c3 : w1.cell? ⟨z, 3, none⟩ = some (.int .i64 t) := by rw [blk_cell hk1]; rfl
  have HB1 := Lib.hid hb1
  have HK1 := Lib.hid hk1
  have Ew1 := Lib.hid ew1
  clear hb1 hk1 ew1
  have H1 := Lib.hid (F.new_ok x y r t w1 hx hy hb)
  have H2 := Lib.hid (fun W => rnew19_ok x y r t W hx hy.1 hb)
  have HF := Lib.hid F
  have Hacts := Lib.hid hacts
  clear F hb hx hy hr ht hacts
  go_enter Try.func3, Try.ntmps3
  go_upto_region 1 with (fail)
  rw [Ew1.out]
  try rw [ez]
  go_wp2_with fail
  refine H1.out.mono ?_
  rintro e w2 ⟨g0, S0, rfl, a1, a2, a3⟩
  have HA := Lib.hid (And.intro a1 (And.intro a2 a3))
  clear a1 a2 a3
  have hk2 := blk_on HK1.out HA.out.2.1
  have d0 : w2.cell? ⟨z, 0, none⟩ = some (.int .u32 x) := by rw [blk_cell hk2]; rfl
  have d1 : w2.cell? ⟨z, 1, none⟩ = some (.int .u32 y) := by rw [blk_cell hk2]; rfl
  have d2 : w2.cell? ⟨z, 2, none⟩ = some (.int .u64 r) := by rw [blk_cell hk2]; rfl
  have d3 : w2.cell? ⟨z, 3, none⟩ = some (.int .i64 t) := by rw [blk_cell hk2]; rfl
  clear hk2 c0 c1 c2 c3
  go_wp2_with fail
  refine (H2.out w2).mono ?_
  rintro e w3 ⟨gw, rfl, b1, b2, b3⟩
  have HP0 := Lib.hid (PX.start HF.out HA.out.1 HA.out.2.2 HA.out.2.1 ⟨_, _, _, _, b1, Nat.le_refl _⟩ b2 (fun k hk => by rw [hk]; exact b3))
  clear HA b1 b2 b3 H1 H2 d0 d1 d2 d3
  go_wp2_with fail
  refine (awake19_any HF.out w3).mono ?_
  rintro e w4 ⟨rfl, hb4⟩
  have HP1 := Lib.hid (HP0.out.below HF.out hb4)
  clear hb4 HP0
  go_wp2_with fail
  go_loopg [5, 81] n (fun gk x5 x81 wr => ∃ (j gb : Nat) (s : XS) (T : Nat → Prop), Hid (gk + j = n) ∧ Hid (j ≤ n ∧ j ≤ 100) ∧ x5 = .pointer (some ⟨gb, 0, none⟩) ∧ x81 = .int .i64 (j : Int) ∧ Hid (PX XAt w1 T (fun _ => False) [(gb, s)] gw x (j * 5000) s wr))
  case atStart => exact ⟨0, g0, _, _, Lib.hid (by omega), Lib.hid ⟨by omega, by omega⟩, rfl, rfl, HP1⟩
  case round =>
    clear HP1
    obtain ⟨j, gb, s, T, hgk, hj, rfl, rfl, HP⟩ := hrel
    have hj2 := hj.out
    have i0 : (0 : Int) ≤ (j : Int) := by omega
    by_cases hjn : j < n
    · have i1 : (j : Int) < (n : Int) := by omega
      have hw0 := HB1.out.trans (HP.out.old.mono HB1.out.size)
      obtain ⟨b, p, av, hidx, hbl, q0, q1, q2, q3, q4, q5, hav⟩ := (Hacts.out.below HB1.out).index (c := c) hjn
      obtain ⟨wh, AD, nD, cD, lD, mss, nn, win, now⟩ := av
      obtain ⟨hwh, hmss, hnn, hwin, hnow, hrd⟩ := hav
      simp only at q0 q1 q2 q3 q4 q5 hwh hmss hnn hwin hnow hrd
      have Hav := Lib.hid (And.intro hmss (And.intro hnn (And.intro hwin hnow)))
      have hbw := But.of (S := fun _ => False) HP.out.old
      replace q0 := (hbw.cell (p := ⟨b, p, none⟩) hbl (fun e => e)).trans q0
      replace q1 := (hbw.cell (p := ⟨b, p + 1, none⟩) hbl (fun e => e)).trans q1
      replace q2 := (hbw.cell (p := ⟨b, p + 2, none⟩) hbl (fun e => e)).trans q2
      replace q3 := (hbw.cell (p := ⟨b, p + 3, none⟩) hbl (fun e => e)).trans q3
      replace q4 := (hbw.cell (p := ⟨b, p + 4, none⟩) hbl (fun e => e)).trans q4
      replace q5 := (hbw.cell (p := ⟨b, p + 5, none⟩) hbl (fun e => e)).trans q5
      clear hbw
      clear hwh hmss hnn hwin hnow
      obtain ⟨zo, ezo⟩ : ∃ z, wr.heap.size = z := ⟨_, rfl⟩
      obtain ⟨wa, ewa⟩ : ∃ v, wr.alloc (.cells #[.int .i64 wh, .slice AD nD cD, .int .i64 mss, .int .u32 nn, .int .u32 win, .int .u64 now] 39) = v := ⟨_, rfl⟩
      have Ewa := Lib.hid ewa
      have Ezo := Lib.hid ezo
      clear ewa
      by_cases hj3 : j < 100
      · have i3 : (j : Int) < 100 := by omega
        have i4 : ((j : Int) == 100) = false := by rw [beq_eq_false_iff_ne]; omega
        have i4' : (j == 100) = false := by rw [beq_eq_false_iff_ne]; omega
        have hba : Below wr.heap.size wr wa := by rw [← Ewa.out]; exact (Below.refl _ _).alloc (Nat.le_refl _) _
        have hka : wa.heap[zo]? = some (.cells #[.int .i64 wh, .slice AD nD cD, .int .i64 mss, .int .u32 nn, .int .u32 win, .int .u64 now] 39 (0, 0)) := by rw [← Ewa.out, ← ezo]; exact heap_alloc_new wr _
        have HPa := Lib.hid (HP.out.more HF.out (D' := fun q => q = zo) hba (fun q hq => ⟨.inr (by omega), by rw [hq]; exact lt_of_block hka⟩))
        have hzo : w1.heap.size ≤ zo := by have := HP.out.old.size; omega
        obtain ⟨k, hmin, hkn, hk2⟩ := min_nat 5000 nD (by omega)
        obtain ⟨hsl, hrk⟩ := hrd.upto k hkn
        obtain ⟨ld, eld⟩ : ∃ ld, lD.take k = ld := ⟨_, rfl⟩
        rw [eld] at hrk
        obtain ⟨nw, enw⟩ : ∃ v, now % 1099511627776 = v := ⟨_, rfl⟩
        have hnw : 0 ≤ nw ∧ nw ≤ 4398046511104 := by have := Hav.out; omega
        have U5 := Lib.hid (show now.tmod 1099511627776 = nw by rw [Int.tmod_eq_emod_of_nonneg Hav.out.2.2.2.1]; exact enw)
        -- the call's own copy: its instant and its bytes cut
        have hk1 := heap_setCell_at hka 5 (.int .u64 nw)
        obtain ⟨wb, ewb⟩ : ∃ v, wa.setCell ⟨zo, 5, none⟩ (.int .u64 nw) = v := ⟨_, rfl⟩
        rw [ewb] at hk1
        have hk2b := heap_setCell_at hk1 1 (.slice AD k cD)
        obtain ⟨wc, ewc⟩ : ∃ v, wb.setCell ⟨zo, 1, none⟩ (.slice AD k cD) = v := ⟨_, rfl⟩
        rw [ewc] at hk2b
        have hBac : But (fun q => q = zo) wa wc := by rw [← ewc, ← ewb]; exact ((But.refl (fun q => q = zo) wa).setCell (p := ⟨zo, 5, none⟩) rfl _).setCell (p := ⟨zo, 1, none⟩) rfl _
        have HPc := Lib.hid (HPa.out.turn HF.out hBac (fun q hq => ⟨hq, by rw [show q = zo from hq]; exact hzo⟩))
        have HOc := Lib.hid (show wc.heap[zo]? = some (.cells #[.int .i64 wh, .slice AD k cD, .int .i64 mss, .int .u32 nn, .int .u32 win, .int .u64 nw] 39 (0, 0)) from hk2b)
        have HRk := Lib.hid (show ∀ W, Below w1.heap.size w1 W → RdC W AD k cD ld from fun W hW => hrk.below hW)
        have Ewb := Lib.hid ewb
        have Ewc := Lib.hid ewc
        have Hk := Lib.hid (show k ≤ 5000 ∧ (0 ≤ nw ∧ nw ≤ 4398046511104) ∧ j < 100 ∧ j < n ∧ gk + j = n from ⟨by omega, hnw, hj3, hjn, hgk.out⟩)
        obtain ⟨o0, o1, o2, o3, o4, o5⟩ := bx6 hka
        have of5 := blk_free hka 5
        have p1 : wb.cell? ⟨zo, 1, none⟩ = some (.slice AD nD cD) := by rw [blk_cell hk1]; rfl
        have pf1 := blk_free hk1 1
        clear hba hka hk1 hk2b hBac hrk eld hnw enw ewb ewc hrd hkn hk2 hj2 hgk hjn hj3 hw0 hbl hzo HP HPa
        go_upto_region 11 with (fail)
        try rw [Ewa.out]
        clear q0 q1 q2 q3 q4 q5 hidx ezo
        go_upto_region 12 with (fail)
        rw [U5.out, Ewb.out]
        clear o0 o1 o2 o3 o4 o5 of5
        go_upto_region 13 with (fail)
        rw [Ewc.out]
        clear p1 pf1 hmin hsl
        obtain ⟨o0, o1, o2, o3, o4, o5⟩ := bx6 HOc.out
        go_upto_block 2 with (fail)
        go_cut [5] (fun s5 wv => ∃ (g' : Nat) (s' : XS) (T' : Nat → Prop) (wx : World), wx = wv ∧ s5 = .pointer (some ⟨g', 0, none⟩) ∧ Hid (PX XAt w1 T' (fun _ => False) [(g', s')] gw x ((j + 1) * 5000) s' wx))
        case first =>
          by_cases hk0 : wh = 0
          · subst hk0
            as_aux_lemma =>
              obtain ⟨s2, es2⟩ : ∃ v, writeS ld nw s = v := ⟨_, rfl⟩
              obtain ⟨xx, exx⟩ : ∃ v, writeE ld s = v := ⟨_, rfl⟩
              have Hes := Lib.hid (And.intro es2 exx)
              obtain ⟨zb, ezb⟩ : ∃ v, wc.heap.size = v := ⟨_, rfl⟩
              obtain ⟨wd, ewd⟩ : ∃ v, wc.alloc (.cells #[] 5) = v := ⟨_, rfl⟩
              have hbd : Below wc.heap.size wc wd := by rw [← ewd]; exact (Below.refl _ _).alloc (Nat.le_refl _) _
              have hkd : wd.heap[zb]? = some (.cells #[] 5 (0, 0)) := by rw [← ewd, ← ezb]; exact heap_alloc_new wc _
              have hrk2 := HRk.out _ (HPc.out.below HF.out hbd).old
              obtain ⟨A2, c2, we, hrun, ho, hg3, hbb, hat3⟩ := app_run wd 37 zb (some ⟨zb, 0, none⟩) AD 0 0 k cD [] ld (OwnB.made hkd (Nat.le_refl _) (by simp [maxLen]) rfl) hrk2.rd (by have := Hk.out; omega) (by have := hbd.size; omega)
              rw [List.nil_append, Nat.zero_add] at ho
              rw [Nat.zero_add] at hrun
              have hbe : Below wc.heap.size wc we := hbd.trans (hbb.mono (by omega))
              have HRe := Lib.hid (show DatR we zb A2 k c2 ld from ⟨ho, hrk2.rd.byte⟩)
              have HPe := Lib.hid (HPc.out.more HF.out (D' := fun q => q = zo ∨ (Value.slice A2 k c2).ownBlock = some q) hbe (fun q hq => by
                rcases hq with hq | hq
                · exact ⟨.inl hq, by have := HPc.out.dlt (k := q) hq; have := hbe.size; omega⟩
                · exact ⟨.inr (by have := (own_ltX ho hq).1; omega), (own_ltX ho hq).2⟩))
              have HOe := Lib.hid (blk_on HOc.out hbe)
              have Hrun := Lib.hid hrun
              have Ewd := Lib.hid ewd
              have Hzb := Lib.hid (show w1.heap.size ≤ zb by have := HPc.out.old.size; omega)
              have oa1 : (wc.alloc (.cells #[] 5)).cell? ⟨zo, 1, none⟩ = some (.slice AD k cD) := by rw [ewd, blk_cell (blk_on HOc.out hbd)]; rfl
              clear es2 exx hbd hkd hrk2 hrun ho hg3 hbb hat3 hbe ewd
              go_upto_region 16 with (at_builtin; refine wpList_appX rfl (.tmp 104) (.tmp 106) _ _ rfl rfl _ _ _ we rfl rfl (by first | exact Hrun.out | (rw [Ewd.out]; exact Hrun.out)) ?_)
              clear o0 o1 o2 o3 o4 o5 ezb oa1
              obtain ⟨wf, ewf⟩ : ∃ v, we.drew = v := ⟨_, rfl⟩
              have hbf : Below we.heap.size we wf := by rw [← ewf]; exact below_dN we 1
              have HPf := Lib.hid (HPe.out.below HF.out hbf)
              have HOf := Lib.hid (blk_on HOe.out hbf)
              have HRf := Lib.hid (HRe.out.but (But.of (S := fun _ => False) hbf) (fun _ _ h => h))
              clear hbf HPe HOe HRe
              refine wp_region_held_drew (S := fun w' => w'.cell? ⟨zo, 1, none⟩ = some (.slice AD k cD) ∧ w'.cell? ⟨zo, 5, none⟩ = some (.int .u64 nw)) (by kernel_rfl) (by rw [ewf]; exact ⟨(bx6 HOf.out).2.1, (bx6 HOf.out).2.2.2.2.2⟩) (fun hHeld => ?_)
              rw [ewf] at hHeld ⊢
              clear ewf
              refine tk 0 ?_ rfl ?_ ?_
              rotate_left
              · intro w' hSw; (go_simp <;> (with_reducible rfl))
              try simp only [Act.put, putL]
              refine tk 1 ?_ rfl ?_ ?_
              rotate_left
              · intro w' hSw; (go_simp <;> (with_reducible rfl))
              try simp only [Act.put, putL]
              refine tk 2 ?_ rfl ?_ ?_
              rotate_left
              · intro w' hSw; (go_simp <;> (with_reducible rfl))
              try simp only [Act.put, putL]
              refine tk 3 ?_ rfl ?_ ?_
              rotate_left
              · intro w' hSw; (go_simp <;> (with_reducible rfl))
              try simp only [Act.put, putL]
              refine tk 5 ?_ rfl ?_ ?_
              rotate_left
              · intro w' hSw; (go_simp <;> (with_reducible rfl))
              try simp only [Act.put, putL]
              refine tk 6 ?_ rfl ?_ ?_
              rotate_left
              · intro w' hSw; (go_simp <;> (with_reducible rfl))
              try simp only [Act.put, putL]
              refine tk 7 ?_ rfl ?_ ?_
              rotate_left
              · intro w' hSw; (go_simp <;> (with_reducible rfl))
              try simp only [Act.put, putL]
              refine tk 8 ?_ rfl ?_ ?_
              rotate_left
              · intro w' hSw; (go_simp <;> (with_reducible rfl))
              try simp only [Act.put, putL]
              refine tk 9 ?_ rfl ?_ ?_
              rotate_left
              · intro w' hSw; (go_simp <;> (with_reducible rfl))
              try simp only [Act.put, putL]
              refine tkC 4 rfl (fun K hK => ?_)
              go_simp
              (refine (px_do HPf.out (ywrite HF.out _ 0 gb s _ [(gb, s2)] w1 wf HPf.out.at_ rfl nw A2 k c2 ld s2 xx (by have := Hk.out; unfold nowX; omega) HRf.out.rd.1 (by have := Hk.out; omega) HRf.out.rd.2.1 HRf.out.rd.2.2 (fun b o e _ => .inr (.inr (.inr (by rw [e]; rfl)))) Hes.out.1 Hes.out.2 rfl)).mono ?_; rintro e wg ⟨rfl, hp, hb⟩; have HPg := Lib.hid hp; have HOg := Lib.hid (hb.blk HOf.out (fun hn => hn (.inr (.inr (.inl rfl))))); have HRg := Lib.hid (HRf.out.but hb (fun b hb2 hn => hn (.inr (.inr (.inr hb2))))); clear hp hb)
              refine hK.out _ _ ?_ (fun hHeld => ?_)
              · exact ⟨(bx6 HOg.out).2.1, (bx6 HOg.out).2.2.2.2.2⟩
              clear hK K
              try simp only [Act.put, putL]
              refine tkC 10 rfl (fun K hK => ?_)
              go_simp
              (refine (px_rwrite HF.out HPg.out AD k cD ld (HRk.out _ HPg.out.old).rd nw Hk.out.2.1 (by have := Hk.out; omega) s2 xx Hes.out.1 Hes.out.2).mono ?_; rintro e wi ⟨rfl, Ti, hp, hb⟩; have HPi := Lib.hid hp; have HOi := Lib.hid (hb.blk HOg.out (fun ht => (HPg.out.tb _ ht).2 (.inl rfl))); have HRi := Lib.hid (HRg.out.but hb (fun b hb2 ht => (HPg.out.tb b ht).2 (.inr hb2))); clear hp hb)
              refine hK.out _ _ ?_ (fun hHeld => ?_)
              · exact ⟨(bx6 HOi.out).2.1, (bx6 HOi.out).2.2.2.2.2⟩
              clear hK K
              try simp only [Act.put, putL]
              refine tk 11 ?_ rfl ?_ ?_
              rotate_left
              · intro w' hSw; (go_simp <;> (with_reducible rfl))
              try simp only [Act.put, putL]
              refine wpAnyH_done (by kernel_rfl) ?_ _
              clear hHeld
              have r2 : (xx != xx) = false := by simp
              go_wp2_with fail
              clear r2
              go_loopg [122] k (fun gk2 x122 wi => ∃ i : Nat, Hid (gk2 + i = k) ∧ x122 = .int .i64 (i : Int) ∧ Hid (ByRow wi zb A2 k) ∧ Hid (PX XAt w1 Ti (fun q => q = zo ∨ (Value.slice A2 k c2).ownBlock = some q) [(gb, s2)] gw x (j * 5000 + k) s2 wi))
              case atStart => exact ⟨0, Lib.hid (by omega), rfl, Lib.hid (ByRow.of HRi.out.own), HPi⟩
              case round =>
                obtain ⟨i, hgi, rfl, HBy, HPq⟩ := hrel
                have hgi2 := hgi.out
                have hk3 := Hk.out.1
                have i5 : (0 : Int) ≤ (i : Int) := by omega
                by_cases hik : i < k
                · have i6 : (i : Int) < (k : Int) := by omega
                  have i7 : (i : Int) < 20000 := by omega
                  obtain ⟨ga, yy, rfl, hga, hidx2, hc3, hf3⟩ := HBy.out.index c2 i hik
                  have HS1 := Lib.hid (fun y' : Int => HBy.out.set_ ga i y')
                  have HS2 := Lib.hid (fun y' : Int => HPq.out.turn HF.out (V := fun q => q = ga) ((But.refl (fun q => q = ga) wr).setCell (p := ⟨ga, i, none⟩) rfl (.int .u8 y')) (fun q hq => ⟨.inr (by rw [hq]; rfl), by rw [hq]; have := Hzb.out; omega⟩))
                  have Hxx := Lib.hid (And.intro hgi2 hik)
                  clear hga hgi2 hk3 hik
                  go_wp2_with fail
                  go_roundg (gk - 1)
                  case measure => have := Hxx.out; omega
                  case rel => exact ⟨i + 1, Lib.hid (by have := Hxx.out; show gk - 1 + (i + 1) = _; omega), by go_num, Lib.hid (HS1.out _), Lib.hid (HS2.out _)⟩
                · have i6 : ¬ (i : Int) < (k : Int) := by omega
                  clear hgi2 hk3 hik
                  go_wp2_with fail
                  go_meet
                  case rel => exact ⟨gb, s2, Ti, _, rfl, rfl, Lib.hid ((HPq.out.sub (fun q hq => hq.elim)).mono (by have := Hk.out; omega))⟩
          by_cases hk1 : wh = 1
          · subst hk1
            as_aux_lemma =>
              obtain ⟨s2, es2⟩ : ∃ v, sendS mss s = v := ⟨_, rfl⟩
              obtain ⟨ps, eps⟩ : ∃ v, sendL mss s = v := ⟨_, rfl⟩
              obtain ⟨er, eer⟩ : ∃ v, sendE mss = v := ⟨_, rfl⟩
              have Hes := Lib.hid (And.intro es2 (And.intro eps eer))
              have Hbyte := Lib.hid (show ∀ p ∈ ps, ∀ y ∈ p.2, 0 ≤ y ∧ y < 256 by rw [← eps]; exact send_byte (HPc.out.ok HF.out (i := 0) rfl) mss)
              clear es2 eps eer
              go_wp2_with fail
              refine (px_send HPc.out (ysend HF.out _ 0 gb s [(gb, s)] [(gb, s2)] w1 wc HPc.out.at_ rfl mss s2 ps er (by have := Hav.out; unfold i64X; omega) Hes.out.1 Hes.out.2.1 Hes.out.2.2 rfl)).mono ?_
              rintro e wd ⟨v, qs, rfl, hpc, hq, hp, hb⟩
              have HPd := Lib.hid hp
              have HOd := Lib.hid (hb.blk HOc.out (fun hn => hn (.inr (.inr rfl))))
              have Hpc := Lib.hid hpc
              have Hq := Lib.hid hq
              clear hpc hq hp hb o0 o1 o2 o3 o4 o5
              obtain ⟨o0, o1, o2, o3, o4, o5⟩ := bx6 HOd.out
              go_wp2_with fail
              refine (px_rsend HF.out HPd.out mss s2 ps er Hes.out.1 Hes.out.2.1 Hes.out.2.2).mono ?_
              rintro e we ⟨v2, qs2, rfl, hpc2, hq2, hp, hb⟩
              have HPe := Lib.hid hp
              have Hpc := Lib.hid (Hpc.out.but hb (fun k hk ht => (HPd.out.tb k ht).2 (.inr hk)))
              have Hsm := Lib.hid (smq_of Hpc.out Hq.out Hbyte.out)
              have Hsm2 := Lib.hid (smq_of hpc2 hq2 Hbyte.out)
              have Htq := Lib.hid (show decide (qs.map toldQ = qs2.map toldQ) = true by rw [Hq.out, hq2]; simp)
              clear hpc2 hq2 hp hb o0 o1 o2 o3 o4 o5
              have r2 : (er != er) = false := by simp
              go_wp2_with fail
              refine (same19_any v v2 qs qs2 true we Hsm.out Hsm2.out Htq.out).mono ?_
              rintro e wf ⟨rfl, m, rfl⟩
              have HPf := Lib.hid (HPe.out.below HF.out (below_dN we m))
              have Hpc := Lib.hid (Hpc.out.on (below_dN we m))
              clear r2
              go_wp2_with fail
              refine (spoil19_any v qs _ (SpQ.of Hpc.out)).mono ?_
              rintro e wg ⟨rfl, hb⟩
              have HPg := Lib.hid (HPf.out.turn HF.out hb (fun q hq => by
                refine ⟨.inr (.inr hq), ?_⟩
                obtain ⟨q2, hq2, hq3⟩ := hq
                have h5 := (own_ltX (Hpc.out.rows q2 hq2) hq3).1
                have h6 := HPc.out.old.size
                omega))
              clear hb
              go_wp2_with fail
              go_meet
              case rel => exact ⟨gb, s2, T, _, rfl, rfl, Lib.hid ((HPg.out.sub (fun q hq => hq.elim)).mono (by omega))⟩
          by_cases hk2 : wh = 2
          · subst hk2
            as_aux_lemma =>
              obtain ⟨ua, eua⟩ : ∃ v, s.una = v := ⟨_, rfl⟩
              have Eua := Lib.hid eua
              obtain ⟨ack, eack⟩ : ∃ v, numX (ua + nn) = v := ⟨_, rfl⟩
              have v1 : IntKind.u32.wrap (ua + nn) = ack := by rw [← eack, IntKind.wrap_u32]; rfl
              have Hack := Lib.hid (show 0 ≤ ack ∧ ack < 4294967296 by rw [← eack]; exact numX_bd _)
              obtain ⟨s2, es2⟩ : ∃ v, ackS ack win nw s = v := ⟨_, rfl⟩
              obtain ⟨mm, emm⟩ : ∃ v, ackN ack win s = v := ⟨_, rfl⟩
              obtain ⟨xx, exx⟩ : ∃ v, ackE ack win s = v := ⟨_, rfl⟩
              have Hes := Lib.hid (And.intro es2 (And.intro emm exx))
              clear eua eack es2 emm exx o0 o1 o2 o3 o4 o5
              go_upto_region 30 with (fail)
              obtain ⟨wd, ewd⟩ : ∃ v, wc.drew = v := ⟨_, rfl⟩
              have hbd : Below wc.heap.size wc wd := by rw [← ewd]; exact below_dN wc 1
              have HPd := Lib.hid (HPc.out.below HF.out hbd)
              have HOd := Lib.hid (blk_on HOc.out hbd)
              clear hbd
              refine wp_region_held_drew (S := fun w' => w'.cell? ⟨zo, 3, none⟩ = some (.int .u32 nn)) (by kernel_rfl) (by rw [ewd]; exact (bx6 HOd.out).2.2.2.1) (fun hHeld => ?_)
              rw [ewd] at hHeld ⊢
              clear ewd
              refine tk 0 ?_ rfl ?_ ?_
              rotate_left
              · intro w' hSw; (go_simp <;> (with_reducible rfl))
              try simp only [Act.put, putL]
              refine tk 2 ?_ rfl ?_ ?_
              rotate_left
              · intro w' hSw; (go_simp <;> (with_reducible rfl))
              try simp only [Act.put, putL]
              refine tk 3 ?_ rfl ?_ ?_
              rotate_left
              · intro w' hSw; (go_simp <;> (with_reducible rfl))
              try simp only [Act.put, putL]
              refine tkC 1 rfl (fun K hK => ?_)
              go_simp
              (refine (px_runa HPd.out).mono ?_; rintro e w' ⟨rfl, rfl⟩; rw [Eua.out])
              refine hK.out _ _ ?_ (fun hHeld => ?_)
              · exact (bx6 HOd.out).2.2.2.1
              clear hK K
              try simp only [Act.put, putL]
              refine tk 4 ?_ rfl ?_ ?_
              rotate_left
              · intro w' hSw; (go_simp <;> (with_reducible rfl))
              try simp only [Act.put, putL]
              refine tk 5 ?_ rfl ?_ ?_
              rotate_left
              · intro w' hSw; (go_simp <;> (with_reducible rfl))
              try simp only [Act.put, putL]
              refine wpAnyH_done (by kernel_rfl) ?_ _
              clear hHeld v1
              obtain ⟨o0, o1, o2, o3, o4, o5⟩ := bx6 HOd.out
              go_wp2_with fail
              refine (px_do HPd.out (yack HF.out _ 0 gb s _ [(gb, s2)] w1 wd HPd.out.at_ rfl ack win nw s2 mm xx Hack.out (by have := Hav.out; unfold u32X; omega) (by have := Hk.out; unfold nowX; omega) Hes.out.1 Hes.out.2.1 Hes.out.2.2 rfl)).mono ?_
              rintro e we ⟨rfl, hp, hb⟩
              have HPe := Lib.hid hp
              have HOe := Lib.hid (hb.blk HOd.out (fun hn => hn (.inr (.inr rfl))))
              clear hp hb o0 o1 o2 o3 o4 o5
              obtain ⟨o0, o1, o2, o3, o4, o5⟩ := bx6 HOe.out
              go_wp2_with fail
              refine (px_rack HF.out HPe.out ack win nw Hack.out (by have := Hav.out; omega) Hk.out.2.1 s2 mm xx Hes.out.1 Hes.out.2.1 Hes.out.2.2).mono ?_
              rintro e wf ⟨rfl, Tf, hp, hb⟩
              have HPf := Lib.hid hp
              clear hp hb o0 o1 o2 o3 o4 o5
              have r1 : (xx != xx) = false := by simp
              have r2 : (mm != mm) = false := by simp
              go_wp2_with fail
              go_meet
              case rel => exact ⟨gb, s2, Tf, _, rfl, rfl, Lib.hid ((HPf.out.sub (fun q hq => hq.elim)).mono (by omega))⟩
          by_cases hk3 : wh = 3
          · subst hk3
            as_aux_lemma =>
              obtain ⟨s2, es2⟩ : ∃ v, tickS mss nw s = v := ⟨_, rfl⟩
              obtain ⟨xa, exa⟩ : ∃ v, tickA mss nw s = v := ⟨_, rfl⟩
              obtain ⟨is, eis⟩ : ∃ v, tickB mss nw s = v := ⟨_, rfl⟩
              obtain ⟨er, eer⟩ : ∃ v, tickE mss nw s = v := ⟨_, rfl⟩
              obtain ⟨lt, elt⟩ : ∃ v, tickD mss nw s = v := ⟨_, rfl⟩
              have Hes := Lib.hid (And.intro es2 (And.intro exa (And.intro eis (And.intro eer elt))))
              have Hbyte := Lib.hid (show ∀ y ∈ lt, 0 ≤ y ∧ y < 256 by rw [← elt]; exact tick_byte (HPc.out.ok HF.out (i := 0) rfl) mss nw)
              clear es2 exa eis eer elt
              go_wp2_with fail
              refine (px_tick HPc.out (ytick HF.out _ 0 gb s [(gb, s)] [(gb, s2)] w1 wc HPc.out.at_ rfl mss nw s2 xa is er lt (by have := Hav.out; unfold i64X; omega) (by have := Hk.out; unfold nowX; omega) Hes.out.1 Hes.out.2.1 Hes.out.2.2.1 Hes.out.2.2.2.1 Hes.out.2.2.2.2 rfl)).mono ?_
              rintro e wd ⟨A1, n1, c1, rfl, hl1, ho1, hp, hb⟩
              subst hl1
              have HPd := Lib.hid hp
              have HOd := Lib.hid (hb.blk HOc.out (fun hn => hn (.inr (.inr rfl))))
              have HR1 := Lib.hid (show DatR wd wc.heap.size A1 lt.length c1 lt from ⟨ho1, Hbyte.out⟩)
              clear hp hb o0 o1 o2 o3 o4 o5 ho1
              obtain ⟨n1, en1⟩ : ∃ v, lt.length = v := ⟨_, rfl⟩
              have En1 := Lib.hid en1
              rw [en1] at HPd HR1 ⊢
              clear en1
              obtain ⟨z1, ez1⟩ : ∃ v, wd.heap.size = v := ⟨_, rfl⟩
              obtain ⟨we, ewe⟩ : ∃ v, wd.alloc (.cells #[.int .u32 xa, .slice A1 n1 c1] 54) = v := ⟨_, rfl⟩
              have hbe : Below wd.heap.size wd we := by rw [← ewe]; exact (Below.refl _ _).alloc (Nat.le_refl _) _
              have hke : we.heap[z1]? = some (.cells #[.int .u32 xa, .slice A1 n1 c1] 54 (0, 0)) := by rw [← ewe, ← ez1]; exact heap_alloc_new wd _
              have HPe := Lib.hid (HPd.out.more HF.out (D' := fun q => q = zo ∨ (Value.slice A1 n1 c1).ownBlock = some q ∨ q = z1) hbe (fun q hq => by
                rcases hq with hq | hq | hq
                · exact ⟨.inl (.inl hq), by have := HPd.out.dlt (k := q) (.inl hq); have := hbe.size; omega⟩
                · exact ⟨.inl (.inr hq), by have := HPd.out.dlt (k := q) (.inr hq); have := hbe.size; omega⟩
                · exact ⟨.inr (by omega), by rw [hq]; exact lt_of_block hke⟩))
              have HOe := Lib.hid (blk_on HOd.out hbe)
              have HR1 := Lib.hid (HR1.out.but (But.of (S := fun _ => False) hbe) (fun _ _ h => h))
              have HKe := Lib.hid hke
              have Ewe := Lib.hid ewe
              have Ez1 := Lib.hid ez1
              clear hbe hke ewe ez1
              go_upto_region 37 with (fail)
              try rw [Ez1.out]
              try rw [Ewe.out]
              obtain ⟨o0, o1, o2, o3, o4, o5⟩ := bx6 HOe.out
              go_wp2_with fail
              refine (px_rtick HF.out HPe.out mss nw Hk.out.2.1 s2 xa is er lt Hes.out.1 Hes.out.2.1 Hes.out.2.2.1 Hes.out.2.2.2.1 Hes.out.2.2.2.2).mono ?_
              rintro e wf ⟨A2, n2, c2, rfl, hl2, ho2, hp, hb⟩
              subst hl2
              have HPf := Lib.hid hp
              have HR1 := Lib.hid (HR1.out.but hb (fun b hb2 ht => (HPe.out.tb b ht).2 (.inr (.inl hb2))))
              have HKf := Lib.hid (hb.blk HKe.out (fun ht => (HPe.out.tb _ ht).2 (.inr (.inr rfl))))
              have HR2 := Lib.hid (show DatR wf we.heap.size A2 lt.length c2 lt from ⟨ho2, Hbyte.out⟩)
              clear hp hb ho2 o0 o1 o2 o3 o4 o5
              rw [En1.out] at HR2 ⊢
              obtain ⟨z2, ez2⟩ : ∃ v, wf.heap.size = v := ⟨_, rfl⟩
              obtain ⟨wg, ewg⟩ : ∃ v, wf.alloc (.cells #[.int .u32 xa, .slice A2 n1 c2] 57) = v := ⟨_, rfl⟩
              have hbg : Below wf.heap.size wf wg := by rw [← ewg]; exact (Below.refl _ _).alloc (Nat.le_refl _) _
              have HKg2 := Lib.hid (show wg.heap[z2]? = some (.cells #[.int .u32 xa, .slice A2 n1 c2] 57 (0, 0)) by rw [← ewg, ← ez2]; exact heap_alloc_new wf _)
              have HPg := Lib.hid (HPf.out.below HF.out hbg)
              have HR1 := Lib.hid (HR1.out.but (But.of (S := fun _ => False) hbg) (fun _ _ h => h))
              have HR2 := Lib.hid (HR2.out.but (But.of (S := fun _ => False) hbg) (fun _ _ h => h))
              have HKg := Lib.hid (blk_on HKf.out hbg)
              have Ewg := Lib.hid ewg
              have Ez2 := Lib.hid ez2
              clear hbg ewg ez2
              go_upto_region 38 with (fail)
              try rw [Ez2.out]
              try rw [Ewg.out]
              have k0 : wg.cell? ⟨z1, 0, none⟩ = some (.int .u32 xa) := by rw [blk_cell HKg.out]; rfl
              have k1 : wg.cell? ⟨z1, 1, none⟩ = some (.slice A1 n1 c1) := by rw [blk_cell HKg.out]; rfl
              have k2 : wg.cell? ⟨z2, 0, none⟩ = some (.int .u32 xa) := by rw [blk_cell HKg2.out]; rfl
              have k3 : wg.cell? ⟨z2, 1, none⟩ = some (.slice A2 n1 c2) := by rw [blk_cell HKg2.out]; rfl
              obtain ⟨wi, ewi⟩ : ∃ v, wg.alloc (.cells #[.int .u32 xa, .slice A1 n1 c1] 54) = v := ⟨_, rfl⟩
              have hbi : Below wg.heap.size wg wi := by rw [← ewi]; exact (Below.refl _ _).alloc (Nat.le_refl _) _
              obtain ⟨wj, ewj⟩ : ∃ v, wi.alloc (.cells #[.int .u32 xa, .slice A2 n1 c2] 57) = v := ⟨_, rfl⟩
              have hbj : Below wi.heap.size wi wj := by rw [← ewj]; exact (Below.refl _ _).alloc (Nat.le_refl _) _
              obtain ⟨z3, ez3⟩ : ∃ v, wg.heap.size = v := ⟨_, rfl⟩
              obtain ⟨z4, ez4⟩ : ∃ v, wi.heap.size = v := ⟨_, rfl⟩
              have hbij := below_trans hbi hbj
              have HPj := Lib.hid (HPg.out.below HF.out hbij)
              have HR1 := Lib.hid (HR1.out.but (But.of (S := fun _ => False) hbij) (fun _ _ h => h))
              have HR2 := Lib.hid (HR2.out.but (But.of (S := fun _ => False) hbij) (fun _ _ h => h))
              have HKj := Lib.hid (blk_on HKg.out hbij)
              have hs3 : SlV wi 54 2 (.slice (some ⟨z3, 0, none⟩) 1 1) 1 (flatQ [⟨xa, A1, c1, lt⟩]) := by
                have h9 := RowV.one (w := wg) 54 (flatQ [⟨xa, A1, c1, lt⟩]) z3 ez3 rfl
                simp only [flatQ, List.flatMap_cons, List.flatMap_nil, List.append_nil, En1.out] at h9 ⊢
                rw [ewi] at h9
                exact h9
              have hs4 : SlV wj 57 2 (.slice (some ⟨z4, 0, none⟩) 1 1) 1 (flatQ [⟨xa, A2, c2, lt⟩]) := by
                have h9 := RowV.one (w := wi) 57 (flatQ [⟨xa, A2, c2, lt⟩]) z4 ez4 rfl
                simp only [flatQ, List.flatMap_cons, List.flatMap_nil, List.append_nil, En1.out] at h9 ⊢
                rw [ewj] at h9
                exact h9
              have Hsm := Lib.hid (show SmQ wj 54 (.slice (some ⟨z3, 0, none⟩) 1 1) [⟨xa, A1, c1, lt⟩] from ⟨hs3.but (But.of (S := fun _ => False) hbj) (fun _ _ h => h), fun q hq => by
                rw [List.mem_singleton] at hq
                subst hq
                show Rd wj A1 lt.length lt
                rw [En1.out]
                exact HR1.out.rd.1⟩)
              have Hsm2 := Lib.hid (show SmQ wj 57 (.slice (some ⟨z4, 0, none⟩) 1 1) [⟨xa, A2, c2, lt⟩] from ⟨hs4, fun q hq => by
                rw [List.mem_singleton] at hq
                subst hq
                show Rd wj A2 lt.length lt
                rw [En1.out]
                exact HR2.out.rd.1⟩)
              have Ewi := Lib.hid ewi
              have Ewj := Lib.hid ewj
              have Hz3 := Lib.hid (And.intro ez3 ez4)
              have r1 : (er != er) = false := by simp
              have r2 : (is != is) = false := by cases is <;> rfl
              have k4 : wi.cell? ⟨z2, 0, none⟩ = some (.int .u32 xa) := by rw [blk_cell (blk_on HKg2.out hbi)]; rfl
              have k5 : wi.cell? ⟨z2, 1, none⟩ = some (.slice A2 n1 c2) := by rw [blk_cell (blk_on HKg2.out hbi)]; rfl
              clear hbi hbj hbij hs3 hs4
              go_wp2_with fail
              try rw [Ewi.out]
              try rw [Ewj.out]
              refine (same19_any (.slice (some ⟨z3, 0, none⟩) 1 1) (.slice (some ⟨z4, 0, none⟩) 1 1) [⟨xa, A1, c1, lt⟩] [⟨xa, A2, c2, lt⟩] true wj Hsm.out Hsm2.out (by simp [toldQ])).mono ?_
              rintro e wk ⟨rfl, m, rfl⟩
              have HPk := Lib.hid (HPj.out.below HF.out (below_dN wj m))
              have HR1 := Lib.hid (HR1.out.but (But.of (S := fun _ => False) (below_dN wj m)) (fun _ _ h => h))
              have HKk := Lib.hid (blk_on HKj.out (below_dN wj m))
              clear k0 k1 k2 k3 k4 k5 r1 r2 ez3 ez4 ewi ewj
              obtain ⟨wk, ewk⟩ : ∃ v, wj.drewN m = v := ⟨_, rfl⟩
              rw [ewk] at HPk HR1 HKk ⊢
              clear ewk
              have k0 : wk.cell? ⟨z1, 0, none⟩ = some (.int .u32 xa) := by rw [blk_cell HKk.out]; rfl
              have k1 : wk.cell? ⟨z1, 1, none⟩ = some (.slice A1 n1 c1) := by rw [blk_cell HKk.out]; rfl
              obtain ⟨wl, ewl⟩ : ∃ v, wk.alloc (.cells #[.int .u32 xa, .slice A1 n1 c1] 54) = v := ⟨_, rfl⟩
              have hbl2 : Below wk.heap.size wk wl := by rw [← ewl]; exact (Below.refl _ _).alloc (Nat.le_refl _) _
              obtain ⟨z5, ez5⟩ : ∃ v, wk.heap.size = v := ⟨_, rfl⟩
              have hs5 : SlV wl 54 2 (.slice (some ⟨z5, 0, none⟩) 1 1) 1 (flatQ [⟨xa, A1, c1, lt⟩]) := by
                have h9 := RowV.one (w := wk) 54 (flatQ [⟨xa, A1, c1, lt⟩]) z5 ez5 rfl
                simp only [flatQ, List.flatMap_cons, List.flatMap_nil, List.append_nil, En1.out] at h9 ⊢
                rw [ewl] at h9
                exact h9
              have HPl := Lib.hid (HPk.out.below HF.out hbl2)
              have HR1 := Lib.hid (HR1.out.but (But.of (S := fun _ => False) hbl2) (fun _ _ h => h))
              have Hsp := Lib.hid (show SpQ wl (.slice (some ⟨z5, 0, none⟩) 1 1) [⟨xa, A1, c1, lt⟩] from ⟨hs5, fun q hq => by
                rw [List.mem_singleton] at hq
                subst hq
                show ByRow wl 0 A1 lt.length
                rw [En1.out]
                exact (ByRow.of HR1.out.own).mono (Nat.zero_le _), fun q hq => by
                rw [List.mem_singleton] at hq
                subst hq
                show lt.length ≤ maxLen
                rw [En1.out]
                exact Nat.le_trans HR1.out.rd.2.1 HR1.out.rd.2.2⟩)
              have Ewl := Lib.hid ewl
              clear hbl2 hs5
              go_wp2_with fail
              try rw [Ewl.out]
              clear ewl ez5 k0 k1
              refine (spoil19_any (.slice (some ⟨z5, 0, none⟩) 1 1) [⟨xa, A1, c1, lt⟩] wl Hsp.out).mono ?_
              rintro e wm ⟨rfl, hb⟩
              have HPm := Lib.hid (HPl.out.turn HF.out hb (fun q hq => by
                obtain ⟨q2, hq2, hq3⟩ := hq
                rw [List.mem_singleton] at hq2
                subst hq2
                have hq3 : (Value.slice A1 lt.length c1).ownBlock = some q := hq3
                rw [En1.out] at hq3
                refine ⟨.inr (.inl hq3), ?_⟩
                have h5 := (own_ltX HR1.out.own hq3).1
                have h6 := HPc.out.old.size
                omega))
              clear hb
              go_wp2_with fail
              go_meet
              case rel => exact ⟨gb, s2, T, _, rfl, rfl, Lib.hid ((HPm.out.sub (fun q hq => hq.elim)).mono (by omega))⟩
          by_cases hk4 : wh = 4
          · subst hk4
            as_aux_lemma =>
              clear o0 o1 o2 o3 o4 o5
              go_wp2_with fail
              refine (px_more HPc.out (ycopy HF.out _ 0 gb s _ w1 wc HPc.out.at_ rfl)).mono ?_
              rintro e wd ⟨g2, rfl, hp, hb⟩
              unfold ptrX
              have HPd := Lib.hid hp
              clear hp hb
              go_wp2_with fail
              refine (px_send HPd.out (ysend HF.out _ 0 gb s ([(gb, s)] ++ [(g2, s)]) [(gb, sendS 1 s), (g2, s)] w1 wd HPd.out.at_ rfl 1 _ _ _ (by decide) rfl rfl rfl rfl)).mono ?_
              rintro e we ⟨v, qs, rfl, -, -, hp, -⟩
              have HPe := Lib.hid hp
              clear hp
              have kc := Go.Joins.run_convert_bytes_const_at (P := Try.prog) we 37 5 #[.int .u8 120] 1 1 we.heap.size rfl Try.underlying37 Try.underlying5
              go_wp2_with fail
              obtain ⟨zz, hzz⟩ : ∃ z, we.heap.size = z := ⟨_, rfl⟩
              clear kc
              have hsub := ywrite_lit HF.out _ 0 gb (sendS 1 s) [(gb, sendS 1 s), (g2, s)] [(gb, writeS [120] 0 (sendS 1 s)), (g2, s)] w1 we HPe.out.at_ rfl zz hzz 0 [120] 1 rfl (1, 2) _ _ (by decide) (by decide) (by decide) rfl rfl rfl
              simp only [hzz]
              refine Calls.mono hsub ?_
              clear hsub hzz
              rintro e wf ⟨rfl, h1, h2⟩
              have HPf := Lib.hid (HPe.out.own h1 h2)
              clear h1 h2
              go_wp2_with fail
              go_meet
              case rel => exact ⟨g2, s, T, _, rfl, rfl, Lib.hid (((HPf.out.pick (i := 1) rfl).sub (fun q hq => hq.elim)).mono (by omega))⟩
          have kb0 : (wh == 0) = false := by simpa using hk0
          have kb1 : (wh == 1) = false := by simpa using hk1
          have kb2 : (wh == 2) = false := by simpa using hk2
          have kb3 : (wh == 3) = false := by simpa using hk3
          have kb4 : (wh == 4) = false := by simpa using hk4
          clear hk0 hk1 hk2 hk3 hk4
          go_wp2_with fail
          go_meet
          case rel => exact ⟨gb, s, T, _, rfl, rfl, Lib.hid ((HPc.out.sub (fun q hq => hq.elim)).mono (by omega))⟩
        case rest =>
          as_aux_lemma =>
            obtain ⟨g', s', T', wx, hwx, rfl, HPx⟩ := hcut
            subst hwx
            clear HPc HOc HRk o0 o1 o2 o3 o4 o5
            obtain ⟨at2, eat⟩ : ∃ v, alarmX s' = v := ⟨_, rfl⟩
            obtain ⟨st2, est⟩ : ∃ v, setX s' = v := ⟨_, rfl⟩
            obtain ⟨lb, elb⟩ : ∃ v, s'.bs.length = v := ⟨_, rfl⟩
            have Hea := Lib.hid (And.intro eat (And.intro est elb))
            go_wp2_with fail
            refine (px_do HPx.out (yalarm HF.out _ 0 g' s' _ w1 wx HPx.out.at_ rfl at2 st2 Hea.out.1 Hea.out.2.1)).mono ?_
            rintro e wd ⟨rfl, hp, hb⟩
            have HPd := Lib.hid hp
            clear hp hb
            go_upto_region 47 with (fail)
            obtain ⟨we, ewe⟩ : ∃ v, wd.drew = v := ⟨_, rfl⟩
            have HPq := Lib.hid (show PX XAt w1 T' (fun _ => False) [(g', s')] gw x ((j + 1) * 5000) s' we by rw [← ewe]; exact HPd.out.below HF.out (below_dN wd 1))
            have r1 : (s'.una != s'.una) = false := by simp
            have r2 : (nxtX s' != nxtX s') = false := by simp
            have r3 : (endX s' != endX s') = false := by simp
            have r4 : (s'.win != s'.win) = false := by simp
            cases st2 with
            | true =>
              have hb0 : s'.bs ≠ [] := fun e => by unfold setX at est; rw [e] at est; simp at est
              have r5 : (0 : Int) < (s'.bs.length : Int) := by have := List.length_pos_iff.2 hb0; omega
              have r7 : 0 < s'.bs.length := List.length_pos_iff.2 hb0
              have hal : at2 = s'.alarm := by rw [← eat]; unfold alarmX; rw [if_pos est]
              subst hal
              have r6 : (s'.alarm != s'.alarm) = false := by simp
              clear hb0 eat est elb
              refine wp_region_held_drew (S := fun w' => w'.cell? ⟨gw, 4, none⟩ = some (.int .u32 s'.win) ∧ w'.cell? ⟨gw, 8, none⟩ = some (.int .u64 s'.alarm)) (by kernel_rfl) (by rw [ewe]; exact two8 HPq.out) (fun hHeld => ?_)
              rw [ewe] at hHeld ⊢
              clear ewe
              refine tk 0 ?_ rfl ?_ ?_
              rotate_left
              · intro w' hSw; (go_simp <;> (with_reducible rfl))
              try simp only [Act.put, putL]
              refine tk 2 ?_ rfl ?_ ?_
              rotate_left
              · intro w' hSw; (go_simp <;> (with_reducible rfl))
              try simp only [Act.put, putL]
              refine tkC 1 rfl (fun K hK => ?_)
              go_simp
              (refine (px_do HPq.out (yuna HF.out _ 0 g' s' _ w1 _ HPq.out.at_ rfl)).mono ?_; rintro e v1 ⟨rfl, hp, hb⟩; have HPq := Lib.hid hp; clear hp hb)
              refine hK.out _ _ ?_ (fun hHeld => ?_)
              · exact two8 HPq.out
              clear hK K
              try simp only [Act.put, putL]
              refine tkC 3 rfl (fun K hK => ?_)
              go_simp
              (refine (px_runa HPq.out).mono ?_; rintro e w' ⟨rfl, rfl⟩)
              refine hK.out _ _ ?_ (fun hHeld => ?_)
              · exact two8 HPq.out
              clear hK K
              try simp only [Act.put, putL]
              refine tk 4 ?_ rfl ?_ ?_
              rotate_left
              · intro w' hSw; (go_simp <;> (with_reducible rfl))
              try simp only [Act.put, putL]
              refine tk 5 ?_ rfl ?_ ?_
              rotate_left
              · intro w' hSw; (go_simp <;> (with_reducible rfl))
              try simp only [Act.put, putL]
              refine tk 6 ?_ rfl ?_ ?_
              rotate_left
              · intro w' hSw; (go_simp <;> (with_reducible rfl))
              try simp only [Act.put, putL]
              refine tk 8 ?_ rfl ?_ ?_
              rotate_left
              · intro w' hSw; (go_simp <;> (with_reducible rfl))
              try simp only [Act.put, putL]
              refine tkC 7 rfl (fun K hK => ?_)
              go_simp
              (refine (px_do HPq.out (ynxt HF.out _ 0 g' s' _ w1 _ HPq.out.at_ rfl _ rfl)).mono ?_; rintro e v2 ⟨rfl, hp, hb⟩; have HPq := Lib.hid hp; clear hp hb)
              refine hK.out _ _ ?_ (fun hHeld => ?_)
              · exact two8 HPq.out
              clear hK K
              try simp only [Act.put, putL]
              refine tkC 9 rfl (fun K hK => ?_)
              go_simp
              (refine (px_rnxt HPq.out).mono ?_; rintro e w' ⟨rfl, rfl⟩)
              refine hK.out _ _ ?_ (fun hHeld => ?_)
              · exact two8 HPq.out
              clear hK K
              try simp only [Act.put, putL]
              refine tk 10 ?_ rfl ?_ ?_
              rotate_left
              · intro w' hSw; (go_simp <;> (with_reducible rfl))
              try simp only [Act.put, putL]
              refine tk 11 ?_ rfl ?_ ?_
              rotate_left
              · intro w' hSw; (go_simp <;> (with_reducible rfl))
              try simp only [Act.put, putL]
              refine tk 12 ?_ rfl ?_ ?_
              rotate_left
              · intro w' hSw; (go_simp <;> (with_reducible rfl))
              try simp only [Act.put, putL]
              refine tk 13 ?_ rfl ?_ ?_
              rotate_left
              · intro w' hSw; (go_simp <;> (with_reducible rfl))
              try simp only [Act.put, putL]
              refine tk 15 ?_ rfl ?_ ?_
              rotate_left
              · intro w' hSw; (go_simp <;> (with_reducible rfl))
              try simp only [Act.put, putL]
              refine tkC 14 rfl (fun K hK => ?_)
              go_simp
              (refine (px_do HPq.out (yend HF.out _ 0 g' s' _ w1 _ HPq.out.at_ rfl _ rfl)).mono ?_; rintro e v3 ⟨rfl, hp, hb⟩; have HPq := Lib.hid hp; clear hp hb)
              refine hK.out _ _ ?_ (fun hHeld => ?_)
              · exact two8 HPq.out
              clear hK K
              try simp only [Act.put, putL]
              refine tkC 16 rfl (fun K hK => ?_)
              go_simp
              (refine (px_rend HPq.out).mono ?_; rintro e w' ⟨rfl, rfl⟩)
              refine hK.out _ _ ?_ (fun hHeld => ?_)
              · exact two8 HPq.out
              clear hK K
              try simp only [Act.put, putL]
              refine tk 17 ?_ rfl ?_ ?_
              rotate_left
              · intro w' hSw; (go_simp <;> (with_reducible rfl))
              try simp only [Act.put, putL]
              refine tk 18 ?_ rfl ?_ ?_
              rotate_left
              · intro w' hSw; (go_simp <;> (with_reducible rfl))
              try simp only [Act.put, putL]
              refine tk 19 ?_ rfl ?_ ?_
              rotate_left
              · intro w' hSw; (go_simp <;> (with_reducible rfl))
              try simp only [Act.put, putL]
              refine tk 20 ?_ rfl ?_ ?_
              rotate_left
              · intro w' hSw; (go_simp <;> (with_reducible rfl))
              try simp only [Act.put, putL]
              refine tk 22 ?_ rfl ?_ ?_
              rotate_left
              · intro w' hSw; (go_simp <;> (with_reducible rfl))
              try simp only [Act.put, putL]
              refine tk 23 ?_ rfl ?_ ?_
              rotate_left
              · intro w' hSw; (go_simp <;> (with_reducible rfl))
              try simp only [Act.put, putL]
              refine tk 24 ?_ rfl ?_ ?_
              rotate_left
              · intro w' hSw; (go_simp <;> (with_reducible rfl))
              try simp only [Act.put, putL]
              refine tk 25 ?_ rfl ?_ ?_
              rotate_left
              · intro w' hSw; (go_simp <;> (with_reducible rfl))
              try simp only [Act.put, putL]
              refine tkC 21 rfl (fun K hK => ?_)
              go_simp
              (refine (px_do HPq.out (ywindow HF.out _ 0 g' s' _ w1 _ HPq.out.at_ rfl)).mono ?_; rintro e v4 ⟨rfl, hp, hb⟩; have HPq := Lib.hid hp; clear hp hb)
              refine hK.out _ _ ?_ (fun hHeld => ?_)
              · exact two8 HPq.out
              clear hK K
              try simp only [Act.put, putL]
              refine tk 26 ?_ rfl ?_ ?_
              rotate_left
              · intro w' hSw; (go_simp <;> (with_reducible rfl))
              try simp only [Act.put, putL]
              refine tk 27 ?_ rfl ?_ ?_
              rotate_left
              · intro w' hSw; (go_simp <;> (with_reducible rfl))
              try simp only [Act.put, putL]
              refine tk 28 ?_ rfl ?_ ?_
              rotate_left
              · intro w' hSw; (go_simp <;> (with_reducible rfl))
              try simp only [Act.put, putL]
              refine tk 29 ?_ rfl ?_ ?_
              rotate_left
              · intro w' hSw; (go_simp <;> (with_reducible rfl))
              try simp only [Act.put, putL]
              refine tk 30 ?_ rfl ?_ ?_
              rotate_left
              · intro w' hSw; (go_simp <;> (with_reducible rfl))
              try simp only [Act.put, putL]
              refine tkC 31 rfl (fun K hK => ?_)
              go_simp
              (refine (px_rleft HPq.out).mono ?_; rintro e w7 ⟨rfl, m7, rfl⟩; have HPq := Lib.hid (HPq.out.below HF.out (below_dN _ m7)))
              refine hK.out _ _ ?_ (fun hHeld => ?_)
              · exact two8 HPq.out
              clear hK K
              try simp only [Act.put, putL]
              refine tk 32 ?_ rfl ?_ ?_
              rotate_left
              · intro w' hSw; (go_simp <;> (with_reducible rfl))
              try simp only [Act.put, putL]
              refine tk 33 ?_ rfl ?_ ?_
              rotate_left
              · intro w' hSw; (go_simp <;> (with_reducible rfl))
              try simp only [Act.put, putL]
              refine tk 34 ?_ rfl ?_ ?_
              rotate_left
              · intro w' hSw; (go_simp <;> (with_reducible rfl))
              try simp only [Act.put, putL]
              refine tk 35 ?_ rfl ?_ ?_
              rotate_left
              · intro w' hSw; (go_simp <;> (with_reducible rfl))
              try simp only [Act.put, putL]
              refine tk 36 ?_ rfl ?_ ?_
              rotate_left
              · intro w' hSw; (go_simp <;> (with_reducible rfl))
              try simp only [Act.put, putL]
              refine tk 37 ?_ rfl ?_ ?_
              rotate_left
              · intro w' hSw; (go_simp <;> (with_reducible rfl))
              try simp only [Act.put, putL]
              refine tk 38 ?_ rfl ?_ ?_
              rotate_left
              · intro w' hSw; (go_simp <;> (with_reducible rfl))
              try simp only [Act.put, putL]
              refine tk 39 ?_ rfl ?_ ?_
              rotate_left
              · intro w' hSw; (go_simp <;> (with_reducible rfl))
              try simp only [Act.put, putL]
              refine tk 40 ?_ rfl ?_ ?_
              rotate_left
              · intro w' hSw; (go_simp <;> (with_reducible rfl))
              try simp only [Act.put, putL]
              refine tk 41 ?_ rfl ?_ ?_
              rotate_left
              · intro w' hSw; (go_simp <;> (with_reducible rfl))
              try simp only [Act.put, putL]
              refine tk 42 ?_ rfl ?_ ?_
              rotate_left
              · intro w' hSw; (go_simp <;> (with_reducible rfl))
              try simp only [Act.put, putL]
              refine tk 43 ?_ rfl ?_ ?_
              rotate_left
              · intro w' hSw; (go_simp <;> (with_reducible rfl))
              try simp only [Act.put, putL]
              refine tk 44 ?_ rfl ?_ ?_
              rotate_left
              · intro w' hSw; (go_simp <;> (with_reducible rfl))
              try simp only [Act.put, putL]
              refine tk 45 ?_ rfl ?_ ?_
              rotate_left
              · intro w' hSw; (go_simp <;> (with_reducible rfl))
              try simp only [Act.put, putL]
              refine tk 46 ?_ rfl ?_ ?_
              rotate_left
              · intro w' hSw; (go_simp <;> (with_reducible rfl))
              try simp only [Act.put, putL]
              refine tk 47 ?_ rfl ?_ ?_
              rotate_left
              · intro w' hSw; (go_simp <;> (with_reducible rfl))
              try simp only [Act.put, putL]
              refine tk 48 ?_ rfl ?_ ?_
              rotate_left
              · intro w' hSw; (go_simp <;> (with_reducible rfl))
              try simp only [Act.put, putL]
              refine tk 49 ?_ rfl ?_ ?_
              rotate_left
              · intro w' hSw; (go_simp <;> (with_reducible rfl))
              try simp only [Act.put, putL]
              refine tkN 50 rfl ?_
              try simp only [Act.put, putL]
              refine tkN 51 rfl ?_
              try simp only [Act.put, putL]
              refine tk 52 ?_ rfl ?_ ?_
              rotate_left
              · intro w' hSw; (go_simp <;> (with_reducible rfl))
              try simp only [Act.put, putL]
              refine tk 53 ?_ rfl ?_ ?_
              rotate_left
              · intro w' hSw; (go_simp <;> (with_reducible rfl))
              try simp only [Act.put, putL]
              refine wpAnyH_done (by kernel_rfl) ?_ _
              clear hHeld r1 r2 r3 r4 r6
              have i9 : j < 100 := Hk.out.2.2.1
              clear i3 i4 i4'
              go_wp2_with fail
              clear r5 r7
              go_roundg (gk - 1)
              case measure => have := Hk.out; omega
              case rel => exact ⟨j + 1, g', s', T', Lib.hid (by have := Hk.out; show gk - 1 + (j + 1) = _; omega), Lib.hid (by have := Hk.out; omega), rfl, by go_num, HPq⟩
            | false =>
              have hb0 : s'.bs = [] := by
                unfold setX at est
                cases hbs : s'.bs with
                | nil => rfl
                | cons a l => rw [hbs] at est; simp at est
              have r5 : ((0 : Int) < (s'.bs.length : Int)) = False := eq_false (by rw [hb0]; simp)
              have r7 : (0 < s'.bs.length) = False := eq_false (by rw [hb0]; simp)
              have hal : at2 = 0 := by rw [← eat]; unfold alarmX; rw [est]; rfl
              subst hal
              have r6 : True := trivial
              clear hb0 eat est elb
              refine wp_region_held_drew (S := fun w' => w'.cell? ⟨gw, 4, none⟩ = some (.int .u32 s'.win) ∧ w'.cell? ⟨gw, 8, none⟩ = some (.int .u64 s'.alarm)) (by kernel_rfl) (by rw [ewe]; exact two8 HPq.out) (fun hHeld => ?_)
              rw [ewe] at hHeld ⊢
              clear ewe
              refine tk 0 ?_ rfl ?_ ?_
              rotate_left
              · intro w' hSw; (go_simp <;> (with_reducible rfl))
              try simp only [Act.put, putL]
              refine tk 2 ?_ rfl ?_ ?_
              rotate_left
              · intro w' hSw; (go_simp <;> (with_reducible rfl))
              try simp only [Act.put, putL]
              refine tkC 1 rfl (fun K hK => ?_)
              go_simp
              (refine (px_do HPq.out (yuna HF.out _ 0 g' s' _ w1 _ HPq.out.at_ rfl)).mono ?_; rintro e v1 ⟨rfl, hp, hb⟩; have HPq := Lib.hid hp; clear hp hb)
              refine hK.out _ _ ?_ (fun hHeld => ?_)
              · exact two8 HPq.out
              clear hK K
              try simp only [Act.put, putL]
              refine tkC 3 rfl (fun K hK => ?_)
              go_simp
              (refine (px_runa HPq.out).mono ?_; rintro e w' ⟨rfl, rfl⟩)
              refine hK.out _ _ ?_ (fun hHeld => ?_)
              · exact two8 HPq.out
              clear hK K
              try simp only [Act.put, putL]
              refine tk 4 ?_ rfl ?_ ?_
              rotate_left
              · intro w' hSw; (go_simp <;> (with_reducible rfl))
              try simp only [Act.put, putL]
              refine tk 5 ?_ rfl ?_ ?_
              rotate_left
              · intro w' hSw; (go_simp <;> (with_reducible rfl))
              try simp only [Act.put, putL]
              refine tk 6 ?_ rfl ?_ ?_
              rotate_left
              · intro w' hSw; (go_simp <;> (with_reducible rfl))
              try simp only [Act.put, putL]
              refine tk 8 ?_ rfl ?_ ?_
              rotate_left
              · intro w' hSw; (go_simp <;> (with_reducible rfl))
              try simp only [Act.put, putL]
              refine tkC 7 rfl (fun K hK => ?_)
              go_simp
              (refine (px_do HPq.out (ynxt HF.out _ 0 g' s' _ w1 _ HPq.out.at_ rfl _ rfl)).mono ?_; rintro e v2 ⟨rfl, hp, hb⟩; have HPq := Lib.hid hp; clear hp hb)
              refine hK.out _ _ ?_ (fun hHeld => ?_)
              · exact two8 HPq.out
              clear hK K
              try simp only [Act.put, putL]
              refine tkC 9 rfl (fun K hK => ?_)
              go_simp
              (refine (px_rnxt HPq.out).mono ?_; rintro e w' ⟨rfl, rfl⟩)
              refine hK.out _ _ ?_ (fun hHeld => ?_)
              · exact two8 HPq.out
              clear hK K
              try simp only [Act.put, putL]
              refine tk 10 ?_ rfl ?_ ?_
              rotate_left
              · intro w' hSw; (go_simp <;> (with_reducible rfl))
              try simp only [Act.put, putL]
              refine tk 11 ?_ rfl ?_ ?_
              rotate_left
              · intro w' hSw; (go_simp <;> (with_reducible rfl))
              try simp only [Act.put, putL]
              refine tk 12 ?_ rfl ?_ ?_
              rotate_left
              · intro w' hSw; (go_simp <;> (with_reducible rfl))
              try simp only [Act.put, putL]
              refine tk 13 ?_ rfl ?_ ?_
              rotate_left
              · intro w' hSw; (go_simp <;> (with_reducible rfl))
              try simp only [Act.put, putL]
              refine tk 15 ?_ rfl ?_ ?_
              rotate_left
              · intro w' hSw; (go_simp <;> (with_reducible rfl))
              try simp only [Act.put, putL]
              refine tkC 14 rfl (fun K hK => ?_)
              go_simp
              (refine (px_do HPq.out (yend HF.out _ 0 g' s' _ w1 _ HPq.out.at_ rfl _ rfl)).mono ?_; rintro e v3 ⟨rfl, hp, hb⟩; have HPq := Lib.hid hp; clear hp hb)
              refine hK.out _ _ ?_ (fun hHeld => ?_)
              · exact two8 HPq.out
              clear hK K
              try simp only [Act.put, putL]
              refine tkC 16 rfl (fun K hK => ?_)
              go_simp
              (refine (px_rend HPq.out).mono ?_; rintro e w' ⟨rfl, rfl⟩)
              refine hK.out _ _ ?_ (fun hHeld => ?_)
              · exact two8 HPq.out
              clear hK K
              try simp only [Act.put, putL]
              refine tk 17 ?_ rfl ?_ ?_
              rotate_left
              · intro w' hSw; (go_simp <;> (with_reducible rfl))
              try simp only [Act.put, putL]
              refine tk 18 ?_ rfl ?_ ?_
              rotate_left
              · intro w' hSw; (go_simp <;> (with_reducible rfl))
              try simp only [Act.put, putL]
              refine tk 19 ?_ rfl ?_ ?_
              rotate_left
              · intro w' hSw; (go_simp <;> (with_reducible rfl))
              try simp only [Act.put, putL]
              refine tk 20 ?_ rfl ?_ ?_
              rotate_left
              · intro w' hSw; (go_simp <;> (with_reducible rfl))
              try simp only [Act.put, putL]
              refine tk 22 ?_ rfl ?_ ?_
              rotate_left
              · intro w' hSw; (go_simp <;> (with_reducible rfl))
              try simp only [Act.put, putL]
              refine tk 23 ?_ rfl ?_ ?_
              rotate_left
              · intro w' hSw; (go_simp <;> (with_reducible rfl))
              try simp only [Act.put, putL]
              refine tk 24 ?_ rfl ?_ ?_
              rotate_left
              · intro w' hSw; (go_simp <;> (with_reducible rfl))
              try simp only [Act.put, putL]
              refine tk 25 ?_ rfl ?_ ?_
              rotate_left
              · intro w' hSw; (go_simp <;> (with_reducible rfl))
              try simp only [Act.put, putL]
              refine tkC 21 rfl (fun K hK => ?_)
              go_simp
              (refine (px_do HPq.out (ywindow HF.out _ 0 g' s' _ w1 _ HPq.out.at_ rfl)).mono ?_; rintro e v4 ⟨rfl, hp, hb⟩; have HPq := Lib.hid hp; clear hp hb)
              refine hK.out _ _ ?_ (fun hHeld => ?_)
              · exact two8 HPq.out
              clear hK K
              try simp only [Act.put, putL]
              refine tk 26 ?_ rfl ?_ ?_
              rotate_left
              · intro w' hSw; (go_simp <;> (with_reducible rfl))
              try simp only [Act.put, putL]
              refine tk 27 ?_ rfl ?_ ?_
              rotate_left
              · intro w' hSw; (go_simp <;> (with_reducible rfl))
              try simp only [Act.put, putL]
              refine tk 28 ?_ rfl ?_ ?_
              rotate_left
              · intro w' hSw; (go_simp <;> (with_reducible rfl))
              try simp only [Act.put, putL]
              refine tk 29 ?_ rfl ?_ ?_
              rotate_left
              · intro w' hSw; (go_simp <;> (with_reducible rfl))
              try simp only [Act.put, putL]
              refine tk 30 ?_ rfl ?_ ?_
              rotate_left
              · intro w' hSw; (go_simp <;> (with_reducible rfl))
              try simp only [Act.put, putL]
              refine tkC 31 rfl (fun K hK => ?_)
              go_simp
              (refine (px_rleft HPq.out).mono ?_; rintro e w7 ⟨rfl, m7, rfl⟩; have HPq := Lib.hid (HPq.out.below HF.out (below_dN _ m7)))
              refine hK.out _ _ ?_ (fun hHeld => ?_)
              · exact two8 HPq.out
              clear hK K
              try simp only [Act.put, putL]
              refine tk 32 ?_ rfl ?_ ?_
              rotate_left
              · intro w' hSw; (go_simp <;> (with_reducible rfl))
              try simp only [Act.put, putL]
              refine tk 33 ?_ rfl ?_ ?_
              rotate_left
              · intro w' hSw; (go_simp <;> (with_reducible rfl))
              try simp only [Act.put, putL]
              refine tk 34 ?_ rfl ?_ ?_
              rotate_left
              · intro w' hSw; (go_simp <;> (with_reducible rfl))
              try simp only [Act.put, putL]
              refine tk 35 ?_ rfl ?_ ?_
              rotate_left
              · intro w' hSw; (go_simp <;> (with_reducible rfl))
              try simp only [Act.put, putL]
              refine tk 36 ?_ rfl ?_ ?_
              rotate_left
              · intro w' hSw; (go_simp <;> (with_reducible rfl))
              try simp only [Act.put, putL]
              refine tk 37 ?_ rfl ?_ ?_
              rotate_left
              · intro w' hSw; (go_simp <;> (with_reducible rfl))
              try simp only [Act.put, putL]
              refine tkN 38 rfl ?_
              try simp only [Act.put, putL]
              refine tkN 39 rfl ?_
              try simp only [Act.put, putL]
              refine tkN 40 rfl ?_
              try simp only [Act.put, putL]
              refine tkN 41 rfl ?_
              try simp only [Act.put, putL]
              refine tkN 42 rfl ?_
              try simp only [Act.put, putL]
              refine tkN 43 rfl ?_
              try simp only [Act.put, putL]
              refine tk 44 ?_ rfl ?_ ?_
              rotate_left
              · intro w' hSw; (go_simp <;> (with_reducible rfl))
              try simp only [Act.put, putL]
              refine tk 45 ?_ rfl ?_ ?_
              rotate_left
              · intro w' hSw; (go_simp <;> (with_reducible rfl))
              try simp only [Act.put, putL]
              refine tk 46 ?_ rfl ?_ ?_
              rotate_left
              · intro w' hSw; (go_simp <;> (with_reducible rfl))
              try simp only [Act.put, putL]
              refine tk 47 ?_ rfl ?_ ?_
              rotate_left
              · intro w' hSw; (go_simp <;> (with_reducible rfl))
              try simp only [Act.put, putL]
              refine tk 48 ?_ rfl ?_ ?_
              rotate_left
              · intro w' hSw; (go_simp <;> (with_reducible rfl))
              try simp only [Act.put, putL]
              refine tk 49 ?_ rfl ?_ ?_
              rotate_left
              · intro w' hSw; (go_simp <;> (with_reducible rfl))
              try simp only [Act.put, putL]
              refine tk 50 ?_ rfl ?_ ?_
              rotate_left
              · intro w' hSw; (go_simp <;> (with_reducible rfl))
              try simp only [Act.put, putL]
              refine tk 51 ?_ rfl ?_ ?_
              rotate_left
              · intro w' hSw; (go_simp <;> (with_reducible rfl))
              try simp only [Act.put, putL]
              refine tk 52 ?_ rfl ?_ ?_
              rotate_left
              · intro w' hSw; (go_simp <;> (with_reducible rfl))
              try simp only [Act.put, putL]
              refine tk 53 ?_ rfl ?_ ?_
              rotate_left
              · intro w' hSw; (go_simp <;> (with_reducible rfl))
              try simp only [Act.put, putL]
              refine wpAnyH_done (by kernel_rfl) ?_ _
              clear hHeld r1 r2 r3 r4 r6
              have i9 : j < 100 := Hk.out.2.2.1
              clear i3 i4 i4'
              go_wp2_with fail
              clear r5 r7
              go_roundg (gk - 1)
              case measure => have := Hk.out; omega
              case rel => exact ⟨j + 1, g', s', T', Lib.hid (by have := Hk.out; show gk - 1 + (j + 1) = _; omega), Lib.hid (by have := Hk.out; omega), rfl, by go_num, HPq⟩
      · have i3 : (j : Int) < 1000 := by omega
        have i4 : ((j : Int) == 100) = true := by rw [beq_iff_eq]; omega
        have i4' : (j == 100) = true := by rw [beq_iff_eq]; omega
        clear hj2 hrd hw0 hbl hj3
        go_upto_region 10 with (fail)
        try rw [Ewa.out]
        clear q0 q1 q2 q3 q4 q5 hidx
        have hba : Below wr.heap.size wr wa := by rw [← Ewa.out]; exact (Below.refl _ _).alloc (Nat.le_refl _) _
        have HE := Lib.hid (HB1.out.trans ((HP.out.below HF.out hba).old.mono HB1.out.size))
        clear hba
        go_wp2_with fail
        go_ret
        exact ⟨rfl, by first | exact HE.out | (rw [← ez]; exact HE.out)⟩
    · have i1 : ¬ (j : Int) < (n : Int) := by omega
      clear hj2
      have HE := Lib.hid (HB1.out.trans (HP.out.old.mono HB1.out.size))
      go_wp2_with fail
      go_ret
      exact ⟨rfl, by first | exact HE.out | (rw [← ez]; exact HE.out)⟩
end Go.Proofs.Ytncbkgcblmohoaa.rexmitPlaysW
