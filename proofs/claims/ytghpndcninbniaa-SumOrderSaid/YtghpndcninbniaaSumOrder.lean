/-
  SumOrder holds: the sum does not hang on the order of words, nor on parts at even places, nor on words of noughts; with all bytes two by two the other way round it is the other way round. No condition.
-/
import Derived.Test.YtghpndcninbniaaSumCells
import Derived.Test.YtghpndcninbniaaSumOpen
import Derived.Test.YtghpndcninbniaaSumSwap
import Derived.RegionTactic
import Derived.BigRegion
import Derived.Deep.RegionHeld3
namespace Go.Proofs.Ytghpndcninbniaa.sumOrder
open Go.ChangeShapes Go.WideShapes Go.ChangeAt Go.RowKit
set_option linter.unusedVariables false

theorem flat1 (l : List Int) : [l].flatten = l := by simp
theorem Rd.drop {w : World} {b o n k : Nat} {l : List Int} (h : Rd w (some ⟨b, o, none⟩) n l) (hk : k ≤ n) : Rd w (some ⟨b, o + k, none⟩) (n - k) (l.drop k) := by
  refine ⟨by rw [List.length_drop, h.len], fun x hx => h.byte x (List.mem_of_mem_drop hx), fun hn => ?_⟩
  obtain ⟨b', o', e, hlt, hc⟩ := h.at_ (by omega)
  injection e with e
  injection e with e1 e2 _
  subst e1; subst e2
  refine ⟨b, o + k, rfl, hlt, fun i hi => ?_⟩
  rw [Nat.add_assoc, hc (k + i) (by omega)]
  simp [List.getD, List.getElem?_drop]

/-- An append at a step of a region that draws its order. -/
theorem step_app {ops : Array Oper} {o : Oper} {a : Act} {w : World} {K : Act → World → Prop} {Q : Exit → Act → World → Prop} {E : Prop} (hgd : o.guard = none) (s x : Operand)
    (ho : o.op = .call { callee := .builtin .append, args := #[s, x], argTypes := #[23, 23] })
    (B : Nat) (A A' : Option Addr) (n c m c' : Nat) (l l' : List Int) (N : Nat) (l2 : List Int) (hN : n + m = N) (hl : l ++ l' = l2) (hs : a.eval s = .slice A n c) (hx : a.eval x = .slice A' m c') (h : OwnB w B A n c l) (hr : Rd w A' m l') (hsz : n + m ≤ 140737488355328) (hB : B ≤ w.heap.size)
    (hk : ∀ A2 c2 w', OwnB w' B A2 N c2 l2 → w.grownBy w' (Value.slice A n c).ownBlock → Below B w w' → K (a.put o.dst (.slice A2 N c2)) w') :
    if Region.wanted o (yielded ops a.tmps) = true then Oper.wp Try.prog o a w K Q else E := by
  subst hN; subst hl
  have hw : Region.wanted o (yielded ops a.tmps) = true := by simp [Region.wanted, hgd]
  rw [if_pos hw]
  obtain ⟨A2, c2, w', hrun, h1, h2, h3, h4⟩ := app_run w o.type B A A' n c m c' l l' h hr hsz hB
  unfold Oper.wp execOp
  simp only [ho, resolve, invoke, builtin, Sem.run_bind, Sem.run_pure, Result.andThen_ok, List.map_toArray, List.map_cons, List.map_nil, hs, hx, hrun]
  exact hk A2 c2 w' h1 h2 h3

theorem on_alloc_drew {w w' : World} {o : Obj} (hb : Below (w.alloc o).drew.heap.size (w.alloc o).drew w') : Below w.heap.size w w' :=
  (Below.drew ((Below.refl _ _).alloc (Nat.le_refl _) o)).trans (hb.mono (by show w.heap.size ≤ (w.alloc o).heap.size; simp))
theorem grown_none {w w' : World} (h : w.grownBy w' (Value.slice none 0 0).ownBlock) : Below w.heap.size w w' := ⟨h.os, h.tape, h.output, h.size, fun k hk => h.block k hk (by simp [Value.ownBlock])⟩

set_option maxRecDepth 100000 in
set_option maxHeartbeats 8000000 in
theorem walk (w : World) (v0 : Value) (h0 : BytesAt w v0) (at_ : Int) (w1 : (Lit.int .u16 at_).wf = true) (to_ : Int) (w2 : (Lit.int .u16 to_).wf = true) :
    Calls Try.prog 6 #[v0, .int .u16 at_, .int .u16 to_] w fun e w' => e = .returned (.bool true) ∧ Below w.heap.size w w' := by
  obtain ⟨A1, n1, c1, b0, rfl, hn1, hc1, r1⟩ := h0
  obtain ⟨ha0, ha1⟩ := bounds_u16 w1
  obtain ⟨ht0, ht1⟩ := bounds_u16 w2
  have hel := evenL_len b0
  have heb := evenL_byte r1.byte
  obtain ⟨l0, el0⟩ : ∃ l0, evenL b0 = l0 := ⟨_, rfl⟩
  rw [el0] at hel heb
  obtain ⟨m, em⟩ : ∃ m, l0.length = m := ⟨_, rfl⟩
  rw [em] at hel
  obtain ⟨p, hmp⟩ : ∃ p, m = 2 * p := ⟨m / 2, by omega⟩
  have hp1 : 1 ≤ p := by omega
  have hmb : m ≤ 140737488351236 := by have h1 := hel.2.2; have h2 := r1.len; omega
  obtain ⟨Ka, hKa⟩ : ∃ F : Nat, at_ % (p : Int) = (F : Int) := ⟨(at_ % (p : Int)).toNat, by have := Int.emod_nonneg at_ (show (p : Int) ≠ 0 by omega); omega⟩
  have hKap : Ka < p := by have := Int.emod_lt_of_pos at_ (show (0 : Int) < (p : Int) by omega); omega
  obtain ⟨Kt, hKt⟩ : ∃ F : Nat, to_ % (p : Int) = (F : Int) := ⟨(to_ % (p : Int)).toNat, by have := Int.emod_nonneg to_ (show (p : Int) ≠ 0 by omega); omega⟩
  have hKtp : Kt < p := by have := Int.emod_lt_of_pos to_ (show (0 : Int) < (p : Int) by omega); omega
  obtain ⟨xa, exa⟩ : ∃ x, wordL l0 Ka = x := ⟨_, rfl⟩
  obtain ⟨xt, ext⟩ : ∃ x, wordL l0 Kt = x := ⟨_, rfl⟩
  have uxa : U16 xa := by rw [← exa]; exact wordL_bd heb Ka
  have uxt : U16 xt := by rw [← ext]; exact wordL_bd heb Kt
  obtain ⟨s, es⟩ : ∃ s, sumL l0 = s := ⟨_, rfl⟩
  have bs := sumL_bd l0
  rw [es] at bs
  obtain ⟨bs0, bs1⟩ := bs
  obtain ⟨l2, el2⟩ : ∃ l2, layL (layL l0 Ka xt) Kt xa = l2 := ⟨_, rfl⟩
  have hs2 : sumL l2 = s := by
    unfold sumL at es ⊢
    rw [← el2, ← ext, ← exa, sum_moved (by omega) (by omega)]
    exact es
  have hb2 : Bytes l2 := by rw [← el2]; exact layL_byte (layL_byte heb Ka uxt) Kt uxa
  have hst : sumL (swapL l0) = s % 256 * 256 + s / 256 := by rw [sum_turned heb (by omega), es]
  obtain ⟨k2, hk2⟩ : ∃ k2, k2 = 2 * Ka := ⟨_, rfl⟩
  have hk2m : k2 + 2 ≤ m := by omega
  have hso : sumL [l0.drop k2, l0.take k2].flatten = s := by rw [sum_other l0 k2 (by omega) (by omega) (by omega)]; exact es
  have hsp : sumL [l0.take k2, l0.drop k2].flatten = s := by rw [sum_parts]; exact es
  have hsn : sumL (([] ++ l0.take k2 ++ [0, 0]) ++ l0.drop k2) = s := by rw [sum_nought l0 k2 (by omega) (by omega)]; exact es
  have Hel0 := Lib.hid el0
  have Hem := Lib.hid em
  have Hm := Lib.hid hmp
  have HKa := Lib.hid hKa
  have HKt := Lib.hid hKt
  have Hxa := Lib.hid exa
  have Hxt := Lib.hid ext
  have Hs := Lib.hid es
  have Hl2 := Lib.hid el2
  have Hs2 := Lib.hid hs2
  have Hst := Lib.hid hst
  have Hso := Lib.hid hso
  have Hsp := Lib.hid hsp
  have Hsn := Lib.hid hsn
  have Hk2 := Lib.hid hk2
  have hmI : (m : Int) ≤ 140737488351236 := by omega
  clear w1 w2 el0 em hmp hKa hKt hel exa ext es el2 hs2 hst hso hsp hsn hk2
  go_enter Try.func6, Try.ntmps6
  go_wp2_with fail
  refine (even_told A1 n1 c1 b0 l0 m w (by omega) r1 Hel0 Hem).mono ?_
  rintro e w3 ⟨A, c, rfl, hcap, hcm, hown, hB⟩
  obtain ⟨g, rfl, hg1, hg2⟩ := hown.addr (by omega)
  have hrb := hown.rd heb
  clear hown
  go_wp2_with fail
  refine (sum_told _ 1 1 [l0] _ s (by omega) (RdL.one _ _ rfl _ _ _ m c _ hrb hcap hcm) (by rw [flat1]; exact Hs.out)).mono ?_
  rintro e w4 ⟨rfl, hb⟩
  have hrb := hrb.below (on_alloc hb)
  have hB := below_trans hB (on_alloc hb)
  clear hb
  have Hrb := Lib.hid hrb
  go_wp2_with (refine wpList_app rfl (.const (.slice none 0 0)) (.tmp 18) rfl w4.heap.size none (some ⟨g, 0, none⟩) 0 0 m c [] l0 rfl rfl (OwnB.nil _ _) Hrb.out (by omega) (Nat.le_refl _) ?_; intro A5 c5 w5 hown5 _ hb5 _)
  have hh : Hold w4 A5 m c5 l0 w5 := ⟨hb5, by simpa using hown5⟩
  have HRb := Lib.hid (fun (w' : World) (h : Below w4.heap.size w4 w') => Hrb.out.below h)
  have hq : (m : Int) / 2 = (p : Int) := by have := Hm.out; omega
  have hp1I : 1 ≤ (p : Int) := by omega
  have hp0 : ((p : Int) == 0) = false := by simp; omega
  clear hown5 hb5 hrb
  refine (word2_any _ m c l0 to_ p Kt _ (by omega) Hm.out hp1 ht0 HKt.out (HRb.out _ hh.old)).mono ?_
  rintro e w' ⟨rfl, q1, rfl⟩
  have hh := hh.drewN q1
  rw [Hxt.out]
  generalize World.drewN w5 q1 = w6 at hh ⊢
  go_wp2_with fail
  refine (lay_any w4.heap.size A5 m c5 _ at_ xt p Ka _ (by omega) Hm.out hp1 ha0 HKa.out uxt hh.own).mono ?_
  rintro e w7 hlay
  have hh := hh.lay hlay
  obtain ⟨rfl, -, -, -⟩ := hlay
  go_wp2_with fail
  refine (word2_any _ m c l0 at_ p Ka _ (by omega) Hm.out hp1 ha0 HKa.out (HRb.out _ hh.old)).mono ?_
  rintro e w' ⟨rfl, q2, rfl⟩
  have hh := hh.drewN q2
  rw [Hxa.out]
  generalize World.drewN w7 q2 = w8 at hh ⊢
  go_wp2_with fail
  refine (lay_any w4.heap.size A5 m c5 _ to_ xa p Kt _ (by omega) Hm.out hp1 ht0 HKt.out uxa hh.own).mono ?_
  rintro e w9 hlay
  have hh := hh.lay hlay
  obtain ⟨rfl, -, -, -⟩ := hlay
  rw [Hl2.out] at hh
  have hcc := hh.own.cap
  have hccm := hh.own.capMax
  have Hrc := Lib.hid (hh.own.rd hb2)
  have HBc := Lib.hid hh.old
  have HB := Lib.hid hB
  have hKq := HKa.out
  have Hrb9 := Lib.hid (HRb.out _ hh.old)
  have hkk : 2 * (Ka : Int) = (k2 : Int) := by have := Hk2.out; omega
  clear hh hB
  go_wp2_with (refine wpList_app rfl (.const (.slice none 0 0)) (.tmp 43) rfl w9.heap.size none (some ⟨g, 0, none⟩) 0 0 m c [] l0 rfl rfl (OwnB.nil _ _) Hrb9.out (by omega) (Nat.le_refl _) ?_; intro A10 c10 w10 hown10 _ hb10 _)
  clear hkk hKq hq hp0
  have hh : Hold w9 A10 m c10 (swapTo l0 0) w10 := ⟨hb10, by rw [swapTo_zero]; simpa using hown10⟩
  clear hown10 hb10
  obtain ⟨gt, rfl, hgt1, hgt2⟩ := hh.own.addr (by omega)
  go_loopg [11] p (fun gk i wr => ∃ k : Nat, Hid (gk + k = p) ∧ k ≤ p ∧ i = .int .i64 (2 * (k : Int)) ∧ Hold w9 (some ⟨gt, 0, none⟩) m c10 (swapTo l0 k) wr)
  case atStart => exact ⟨0, rfl, Nat.zero_le _, by go_num, hh⟩
  case round =>
    clear hh
    obtain ⟨k, hgk, hk, rfl, hh⟩ := hrel
    by_cases hlt : k < p
    · have hmp := Hm.out
      have hc1 := hh.own.cell (2 * k) (by omega)
      have hc2 := hh.own.cell (2 * k + 1) (by omega)
      rw [swapTo_getD l0 k _ (by omega) (by rw [Hem.out]; omega)] at hc1 hc2
      have hst := swapTo_step l0 k (by rw [Hem.out]; omega)
      obtain ⟨x, ex⟩ : ∃ x, l0.getD (2 * k) 0 = x := ⟨_, rfl⟩
      obtain ⟨y, ey⟩ : ∃ y, l0.getD (2 * k + 1) 0 = y := ⟨_, rfl⟩
      rw [ex] at hc1 hst
      rw [ey] at hc2 hst
      have hf1 : wr.frozen? ⟨gt, 2 * k, none⟩ = false := World.ownsRow.frozenAt hh.own _
      have hf2 : wr.frozen? ⟨gt, 2 * k + 1, none⟩ = false := World.ownsRow.frozenAt hh.own _
      have hi0 : (0 : Int) ≤ 2 * (k : Int) := by omega
      have hi1 : 2 * (k : Int) + 1 < (m : Int) := by omega
      have hi2 : 2 * (k : Int) < (m : Int) := by omega
      have hne : ¬ 2 * k = 2 * k + 1 := by omega
      have hw1 : IntKind.i64.wrap (2 * (k : Int) + 1) = 2 * (k : Int) + 1 := IntWalk.i64_in _ (by omega)
      have hn1 : (2 * (k : Int) + 1).toNat = 2 * k + 1 := by omega
      have hn0 : (2 * (k : Int)).toNat = 2 * k := by omega
      have Hst := Lib.hid hst
      have Hh := Lib.hid hh
      clear ex ey hst hh hmp
      go_wp2_with fail
      go_region
      all_goals
        have hh2 : Hold w9 (some ⟨gt, 0, none⟩) m c10 (swapTo l0 (k + 1)) ((wr.drew.setCell ⟨gt, 2 * k, none⟩ (.int .u8 y)).setCell ⟨gt, 2 * k + 1, none⟩ (.int .u8 x)) := by
          refine ⟨((Below.drew Hh.out.old).setCell hgt1 _).setCell hgt1 _, ?_⟩
          have hd : OwnB wr.drew w9.heap.size (some ⟨gt, 0, none⟩) m c10 (swapTo l0 k) := Hh.out.own
          rw [Hst.out]
          exact (hd.set_ _ _).set_ _ _
        clear hc1 hc2 hf1 hf2 hne hn1 hn0 hw1
        go_wp2_with fail
        go_roundg (gk - 1)
        case measure => have := hgk.out; omega
        case rel => exact ⟨k + 1, by have := hgk.out; show gk - 1 + (k + 1) = _; omega, by omega, by go_num, hh2⟩
    · obtain rfl : k = p := by omega
      have hsw : swapTo l0 k = swapL l0 := swapTo_all l0 k (by have h1 := Hem.out; have h2 := Hm.out; omega)
      rw [hsw] at hh
      have hbt := swapL_byte heb
      have Hrt := Lib.hid (hh.own.rd hbt)
      have hct := hh.own.cap
      have hctm := hh.own.capMax
      have HRb9 := Lib.hid (fun (w' : World) (h : Below wr.heap.size wr w') => (HRb.out wr (HBc.out.trans (hh.old.mono HBc.out.size))).below h)
      have HRc9 := Lib.hid (fun (w' : World) (h : Below wr.heap.size wr w') => (Hrc.out.below hh.old).below h)
      have HRt9 := Lib.hid (fun (w' : World) (h : Below wr.heap.size wr w') => Hrt.out.below h)
      have hB : Below w.heap.size w wr := (below_trans HB.out HBc.out).trans (hh.old.mono (below_trans HB.out HBc.out).size)
      have hm2 := Hm.out
      have hlast : ¬ 2 * (k : Int) + 1 < (m : Int) := by omega
      have hbk : 2 * (k : Int) + 1 ≤ 140737488351237 := by omega
      have hbk0 : 0 ≤ 2 * (k : Int) := by omega
      have hk2I : (k2 : Int) + 2 ≤ (m : Int) := by omega
      have hmcI : (m : Int) ≤ (c : Int) := by omega
      clear hsw hh hm2 Hrt Hrc HRb HBc HB
      go_wp2_with fail
      have hd0 : Below wr.heap.size wr wr.drew := (Below.refl _ _).drew
      have hd1 : ∀ o, Below wr.heap.size wr (wr.drew.alloc o) := fun o => hd0.alloc (Nat.le_refl _) o
      have hk2m' : k2 ≤ m := by omega
      have hk2I1 : (k2 : Int) ≤ (m : Int) := by omega
      have hk2I2 : (k2 : Int) ≤ (c : Int) := by omega
      have hk2I3 : (k2 : Int) < (c : Int) := by omega
      have hk2c : ¬ c = k2 := by omega
      have hz1 : 0 + k2 ≤ 140737488355328 := by omega
      have hz2 : k2 + 2 ≤ 140737488355328 := by omega
      have hz3 : k2 + 2 + (m - k2) ≤ 140737488355328 := by omega
      have hN3 : k2 + 2 + (m - k2) = m + 2 := by omega
      have hbz : ∀ x ∈ ([0, 0] : List Int), 0 ≤ x ∧ x < 256 := by decide
      have HN3 := Lib.hid hN3
      clear hN3
      go_region_held3 (fun w' => True) (exact trivial) (first | ((refine step_app (by rfl) (.const (.slice none 0 0)) (.tmp 70) (by rfl) wr.heap.size none (some ⟨g, 0, none⟩) 0 0 k2 c [] (l0.take k2) k2 (l0.take k2) (Nat.zero_add _) rfl (by rfl) (by rfl) (OwnB.nil _ _) ((HRb9.out _ (by first | exact hd0 | exact hd1 _)).take hk2m') hz1 (by first | exact Nat.le_refl _ | exact Nat.le_succ _ | simp) ?_; intro A11 c11 w11 hown11 hgr11 hb11)) | ((refine step_app (by rfl) (.tmp 71) (.tmp 72) (by rfl) wr.heap.size A11 (some ⟨w11.heap.size, 0, none⟩) k2 c11 2 2 (l0.take k2) [0, 0] (k2 + 2) (l0.take k2 ++ [0, 0]) rfl rfl (by rfl) (by rfl) (hown11.alloc _) (Rd.const_ w11 _ rfl [0, 0] 5 (0, 0) hbz) hz2 (Nat.le_trans hb11.size (Nat.le_of_lt (by simp))) ?_; intro A12 c12 w12 hown12 _ hb12; have hW := (hd0.trans (hb11.alloc hb11.size _)).trans hb12)) | ((refine step_app (by rfl) (.tmp 71) (.tmp 72) (by rfl) wr.heap.size A11 (some ⟨wr.heap.size, 0, none⟩) k2 c11 2 2 (l0.take k2) [0, 0] (k2 + 2) (l0.take k2 ++ [0, 0]) rfl rfl (by rfl) (by rfl) hown11 ((Rd.const_ wr.drew _ rfl [0, 0] 5 (0, 0) hbz).below (grown_none hgr11)) hz2 (Nat.le_trans (hd1 _).size hb11.size) ?_; intro A12 c12 w12 hown12 _ hb12; have hW := ((hd1 _).trans hb11).trans hb12)) | ((refine step_app (by rfl) (.tmp 73) (.tmp 76) (by rfl) wr.heap.size A12 (some ⟨g, k2, none⟩) (k2 + 2) c12 (m - k2) (c - k2) _ (l0.drop k2) (m + 2) _ HN3.out rfl (by rfl) (by rfl) hown12 (by simpa using Rd.drop (HRb9.out _ hW) hk2m') hz3 hW.size ?_; intro A13 c13 w13 hown13 _ hb13; have hW := hW.trans hb13)))
      all_goals
        obtain ⟨ln, eln⟩ : ∃ ln, l0.take k2 ++ [0, 0] ++ l0.drop k2 = ln := ⟨_, rfl⟩
        rw [eln] at hown13
        have hbn : ∀ x ∈ ln, 0 ≤ x ∧ x < 256 := by
          rw [← eln]
          exact ((Bytes.app (fun x hx => heb x (List.mem_of_mem_take hx)) hbz).app (fun x hx => heb x (List.mem_of_mem_drop hx)) : Bytes _)
        have hxn : sumL [ln].flatten = s := by rw [flat1, ← eln]; exact Hsn.out
        have hx2 : sumL [l2].flatten = s := by rw [flat1]; exact Hs2.out
        have hxt : sumL [swapL l0].flatten = s % 256 * 256 + s / 256 := by rw [flat1]; exact Hst.out
        have hcn := hown13.cap
        have hcnm := hown13.capMax
        have HRn13 := Lib.hid (fun (w' : World) (h : Below w13.heap.size w13 w') => (hown13.rd hbn).below h)
        have HRc13 := Lib.hid (fun (w' : World) (h : Below w13.heap.size w13 w') => HRc9.out w' (hW.trans (h.mono hW.size)))
        have HRt13 := Lib.hid (fun (w' : World) (h : Below w13.heap.size w13 w') => HRt9.out w' (hW.trans (h.mono hW.size)))
        have HRtk := Lib.hid (fun (w' : World) (h : Below w13.heap.size w13 w') => (HRb9.out w' (hW.trans (h.mono hW.size))).take hk2m')
        have HRdr := Lib.hid (fun (w' : World) (h : Below w13.heap.size w13 w') => (show Rd w' (some ⟨g, k2, none⟩) (m - k2) (l0.drop k2) by simpa using Rd.drop (HRb9.out w' (hW.trans (h.mono hW.size))) hk2m'))
        have hB13 : Below w.heap.size w w13 := hB.trans (hW.mono hB.size)
        have hct1 : k2 ≤ c := by omega
        have hct2 : m - k2 ≤ c - k2 := by omega
        have hcm2 : c - k2 ≤ maxLen := by omega
        have h1 : 1 ≤ 9223372036854775807 := by omega
        have h2 : 2 ≤ 9223372036854775807 := by omega
        have Hxn := Lib.hid hxn
        have Hx2 := Lib.hid hx2
        have Hxt := Lib.hid hxt
        have hsh : IntKind.u16.wrap (s * 256) = s % 256 * 256 := by rw [wrap_u16]; omega
        have hor := or16 (s % 256) (s / 256) (by omega) (by omega)
        clear eln hxn hx2 hxt hown13 hW hb13 hd0 hd1 hbk hbk0 hlast
        go_wp2_with fail
        go_region_held3 (fun w' => True) (exact trivial) (first | (go_at_call 11; (with_reducible refine (sum_told _ 1 1 [l2] _ s h1 ((RdL.one w13 _ rfl _ _ A5 m c5 l2 (HRc13.out _ (Below.refl _ _)) hcc hccm).below (Below.refl _ _).drew) Hx2.out).mono ?_); rintro e w14 ⟨rfl, hb⟩; have hcur := on_alloc_drew hb; clear hb) | (go_at_call 11; (with_reducible refine (sum_told _ 2 2 [(l0.take k2), (l0.drop k2)] _ s h2 (RdL.two _ _ (by rfl) _ _ (some ⟨g, 0, none⟩) (some ⟨g, k2, none⟩) k2 (m - k2) c (c - k2) (l0.take k2) (l0.drop k2) (HRtk.out _ hcur) hct1 hcm (HRdr.out _ hcur) hct2 hcm2) Hsp.out).mono ?_); rintro e w15 ⟨rfl, hb⟩; have hcur := below_trans hcur (on_alloc hb); clear hb) | (go_at_call 11; (with_reducible refine (sum_told _ 2 2 [(l0.drop k2), (l0.take k2)] _ s h2 (RdL.two _ _ (by rfl) _ _ (some ⟨g, k2, none⟩) (some ⟨g, 0, none⟩) (m - k2) k2 (c - k2) c (l0.drop k2) (l0.take k2) (HRdr.out _ hcur) hct2 hcm2 (HRtk.out _ hcur) hct1 hcm) Hso.out).mono ?_); rintro e w16 ⟨rfl, hb⟩; have hcur := below_trans hcur (on_alloc hb); clear hb) | (go_at_call 11; (with_reducible refine (sum_told _ 1 1 [ln] _ (s) h1 (RdL.one _ _ (by rfl) _ _ A13 (m + 2) c13 ln (HRn13.out _ hcur) hcn hcnm) Hxn.out).mono ?_); rintro e w17 ⟨rfl, hb⟩; have hcur := below_trans hcur (on_alloc hb); clear hb) | (go_at_call 11; (with_reducible refine (sum_told _ 1 1 [(swapL l0)] _ (s % 256 * 256 + s / 256) h1 (RdL.one _ _ (by rfl) _ _ (some ⟨gt, 0, none⟩) m c10 (swapL l0) (HRt13.out _ hcur) hct hctm) Hxt.out).mono ?_); rintro e w18 ⟨rfl, hb⟩; have hcur := below_trans hcur (on_alloc hb); clear hb) | (go_at_call 16; refine (wakes_any _).mono ?_; rintro e w19 ⟨rfl, hbel⟩; have hcur := below_trans hcur hbel))
        go_wp2_with fail
        go_ret
        exact ⟨rfl, below_trans hB13 hcur⟩

theorem own : ownKnob Try.prog.godebug = none := by kernel_rfl
theorem laidOut : laidOutB Try.prog = true := by kernel_rfl

set_option maxRecDepth 100000 in
theorem lifted (os : Os) (started : os.Started) (H : Type) (enc : TypeId × Value → H) :
    ReturnsInHanded {} Try.checked os 6 .any (Rows.sumOrderSpec.pre6 enc Try.prog Try.f6 Rows.sumOrderRow.domain false) (Rows.sumOrderSpec.post enc Try.prog Try.f6 false true false false) := by
  refine returnsInHanded_of_change_sized (C := Try.checked) own started (by kernel_rfl) Try.func6
    (ChangeSpec.witness6 (enc := enc) (C := Try.checked) false ⟨#[], #[(.slice none 0 0), .int .u16 0, .int .u16 0], []⟩ 8 (by kernel_rfl) (by kernel_rfl) (by kernel_rfl) (by kernel_rfl)) ?_
  intro W base args ds gs before hval0 hW hcnd hsz0 _
  have hsz : (DataW.weightsEach Try.prog (Try.f6.params.toList ++ Rows.sumOrderSpec.plain.varTypes Try.prog) (ds ++ gs)).all (· ≤ reachBytes) = true := hsz0
  have hval : ∀ (j : Nat) t v, Try.f6.params[j]? = some t → args[j]? = some v → Value.okWide Try.prog W .any base t v := hval0
  have hW' := hW
  obtain ⟨p, q, hA0, hV, rfl, hfz, hnd⟩ := hW
  have hA : DataW.TrodAll enc Try.prog W 0 (fun _ => true) true Try.f6.params.toList args.toList ds p := hA0
  rw [Try.params6] at hA hval hsz
  obtain ⟨v0, vs0, d0, ds0, p0, q0, hargs, rfl, rfl, h0, r0⟩ := trodAll_cons hA
  obtain ⟨v1, vs1, d1, ds1, p1, q1, rfl, rfl, rfl, h1, r1⟩ := trodAll_cons r0
  obtain ⟨v2, vs2, d2, ds2, p2, q2, rfl, rfl, rfl, h2, r2⟩ := trodAll_cons r1
  obtain ⟨rfl, rfl, rfl⟩ := trodAll_nil r2
  obtain rfl : args = #[v0, v1, v2] := by cases args; simp_all
  obtain ⟨rfl, rfl⟩ := trodVars_none hV
  have k0 := bytes_open (hval 0 23 v0 rfl rfl) h0 (fun elems spare e => by subst e; exact sized_slice hsz (j := 0) (t := 23) (e := 5) rfl rfl Try.underlying23)
  have lt0 : ∀ x ∈ p0, x.block < W.heap.size := by obtain ⟨m, hm⟩ := h0; exact DataW.trod_lt m _ _ _ hm
  obtain ⟨a1, rfl, rfl, rfl, w1⟩ := open_int Try.underlying25 (hval 1 25 v1 rfl rfl) h1
  obtain ⟨a2, rfl, rfl, rfl, w2⟩ := open_int Try.underlying25 (hval 2 25 v2 rfl rfl) h2
  clear hA0 hval0
  refine (walk W v0 k0 a1 w1 a2 w2).mono fun e W' ⟨he, bel⟩ => ?_
  subst he
  exact ⟨_, rfl, _, _, _, [], _, [], hW', trodAll_mk1 (shut_bool Try.underlying4 _), (trodAll_cons_mk (Below.trod laidOut (by kernel_rfl) (of_decide_eq_true (by kernel_rfl)) h0 bel lt0) (trodAll_cons_mk (shut_int Try.underlying25 w1) (trodAll_cons_mk (shut_int Try.underlying25 w2) trodAll_mk0))), rfl, bel.frame _, fun h => by cases h⟩

theorem over : Rows.sumOrderRow.holds Try.pinned (OpenSpec.ofChange Rows.sumOrderSpec) :=
  OpenClaim.holds_of_wide 6 Try.f6 rfl rfl rfl rfl rfl rfl rfl ⟨rfl, rfl, rfl, rfl, rfl⟩ rfl rfl rfl rfl rfl (by kernel_rfl) Try.func6 (by kernel_rfl)
    (of_decide_eq_true (by kernel_rfl)) (by unfold Func.isWrapper; first | (rw [if_pos (by decide +kernel)]; kernel_rfl) | (rw [if_neg (by decide +kernel)]; exact ⟨rfl, rfl⟩))
    (fun os started H enc _ => lifted os started H enc)

/-- The statement. -/
theorem proved : Rows.SumOrderSaid := over
#print axioms proved
end Go.Proofs.Ytghpndcninbniaa.sumOrder
