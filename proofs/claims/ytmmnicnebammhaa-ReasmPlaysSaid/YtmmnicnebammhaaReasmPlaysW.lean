/-
  ReasmPlays' walk, over the face.
-/
import Derived.Test.YtmmnicnebammhaaRmPair
import Derived.Test.YtmmnicnebammhaaRmWakes
import Derived.Test.YtmmnicnebammhaaRmSame
import Derived.Test.YtmmnicnebammhaaRsOpen
import Derived.Test.YtmmnicnebammhaaSpoil
import Derived.Test.YtmmnicnebammhaaTk
import Derived.Deep.CutRange
import Derived.Deep.CutBlock
import Derived.Deep.DeepCutAuto
import Derived.Deep.LoopGhost
import Derived.BigRegion
namespace Go.Proofs.Ytmmnicnebammhaa.reasmPlaysW
set_option maxRecDepth 10000
open Go.RowKit
set_option linter.unusedVariables false
set_option linter.unusedSimpArgs false
variable {BAt : BA}

theorem bx3 {w : World} {g : Nat} {T : TypeId} {fr : Nat × Nat} {a b c : Value} (h : w.heap[g]? = some (.cells #[a, b, c] T fr)) : w.cell? ⟨g, 0, none⟩ = some a ∧ w.cell? ⟨g, 1, none⟩ = some b ∧ w.cell? ⟨g, 2, none⟩ = some c := by
  refine ⟨?_, ?_, ?_⟩ <;> (rw [blk_cell h]; rfl)
theorem str_eql (x : ByteArray) (W : World) : (binOp .eql 9 (.string x) (.string x)).run Try.prog W = .ok (.bool true) W := by
  go_simp
theorem ByRow.on {w w' : World} {V : Nat → Prop} {B : Nat} {A : Option Addr} {m : Nat} (h : ByRow w B A m) (hb : But V w w') (hV : ∀ g, A = some ⟨g, 0, none⟩ → ¬ V g) : ByRow w' B A m := by
  rcases h with h | ⟨g, e, hg, C, hC, hx⟩
  · exact .inl h
  · exact .inr ⟨g, e, hg, C, hb.blk hC (hV g e), hx⟩
structure DatR (w : World) (B : Nat) (A : Option Addr) (n c : Nat) (l : List Int) : Prop where
  own : OwnB w B A n c l
  byte : ∀ x ∈ l, 0 ≤ x ∧ x < 256
section
variable {w w' : World} {B n c : Nat} {A : Option Addr} {l : List Int}
theorem DatR.rd (h : DatR w B A n c l) : Rd w A n l ∧ n ≤ c ∧ c ≤ maxLen := ⟨h.own.rd h.byte, h.own.cap, h.own.capMax⟩
theorem DatR.on (h : DatR w B A n c l) (hb : Below w.heap.size w w') : DatR w' B A n c l := ⟨h.own.on hb, h.byte⟩
theorem DatR.but {V : Nat → Prop} (h : DatR w B A n c l) (hb : But V w w') (hn : ∀ b, (Value.slice A n c).ownBlock = some b → ¬ V b) : DatR w' B A n c l := by
  refine ⟨⟨h.own.1, ?_⟩, h.byte⟩
  rcases h.own.2 with h0 | ⟨g, cap, cur, e, hB, hc, hrest⟩
  · exact .inl h0
  · exact .inr ⟨g, cap, cur, e, hB, hb.blk hc (hn g (by rw [e]; rfl)), hrest⟩
end
theorem num_wrap (x : Int) : IntKind.u32.wrap x = num32 x := by rw [IntKind.wrap_u32]; unfold num32; rfl
theorem num_bd (x : Int) : 0 ≤ num32 x ∧ num32 x < 4294967296 := by unfold num32; omega
theorem bad (F : BFace BAt) (w : World) (at_ room : Int) (hat : 0 ≤ at_ ∧ at_ < 4294967296) (hr : -9223372036854775808 ≤ room ∧ room ≤ 9223372036854775807) (hb : room < 0 ∨ 16384 < room) (v : Value) :
    Calls Try.prog 3 #[.int .u32 at_, .int .i64 room, v] w fun e w' => e = .returned (.bool true) ∧ Below w.heap.size w w' := by
  have H1 := Lib.hid (F.new_bad at_ room w hat hr hb)
  have H2 := Lib.hid (fun W => rnew18_bad at_ room W hb)
  have H3 := Lib.hid (fun W => rmwake_any F W)
  clear F hb hr hat
  go_enter Try.func3, Try.ntmps3
  go_wp2_with fail
  refine H1.out.mono ?_
  rintro e w1 ⟨rfl, hb1⟩
  have Hb1 := Lib.hid hb1
  clear hb1
  go_wp2_with fail
  refine (H2.out w1).mono ?_
  rintro e w2 ⟨rfl, hb2⟩
  have Hb2 := Lib.hid (below_trans Hb1.out hb2)
  clear hb2
  go_wp2_with fail
  refine (H3.out w2).mono ?_
  rintro e w3 ⟨rfl, hb3⟩
  have Hb3 := Lib.hid (below_trans Hb2.out hb3)
  clear hb3
  go_wp2_with fail
  go_ret
  exact ⟨rfl, Hb3.out⟩
theorem below_dN (w : World) (n : Nat) : Below w.heap.size w (w.drewN n) := ((But.refl (fun _ => False) w).drewN n).below (fun _ h => h.elim) (Nat.le_refl _)
theorem two {w : World} {g : Nat} {T : TypeId} {fr : Nat × Nat} {a b c : Value} (h : w.heap[g]? = some (.cells #[a, b, c] T fr)) : w.cell? ⟨g, 0, none⟩ = some a ∧ w.cell? ⟨g, 1, none⟩ = some b := ⟨(bx3 h).1, (bx3 h).2.1⟩
set_option maxHeartbeats 8000000 in
theorem good (F : BFace BAt) (w : World) (nxt : Int) (hat : 0 ≤ nxt ∧ nxt < 4294967296) (room : Nat) (hroom : room ≤ 16384) (A : Option Addr) (n c : Nat) (hops : RdOs w A n) :
    Calls Try.prog 3 #[.int .u32 nxt, .int .i64 (room : Int), .slice A n c] w fun e w' => e = .returned (.bool true) ∧ Below w.heap.size w w' := by
  have HF := Lib.hid F
  have H1 := Lib.hid (F.new_ok nxt room w hat hroom)
  have H2 := Lib.hid (fun W => rnew18_ok nxt room W hroom)
  have Hops := Lib.hid hops
  clear F hat hroom hops
  go_enter Try.func3, Try.ntmps3
  go_wp2_with fail
  refine H1.out.mono ?_
  rintro e w1 ⟨g0, S0, rfl, a1, a2, a3⟩
  have HA := Lib.hid (And.intro a1 (And.intro a2 a3))
  clear a1 a2 a3
  go_wp2_with fail
  refine (H2.out w1).mono ?_
  rintro e w2 ⟨gw, T0, rfl, b1, b2, b3⟩
  have HP0 := Lib.hid (PP.start HF.out HA.out.1 HA.out.2.2 HA.out.2.1 b1 b2 b3)
  clear HA b1 b2 b3 H1 H2
  go_wp2_with fail
  go_loopg [7, 11] n (fun gk x7 x11 wr => ∃ (j gb : Nat) (at_ : Int) (L : BL) (T : Nat → Prop), Hid (gk + j = n) ∧ Hid (j ≤ n ∧ j ≤ 60) ∧ x7 = .pointer (some ⟨gb, 0, none⟩) ∧ x11 = .int .i64 (j : Int) ∧ Hid (PP BAt w T (fun _ => False) [(gb, at_, L)] gw at_ L wr))
  case atStart => exact ⟨0, g0, nxt, _, T0, Lib.hid (by omega), Lib.hid ⟨by omega, by omega⟩, rfl, rfl, HP0⟩
  case round =>
    obtain ⟨j, gb, at_, L, T, hgk, hj, rfl, rfl, HP⟩ := hrel
    have hj2 := hj.out
    have i0 : (0 : Int) ≤ (j : Int) := by omega
    by_cases hjn : j < n
    · have i1 : (j : Int) < (n : Int) := by omega
      by_cases hj3 : j < 60
      · have i3 : (j : Int) < 60 := by omega
        obtain ⟨b, p, wh, at1, AD, nD, cD, lD, hidx, hbl, q0, q1, q2, hwh, hat1, hrd⟩ := (Hops.out.below HP.out.old).index (c := c) hjn
        obtain ⟨zo, ezo⟩ : ∃ z, wr.heap.size = z := ⟨_, rfl⟩
        obtain ⟨wa, ewa⟩ : ∃ v, wr.alloc (.cells #[.int .i64 wh, .int .i32 at1, .slice AD nD cD] 34) = v := ⟨_, rfl⟩
        have hba : Below wr.heap.size wr wa := by rw [← ewa]; exact (Below.refl _ _).alloc (Nat.le_refl _) _
        have HOa := Lib.hid (show wa.heap[zo]? = some (.cells #[.int .i64 wh, .int .i32 at1, .slice AD nD cD] 34 (0, 0)) by rw [← ewa, ← ezo]; exact heap_alloc_new wr _)
        have HPa := Lib.hid (HP.out.below HF.out hba)
        have Hwa := Lib.hid (HPa.out.old.size)
        obtain ⟨k, hmin, hkn, hk2⟩ := min_nat 2000 nD (by omega)
        obtain ⟨hsl, hrk⟩ := (hrd.below hba).upto k hkn
        obtain ⟨ld, eld⟩ : ∃ ld, lD.take k = ld := ⟨_, rfl⟩
        rw [eld] at hrk
        obtain ⟨A2, c2, wb, hrun, ho, hg3, hbb, hat3⟩ := app_run wa 32 wa.heap.size none AD 0 0 k cD [] ld (OwnB.nil _ _) hrk.rd (by omega) (Nat.le_refl _)
        rw [List.nil_append, Nat.zero_add] at ho
        rw [Nat.zero_add] at hrun
        have HRb := Lib.hid (show DatR wb wa.heap.size A2 k c2 ld from ⟨ho, hrk.rd.byte⟩)
        have HPb := Lib.hid (HPa.out.more HF.out (D' := fun q => (Value.slice A2 k c2).ownBlock = some q) hbb (fun q hq => ⟨.inr (ho.blkP hq).1, (ho.blkP hq).2⟩))
        have HOb := Lib.hid (blk_on HOa.out hbb)
        have HOk := Lib.hid (HPb.out.ok HF.out (i := 0) rfl)
        have Hk2 := Lib.hid (show k ≤ 2000 by omega)
        have Hrun := Lib.hid hrun
        have Hgk := Lib.hid (And.intro hgk.out (And.intro hjn hj3))
        obtain ⟨o0, o1, o2⟩ := bx3 HOa.out
        clear hba hrk eld ho hg3 hbb hat3 hrun hk2 hkn hj2 hgk hjn hj3 hwh hat1 hrd
        go_upto_region 11 with (fail)
        try rw [ewa]
        try rw [ezo]
        clear ewa ezo q0 q1 q2 hidx hbl
        go_upto_region 12 with (at_builtin; refine wpList_appX rfl (.const (.slice none 0 0)) (.tmp 66) _ _ rfl rfl _ _ _ wb rfl rfl Hrun.out ?_)
        clear hmin hsl o0 o1 o2 Hrun
        obtain ⟨o0, o1, o2⟩ := bx3 HOb.out
        obtain ⟨AI0, nI0, cI0, vB0, -, hG0, -, hT0⟩ := HPb.out.box
        have HGb := Lib.hid hG0
        clear hG0 hT0
        go_upto_block 2 with (fail)
        go_cut [7, 14] (fun s7 s14 wv => ∃ (g' : Nat) (a' : Int) (L' : BL) (T' : Nat → Prop) (wx : World), wx = wv ∧ s7 = .pointer (some ⟨g', 0, none⟩) ∧ s14 = .bool true ∧ Hid (PP BAt w T' (fun _ => False) [(g', a', L')] gw a' L' wx))
        case first =>
          by_cases hk0 : wh = 0
          · subst hk0
            as_aux_lemma =>
              have v1 : IntKind.u32.wrap at1 = num32 at1 := num_wrap at1
              have v2 : IntKind.u32.wrap (at_ + num32 at1) = num32 (at_ + num32 at1) := num_wrap _
              obtain ⟨u1, eu1⟩ : ∃ u, num32 at1 = u := ⟨_, rfl⟩
              rw [eu1] at v1 v2
              obtain ⟨u2, eu2⟩ : ∃ u, num32 (at_ + u1) = u := ⟨_, rfl⟩
              rw [eu2] at v2
              have v3 : at1 % 4294967296 = u1 := eu1
              have Hu := Lib.hid (And.intro (show 0 ≤ u1 ∧ u1 < 4294967296 by rw [← eu1]; exact num_bd _) (show 0 ≤ u2 ∧ u2 < 4294967296 by rw [← eu2]; exact num_bd _))
              clear eu1 eu2
              go_upto_region 19 with (fail)
              obtain ⟨wd, ewd⟩ : ∃ v, wb.drew = v := ⟨_, rfl⟩
              have hbd : Below wb.heap.size wb wd := by rw [← ewd]; exact ((But.refl (fun _ => False) wb).drew).below (fun _ h => h.elim) (Nat.le_refl _)
              have HPd := Lib.hid (HPb.out.below HF.out hbd)
              have HOd := Lib.hid (blk_on HOb.out hbd)
              have HGd := Lib.hid (blk_on HGb.out hbd)
              have HRd := Lib.hid (HRb.out.on hbd)
              clear hbd
              refine wp_region_held_drew (S := fun w' => (w'.cell? ⟨gw, 0, none⟩ = some (.int .u32 at_)) ∧ (w'.cell? ⟨zo, 1, none⟩ = some (.int .i32 at1))) (by kernel_rfl) (by rw [ewd]; exact ⟨(bx3 HGd.out).1, (bx3 HOd.out).2.1⟩) (fun hHeld => ?_)
              rw [ewd] at hHeld ⊢
              clear ewd
              refine tk 0 ?_ rfl ?_ ?_
              rotate_left
              · intro w' hSw; (go_simp <;> (with_reducible rfl))
              try simp only [Act.put, putL]
              refine tk 1 ?_ rfl ?_ ?_
              rotate_left
              · intro w' hSw; (go_simp <;> (with_reducible rfl))
              try simp only [Act.put, putL]
              refine tk 2 ?_ rfl ?_ ?_
              rotate_left
              · intro w' hSw; (go_simp <;> (with_reducible rfl))
              try simp only [Act.put, putL]
              refine tk 3 ?_ rfl ?_ ?_
              rotate_left
              · intro w' hSw; (go_simp <;> (with_reducible rfl))
              try simp only [Act.put, putL]
              refine tk 4 ?_ rfl ?_ ?_
              rotate_left
              · intro w' hSw; (go_simp <;> (with_reducible rfl))
              try simp only [Act.put, putL]
              refine tk 5 ?_ rfl ?_ ?_
              rotate_left
              · intro w' hSw; (go_simp <;> (with_reducible rfl))
              try simp only [Act.put, putL]
              refine tk 6 ?_ rfl ?_ ?_
              rotate_left
              · intro w' hSw; (go_simp <;> (with_reducible rfl))
              try simp only [Act.put, putL]
              refine tk 7 ?_ rfl ?_ ?_
              rotate_left
              · intro w' hSw; (go_simp <;> (with_reducible rfl))
              try simp only [Act.put, putL]
              refine tk 8 ?_ rfl ?_ ?_
              rotate_left
              · intro w' hSw; (go_simp <;> (with_reducible rfl))
              try simp only [Act.put, putL]
              refine wpAnyH_done (by kernel_rfl) ?_ _
              clear hHeld v2
              obtain ⟨o0, o1, o2⟩ := bx3 HOd.out
              go_wp2_with fail
              clear v1 v3 o0 o1 o2
              obtain ⟨d, ed⟩ : ∃ d, diffB u2 at_ = d := ⟨_, rfl⟩
              obtain ⟨L2, eL⟩ : ∃ M, putQ d ld L = M := ⟨_, rfl⟩
              obtain ⟨mm, em⟩ : ∃ x, putN d ld L = x := ⟨_, rfl⟩
              obtain ⟨xx, ex⟩ : ∃ x, putE d ld L = x := ⟨_, rfl⟩
              refine (pput HF.out HPd.out [(gb, at_, L2)] 0 gb at_ L rfl u2 A2 k c2 ld d L2 mm xx Hu.out.2 HRd.out.rd.1 (by have := Hk2.out; omega) HRd.out.rd.2.1 HRd.out.rd.2.2 (fun b o e _ => by rw [e]; rfl) ed eL em ex rfl).mono ?_
              rintro e we ⟨rfl, hp, hb⟩
              have HPe := Lib.hid hp
              have HRe := Lib.hid (HRd.out.but hb (fun b hb2 hn => hn (.inr (.inr hb2))))
              clear hp hb
              go_wp2_with fail
              refine (prput HF.out HPe.out u2 A2 k c2 ld d L2 mm xx HOk.out.1 HOk.out.2.1 Hu.out.2 HRe.out.rd.1 (by have := Hk2.out; omega) ed eL em ex).mono ?_
              rintro e wf ⟨rfl, Tf, hp, hb⟩
              have HPf := Lib.hid hp
              have HRf := Lib.hid (HRe.out.but hb (fun b hb2 ht => (HPe.out.tb b ht).2 hb2))
              clear hp hb ed eL em ex
              have r1 : ((mm : Int) == (mm : Int)) = true := by simp
              have r2 : (xx == xx) = true := by simp
              have Hb0 := Lib.hid (show w.heap.size ≤ wa.heap.size from Hwa.out)
              go_wp2_with fail
              go_loopg [20] k (fun gk2 x20 wi => ∃ i : Nat, Hid (gk2 + i = k) ∧ x20 = .int .i64 (i : Int) ∧ Hid (ByRow wi wa.heap.size A2 k) ∧ Hid (PP BAt w Tf (fun q => (Value.slice A2 k c2).ownBlock = some q) [(gb, at_, L2)] gw at_ L2 wi))
              case atStart => exact ⟨0, Lib.hid (by omega), rfl, Lib.hid (ByRow.of HRf.out.own), HPf⟩
              case round =>
                obtain ⟨i, hgi, rfl, HBy, HPi⟩ := hrel
                have hgi2 := hgi.out
                have hk3 := Hk2.out
                have i0 : (0 : Int) ≤ (i : Int) := by omega
                by_cases hik : i < k
                · have i1 : (i : Int) < (k : Int) := by omega
                  have i2 : (i : Int) < 20000 := by omega
                  obtain ⟨ga, y, rfl, hga, hidx2, hc3, hf3⟩ := HBy.out.index c2 i hik
                  have HS1 := Lib.hid (fun y' : Int => HBy.out.set_ ga i y')
                  have HS2 := Lib.hid (fun y' : Int => HPi.out.turn HF.out (V := fun q => q = ga) ((But.refl (fun q => q = ga) wr).setCell (p := ⟨ga, i, none⟩) rfl (.int .u8 y')) (fun q hq => ⟨by rw [hq]; rfl, by rw [hq]; have := Hb0.out; omega⟩))
                  have Hx := Lib.hid (And.intro hgi2 hik)
                  clear hga hgi2 hk3 hik
                  go_wp2_with fail
                  go_roundg (gk - 1)
                  case measure => have := Hx.out; omega
                  case rel => exact ⟨i + 1, Lib.hid (by have := Hx.out; show gk - 1 + (i + 1) = _; omega), by go_num, Lib.hid (HS1.out _), Lib.hid (HS2.out _)⟩
                · have i1 : ¬ (i : Int) < (k : Int) := by omega
                  clear hgi2 hk3 hik
                  go_wp2_with fail
                  go_meet
                  case rel => exact ⟨gb, at_, L2, Tf, _, rfl, rfl, rfl, Lib.hid (HPi.out.sub (fun q hq => hq.elim))⟩
          by_cases hk1 : wh = 1
          · subst hk1
            as_aux_lemma =>
              have v1 : IntKind.u32.wrap at1 = num32 at1 := num_wrap at1
              have v2 : IntKind.u32.wrap (at_ + num32 at1) = num32 (at_ + num32 at1) := num_wrap _
              obtain ⟨u1, eu1⟩ : ∃ u, num32 at1 = u := ⟨_, rfl⟩
              rw [eu1] at v1 v2
              obtain ⟨u2, eu2⟩ : ∃ u, num32 (at_ + u1) = u := ⟨_, rfl⟩
              rw [eu2] at v2
              have v3 : at1 % 4294967296 = u1 := eu1
              have Hu := Lib.hid (And.intro (show 0 ≤ u1 ∧ u1 < 4294967296 by rw [← eu1]; exact num_bd _) (show 0 ≤ u2 ∧ u2 < 4294967296 by rw [← eu2]; exact num_bd _))
              clear eu1 eu2
              go_upto_region 19 with (fail)
              obtain ⟨wd, ewd⟩ : ∃ v, wb.drew = v := ⟨_, rfl⟩
              have hbd : Below wb.heap.size wb wd := by rw [← ewd]; exact ((But.refl (fun _ => False) wb).drew).below (fun _ h => h.elim) (Nat.le_refl _)
              have HPd := Lib.hid (HPb.out.below HF.out hbd)
              have HOd := Lib.hid (blk_on HOb.out hbd)
              have HGd := Lib.hid (blk_on HGb.out hbd)
              have HRd := Lib.hid (HRb.out.on hbd)
              clear hbd
              refine wp_region_held_drew (S := fun w' => (w'.cell? ⟨gw, 0, none⟩ = some (.int .u32 at_)) ∧ (w'.cell? ⟨zo, 1, none⟩ = some (.int .i32 at1))) (by kernel_rfl) (by rw [ewd]; exact ⟨(bx3 HGd.out).1, (bx3 HOd.out).2.1⟩) (fun hHeld => ?_)
              rw [ewd] at hHeld ⊢
              clear ewd
              refine tk 0 ?_ rfl ?_ ?_
              rotate_left
              · intro w' hSw; (go_simp <;> (with_reducible rfl))
              try simp only [Act.put, putL]
              refine tk 1 ?_ rfl ?_ ?_
              rotate_left
              · intro w' hSw; (go_simp <;> (with_reducible rfl))
              try simp only [Act.put, putL]
              refine tk 2 ?_ rfl ?_ ?_
              rotate_left
              · intro w' hSw; (go_simp <;> (with_reducible rfl))
              try simp only [Act.put, putL]
              refine tk 3 ?_ rfl ?_ ?_
              rotate_left
              · intro w' hSw; (go_simp <;> (with_reducible rfl))
              try simp only [Act.put, putL]
              refine tk 4 ?_ rfl ?_ ?_
              rotate_left
              · intro w' hSw; (go_simp <;> (with_reducible rfl))
              try simp only [Act.put, putL]
              refine tk 5 ?_ rfl ?_ ?_
              rotate_left
              · intro w' hSw; (go_simp <;> (with_reducible rfl))
              try simp only [Act.put, putL]
              refine tk 6 ?_ rfl ?_ ?_
              rotate_left
              · intro w' hSw; (go_simp <;> (with_reducible rfl))
              try simp only [Act.put, putL]
              refine tk 7 ?_ rfl ?_ ?_
              rotate_left
              · intro w' hSw; (go_simp <;> (with_reducible rfl))
              try simp only [Act.put, putL]
              refine tk 8 ?_ rfl ?_ ?_
              rotate_left
              · intro w' hSw; (go_simp <;> (with_reducible rfl))
              try simp only [Act.put, putL]
              refine wpAnyH_done (by kernel_rfl) ?_ _
              clear hHeld v2
              obtain ⟨o0, o1, o2⟩ := bx3 HOd.out
              go_wp2_with fail
              clear v1 v3 o0 o1 o2
              obtain ⟨d, ed⟩ : ∃ d, diffB u2 at_ = d := ⟨_, rfl⟩
              obtain ⟨L2, eL⟩ : ∃ M, putQ d ld L = M := ⟨_, rfl⟩
              obtain ⟨mm, em⟩ : ∃ x, putN d ld L = x := ⟨_, rfl⟩
              obtain ⟨xx, ex⟩ : ∃ x, putE d ld L = x := ⟨_, rfl⟩
              refine (pput HF.out HPd.out [(gb, at_, L2)] 0 gb at_ L rfl u2 A2 k c2 ld d L2 mm xx Hu.out.2 HRd.out.rd.1 (by have := Hk2.out; omega) HRd.out.rd.2.1 HRd.out.rd.2.2 (fun b o e _ => by rw [e]; rfl) ed eL em ex rfl).mono ?_
              rintro e we ⟨rfl, hp, hb⟩
              have HPe := Lib.hid hp
              have HRe := Lib.hid (HRd.out.but hb (fun b hb2 hn => hn (.inr (.inr hb2))))
              clear hp hb
              go_wp2_with fail
              refine (prput HF.out HPe.out u2 A2 k c2 ld d L2 mm xx HOk.out.1 HOk.out.2.1 Hu.out.2 HRe.out.rd.1 (by have := Hk2.out; omega) ed eL em ex).mono ?_
              rintro e wf ⟨rfl, Tf, hp, hb⟩
              have HPf := Lib.hid hp
              have HRf := Lib.hid (HRe.out.but hb (fun b hb2 ht => (HPe.out.tb b ht).2 hb2))
              clear hp hb ed eL em ex
              have r1 : ((mm : Int) == (mm : Int)) = true := by simp
              have r2 : (xx == xx) = true := by simp
              have Hb0 := Lib.hid (show w.heap.size ≤ wa.heap.size from Hwa.out)
              go_wp2_with fail
              go_loopg [20] k (fun gk2 x20 wi => ∃ i : Nat, Hid (gk2 + i = k) ∧ x20 = .int .i64 (i : Int) ∧ Hid (ByRow wi wa.heap.size A2 k) ∧ Hid (PP BAt w Tf (fun q => (Value.slice A2 k c2).ownBlock = some q) [(gb, at_, L2)] gw at_ L2 wi))
              case atStart => exact ⟨0, Lib.hid (by omega), rfl, Lib.hid (ByRow.of HRf.out.own), HPf⟩
              case round =>
                obtain ⟨i, hgi, rfl, HBy, HPi⟩ := hrel
                have hgi2 := hgi.out
                have hk3 := Hk2.out
                have i0 : (0 : Int) ≤ (i : Int) := by omega
                by_cases hik : i < k
                · have i1 : (i : Int) < (k : Int) := by omega
                  have i2 : (i : Int) < 20000 := by omega
                  obtain ⟨ga, y, rfl, hga, hidx2, hc3, hf3⟩ := HBy.out.index c2 i hik
                  have HS1 := Lib.hid (fun y' : Int => HBy.out.set_ ga i y')
                  have HS2 := Lib.hid (fun y' : Int => HPi.out.turn HF.out (V := fun q => q = ga) ((But.refl (fun q => q = ga) wr).setCell (p := ⟨ga, i, none⟩) rfl (.int .u8 y')) (fun q hq => ⟨by rw [hq]; rfl, by rw [hq]; have := Hb0.out; omega⟩))
                  have Hx := Lib.hid (And.intro hgi2 hik)
                  clear hga hgi2 hk3 hik
                  go_wp2_with fail
                  go_roundg (gk - 1)
                  case measure => have := Hx.out; omega
                  case rel => exact ⟨i + 1, Lib.hid (by have := Hx.out; show gk - 1 + (i + 1) = _; omega), by go_num, Lib.hid (HS1.out _), Lib.hid (HS2.out _)⟩
                · have i1 : ¬ (i : Int) < (k : Int) := by omega
                  clear hgi2 hk3 hik
                  go_wp2_with fail
                  go_meet
                  case rel => exact ⟨gb, at_, L2, Tf, _, rfl, rfl, rfl, Lib.hid (HPi.out.sub (fun q hq => hq.elim))⟩
          by_cases hk2 : wh = 2
          · subst hk2
            as_aux_lemma =>
              have v1 : IntKind.u32.wrap at1 = num32 at1 := num_wrap at1
              have v2 : IntKind.u32.wrap (at_ + num32 at1) = num32 (at_ + num32 at1) := num_wrap _
              obtain ⟨u1, eu1⟩ : ∃ u, num32 at1 = u := ⟨_, rfl⟩
              rw [eu1] at v1 v2
              obtain ⟨u2, eu2⟩ : ∃ u, num32 (at_ + u1) = u := ⟨_, rfl⟩
              rw [eu2] at v2
              have v3 : at1 % 4294967296 = u1 := eu1
              have Hu := Lib.hid (And.intro (show 0 ≤ u1 ∧ u1 < 4294967296 by rw [← eu1]; exact num_bd _) (show 0 ≤ u2 ∧ u2 < 4294967296 by rw [← eu2]; exact num_bd _))
              clear eu1 eu2
              go_upto_region 19 with (fail)
              obtain ⟨wd, ewd⟩ : ∃ v, wb.drew = v := ⟨_, rfl⟩
              have hbd : Below wb.heap.size wb wd := by rw [← ewd]; exact ((But.refl (fun _ => False) wb).drew).below (fun _ h => h.elim) (Nat.le_refl _)
              have HPd := Lib.hid (HPb.out.below HF.out hbd)
              have HOd := Lib.hid (blk_on HOb.out hbd)
              have HGd := Lib.hid (blk_on HGb.out hbd)
              have HRd := Lib.hid (HRb.out.on hbd)
              clear hbd
              refine wp_region_held_drew (S := fun w' => (w'.cell? ⟨gw, 0, none⟩ = some (.int .u32 at_)) ∧ (w'.cell? ⟨zo, 1, none⟩ = some (.int .i32 at1))) (by kernel_rfl) (by rw [ewd]; exact ⟨(bx3 HGd.out).1, (bx3 HOd.out).2.1⟩) (fun hHeld => ?_)
              rw [ewd] at hHeld ⊢
              clear ewd
              refine tk 0 ?_ rfl ?_ ?_
              rotate_left
              · intro w' hSw; (go_simp <;> (with_reducible rfl))
              try simp only [Act.put, putL]
              refine tk 1 ?_ rfl ?_ ?_
              rotate_left
              · intro w' hSw; (go_simp <;> (with_reducible rfl))
              try simp only [Act.put, putL]
              refine tk 2 ?_ rfl ?_ ?_
              rotate_left
              · intro w' hSw; (go_simp <;> (with_reducible rfl))
              try simp only [Act.put, putL]
              refine tk 3 ?_ rfl ?_ ?_
              rotate_left
              · intro w' hSw; (go_simp <;> (with_reducible rfl))
              try simp only [Act.put, putL]
              refine tk 4 ?_ rfl ?_ ?_
              rotate_left
              · intro w' hSw; (go_simp <;> (with_reducible rfl))
              try simp only [Act.put, putL]
              refine tk 5 ?_ rfl ?_ ?_
              rotate_left
              · intro w' hSw; (go_simp <;> (with_reducible rfl))
              try simp only [Act.put, putL]
              refine tk 6 ?_ rfl ?_ ?_
              rotate_left
              · intro w' hSw; (go_simp <;> (with_reducible rfl))
              try simp only [Act.put, putL]
              refine tk 7 ?_ rfl ?_ ?_
              rotate_left
              · intro w' hSw; (go_simp <;> (with_reducible rfl))
              try simp only [Act.put, putL]
              refine tk 8 ?_ rfl ?_ ?_
              rotate_left
              · intro w' hSw; (go_simp <;> (with_reducible rfl))
              try simp only [Act.put, putL]
              refine wpAnyH_done (by kernel_rfl) ?_ _
              clear hHeld v2
              obtain ⟨o0, o1, o2⟩ := bx3 HOd.out
              go_wp2_with fail
              clear v1 v3 o0 o1 o2
              obtain ⟨d, ed⟩ : ∃ d, diffB u2 at_ = d := ⟨_, rfl⟩
              obtain ⟨L2, eL⟩ : ∃ M, putQ d ld L = M := ⟨_, rfl⟩
              obtain ⟨mm, em⟩ : ∃ x, putN d ld L = x := ⟨_, rfl⟩
              obtain ⟨xx, ex⟩ : ∃ x, putE d ld L = x := ⟨_, rfl⟩
              refine (pput HF.out HPd.out [(gb, at_, L2)] 0 gb at_ L rfl u2 A2 k c2 ld d L2 mm xx Hu.out.2 HRd.out.rd.1 (by have := Hk2.out; omega) HRd.out.rd.2.1 HRd.out.rd.2.2 (fun b o e _ => by rw [e]; rfl) ed eL em ex rfl).mono ?_
              rintro e we ⟨rfl, hp, hb⟩
              have HPe := Lib.hid hp
              have HRe := Lib.hid (HRd.out.but hb (fun b hb2 hn => hn (.inr (.inr hb2))))
              clear hp hb
              go_wp2_with fail
              refine (prput HF.out HPe.out u2 A2 k c2 ld d L2 mm xx HOk.out.1 HOk.out.2.1 Hu.out.2 HRe.out.rd.1 (by have := Hk2.out; omega) ed eL em ex).mono ?_
              rintro e wf ⟨rfl, Tf, hp, hb⟩
              have HPf := Lib.hid hp
              have HRf := Lib.hid (HRe.out.but hb (fun b hb2 ht => (HPe.out.tb b ht).2 hb2))
              clear hp hb ed eL em ex
              have r1 : ((mm : Int) == (mm : Int)) = true := by simp
              have r2 : (xx == xx) = true := by simp
              have Hb0 := Lib.hid (show w.heap.size ≤ wa.heap.size from Hwa.out)
              go_wp2_with fail
              go_loopg [20] k (fun gk2 x20 wi => ∃ i : Nat, Hid (gk2 + i = k) ∧ x20 = .int .i64 (i : Int) ∧ Hid (ByRow wi wa.heap.size A2 k) ∧ Hid (PP BAt w Tf (fun q => (Value.slice A2 k c2).ownBlock = some q) [(gb, at_, L2)] gw at_ L2 wi))
              case atStart => exact ⟨0, Lib.hid (by omega), rfl, Lib.hid (ByRow.of HRf.out.own), HPf⟩
              case round =>
                obtain ⟨i, hgi, rfl, HBy, HPi⟩ := hrel
                have hgi2 := hgi.out
                have hk3 := Hk2.out
                have i0 : (0 : Int) ≤ (i : Int) := by omega
                by_cases hik : i < k
                · have i1 : (i : Int) < (k : Int) := by omega
                  have i2 : (i : Int) < 20000 := by omega
                  obtain ⟨ga, y, rfl, hga, hidx2, hc3, hf3⟩ := HBy.out.index c2 i hik
                  have HS1 := Lib.hid (fun y' : Int => HBy.out.set_ ga i y')
                  have HS2 := Lib.hid (fun y' : Int => HPi.out.turn HF.out (V := fun q => q = ga) ((But.refl (fun q => q = ga) wr).setCell (p := ⟨ga, i, none⟩) rfl (.int .u8 y')) (fun q hq => ⟨by rw [hq]; rfl, by rw [hq]; have := Hb0.out; omega⟩))
                  have Hx := Lib.hid (And.intro hgi2 hik)
                  clear hga hgi2 hk3 hik
                  go_wp2_with fail
                  go_roundg (gk - 1)
                  case measure => have := Hx.out; omega
                  case rel => exact ⟨i + 1, Lib.hid (by have := Hx.out; show gk - 1 + (i + 1) = _; omega), by go_num, Lib.hid (HS1.out _), Lib.hid (HS2.out _)⟩
                · have i1 : ¬ (i : Int) < (k : Int) := by omega
                  clear hgi2 hk3 hik
                  go_wp2_with fail
                  go_meet
                  case rel => exact ⟨gb, at_, L2, Tf, _, rfl, rfl, rfl, Lib.hid (HPi.out.sub (fun q hq => hq.elim))⟩
          by_cases hk3 : wh = 3
          · subst hk3
            as_aux_lemma =>
              have v1 : IntKind.u32.wrap at1 = num32 at1 := num_wrap at1
              have v2 : IntKind.u32.wrap (at_ + num32 at1) = num32 (at_ + num32 at1) := num_wrap _
              obtain ⟨u1, eu1⟩ : ∃ u, num32 at1 = u := ⟨_, rfl⟩
              rw [eu1] at v1 v2
              obtain ⟨u2, eu2⟩ : ∃ u, num32 (at_ + u1) = u := ⟨_, rfl⟩
              rw [eu2] at v2
              have v3 : at1 % 4294967296 = u1 := eu1
              have Hu := Lib.hid (And.intro (show 0 ≤ u1 ∧ u1 < 4294967296 by rw [← eu1]; exact num_bd _) (show 0 ≤ u2 ∧ u2 < 4294967296 by rw [← eu2]; exact num_bd _))
              clear eu1 eu2
              go_upto_region 19 with (fail)
              obtain ⟨wd, ewd⟩ : ∃ v, wb.drew = v := ⟨_, rfl⟩
              have hbd : Below wb.heap.size wb wd := by rw [← ewd]; exact ((But.refl (fun _ => False) wb).drew).below (fun _ h => h.elim) (Nat.le_refl _)
              have HPd := Lib.hid (HPb.out.below HF.out hbd)
              have HOd := Lib.hid (blk_on HOb.out hbd)
              have HGd := Lib.hid (blk_on HGb.out hbd)
              have HRd := Lib.hid (HRb.out.on hbd)
              clear hbd
              refine wp_region_held_drew (S := fun w' => (w'.cell? ⟨gw, 0, none⟩ = some (.int .u32 at_)) ∧ (w'.cell? ⟨zo, 1, none⟩ = some (.int .i32 at1))) (by kernel_rfl) (by rw [ewd]; exact ⟨(bx3 HGd.out).1, (bx3 HOd.out).2.1⟩) (fun hHeld => ?_)
              rw [ewd] at hHeld ⊢
              clear ewd
              refine tk 0 ?_ rfl ?_ ?_
              rotate_left
              · intro w' hSw; (go_simp <;> (with_reducible rfl))
              try simp only [Act.put, putL]
              refine tk 1 ?_ rfl ?_ ?_
              rotate_left
              · intro w' hSw; (go_simp <;> (with_reducible rfl))
              try simp only [Act.put, putL]
              refine tk 2 ?_ rfl ?_ ?_
              rotate_left
              · intro w' hSw; (go_simp <;> (with_reducible rfl))
              try simp only [Act.put, putL]
              refine tk 3 ?_ rfl ?_ ?_
              rotate_left
              · intro w' hSw; (go_simp <;> (with_reducible rfl))
              try simp only [Act.put, putL]
              refine tk 4 ?_ rfl ?_ ?_
              rotate_left
              · intro w' hSw; (go_simp <;> (with_reducible rfl))
              try simp only [Act.put, putL]
              refine tk 5 ?_ rfl ?_ ?_
              rotate_left
              · intro w' hSw; (go_simp <;> (with_reducible rfl))
              try simp only [Act.put, putL]
              refine tk 6 ?_ rfl ?_ ?_
              rotate_left
              · intro w' hSw; (go_simp <;> (with_reducible rfl))
              try simp only [Act.put, putL]
              refine tk 7 ?_ rfl ?_ ?_
              rotate_left
              · intro w' hSw; (go_simp <;> (with_reducible rfl))
              try simp only [Act.put, putL]
              refine tk 8 ?_ rfl ?_ ?_
              rotate_left
              · intro w' hSw; (go_simp <;> (with_reducible rfl))
              try simp only [Act.put, putL]
              refine wpAnyH_done (by kernel_rfl) ?_ _
              clear hHeld v2
              obtain ⟨o0, o1, o2⟩ := bx3 HOd.out
              go_wp2_with fail
              clear v1 v3 o0 o1 o2
              obtain ⟨d, ed⟩ : ∃ d, diffB u2 at_ = d := ⟨_, rfl⟩
              obtain ⟨L2, eL⟩ : ∃ M, putQ d ld L = M := ⟨_, rfl⟩
              obtain ⟨mm, em⟩ : ∃ x, putN d ld L = x := ⟨_, rfl⟩
              obtain ⟨xx, ex⟩ : ∃ x, putE d ld L = x := ⟨_, rfl⟩
              refine (pput HF.out HPd.out [(gb, at_, L2)] 0 gb at_ L rfl u2 A2 k c2 ld d L2 mm xx Hu.out.2 HRd.out.rd.1 (by have := Hk2.out; omega) HRd.out.rd.2.1 HRd.out.rd.2.2 (fun b o e _ => by rw [e]; rfl) ed eL em ex rfl).mono ?_
              rintro e we ⟨rfl, hp, hb⟩
              have HPe := Lib.hid hp
              have HRe := Lib.hid (HRd.out.but hb (fun b hb2 hn => hn (.inr (.inr hb2))))
              clear hp hb
              go_wp2_with fail
              refine (prput HF.out HPe.out u2 A2 k c2 ld d L2 mm xx HOk.out.1 HOk.out.2.1 Hu.out.2 HRe.out.rd.1 (by have := Hk2.out; omega) ed eL em ex).mono ?_
              rintro e wf ⟨rfl, Tf, hp, hb⟩
              have HPf := Lib.hid hp
              have HRf := Lib.hid (HRe.out.but hb (fun b hb2 ht => (HPe.out.tb b ht).2 hb2))
              clear hp hb ed eL em ex
              have r1 : ((mm : Int) == (mm : Int)) = true := by simp
              have r2 : (xx == xx) = true := by simp
              have Hb0 := Lib.hid (show w.heap.size ≤ wa.heap.size from Hwa.out)
              go_wp2_with fail
              go_loopg [20] k (fun gk2 x20 wi => ∃ i : Nat, Hid (gk2 + i = k) ∧ x20 = .int .i64 (i : Int) ∧ Hid (ByRow wi wa.heap.size A2 k) ∧ Hid (PP BAt w Tf (fun q => (Value.slice A2 k c2).ownBlock = some q) [(gb, at_, L2)] gw at_ L2 wi))
              case atStart => exact ⟨0, Lib.hid (by omega), rfl, Lib.hid (ByRow.of HRf.out.own), HPf⟩
              case round =>
                obtain ⟨i, hgi, rfl, HBy, HPi⟩ := hrel
                have hgi2 := hgi.out
                have hk3 := Hk2.out
                have i0 : (0 : Int) ≤ (i : Int) := by omega
                by_cases hik : i < k
                · have i1 : (i : Int) < (k : Int) := by omega
                  have i2 : (i : Int) < 20000 := by omega
                  obtain ⟨ga, y, rfl, hga, hidx2, hc3, hf3⟩ := HBy.out.index c2 i hik
                  have HS1 := Lib.hid (fun y' : Int => HBy.out.set_ ga i y')
                  have HS2 := Lib.hid (fun y' : Int => HPi.out.turn HF.out (V := fun q => q = ga) ((But.refl (fun q => q = ga) wr).setCell (p := ⟨ga, i, none⟩) rfl (.int .u8 y')) (fun q hq => ⟨by rw [hq]; rfl, by rw [hq]; have := Hb0.out; omega⟩))
                  have Hx := Lib.hid (And.intro hgi2 hik)
                  clear hga hgi2 hk3 hik
                  go_wp2_with fail
                  go_roundg (gk - 1)
                  case measure => have := Hx.out; omega
                  case rel => exact ⟨i + 1, Lib.hid (by have := Hx.out; show gk - 1 + (i + 1) = _; omega), by go_num, Lib.hid (HS1.out _), Lib.hid (HS2.out _)⟩
                · have i1 : ¬ (i : Int) < (k : Int) := by omega
                  clear hgi2 hk3 hik
                  go_wp2_with fail
                  go_meet
                  case rel => exact ⟨gb, at_, L2, Tf, _, rfl, rfl, rfl, Lib.hid (HPi.out.sub (fun q hq => hq.elim))⟩
          by_cases hk7 : wh = 7
          · subst hk7
            as_aux_lemma =>
              have v1 : IntKind.u32.wrap at1 = num32 at1 := num_wrap at1
              have v2 : IntKind.u32.wrap (at_ + num32 at1) = num32 (at_ + num32 at1) := num_wrap _
              obtain ⟨u1, eu1⟩ : ∃ u, num32 at1 = u := ⟨_, rfl⟩
              rw [eu1] at v1 v2
              obtain ⟨u2, eu2⟩ : ∃ u, num32 (at_ + u1) = u := ⟨_, rfl⟩
              rw [eu2] at v2
              have v3 : at1 % 4294967296 = u1 := eu1
              have Hu := Lib.hid (And.intro (show 0 ≤ u1 ∧ u1 < 4294967296 by rw [← eu1]; exact num_bd _) (show 0 ≤ u2 ∧ u2 < 4294967296 by rw [← eu2]; exact num_bd _))
              clear eu1 eu2
              go_upto_region 19 with (fail)
              obtain ⟨wd, ewd⟩ : ∃ v, wb.drew = v := ⟨_, rfl⟩
              have hbd : Below wb.heap.size wb wd := by rw [← ewd]; exact ((But.refl (fun _ => False) wb).drew).below (fun _ h => h.elim) (Nat.le_refl _)
              have HPd := Lib.hid (HPb.out.below HF.out hbd)
              have HOd := Lib.hid (blk_on HOb.out hbd)
              have HGd := Lib.hid (blk_on HGb.out hbd)
              have HRd := Lib.hid (HRb.out.on hbd)
              clear hbd
              refine wp_region_held_drew (S := fun w' => (w'.cell? ⟨gw, 0, none⟩ = some (.int .u32 at_)) ∧ (w'.cell? ⟨zo, 1, none⟩ = some (.int .i32 at1))) (by kernel_rfl) (by rw [ewd]; exact ⟨(bx3 HGd.out).1, (bx3 HOd.out).2.1⟩) (fun hHeld => ?_)
              rw [ewd] at hHeld ⊢
              clear ewd
              refine tk 0 ?_ rfl ?_ ?_
              rotate_left
              · intro w' hSw; (go_simp <;> (with_reducible rfl))
              try simp only [Act.put, putL]
              refine tk 1 ?_ rfl ?_ ?_
              rotate_left
              · intro w' hSw; (go_simp <;> (with_reducible rfl))
              try simp only [Act.put, putL]
              refine tk 2 ?_ rfl ?_ ?_
              rotate_left
              · intro w' hSw; (go_simp <;> (with_reducible rfl))
              try simp only [Act.put, putL]
              refine tk 3 ?_ rfl ?_ ?_
              rotate_left
              · intro w' hSw; (go_simp <;> (with_reducible rfl))
              try simp only [Act.put, putL]
              refine tk 4 ?_ rfl ?_ ?_
              rotate_left
              · intro w' hSw; (go_simp <;> (with_reducible rfl))
              try simp only [Act.put, putL]
              refine tk 5 ?_ rfl ?_ ?_
              rotate_left
              · intro w' hSw; (go_simp <;> (with_reducible rfl))
              try simp only [Act.put, putL]
              refine tk 6 ?_ rfl ?_ ?_
              rotate_left
              · intro w' hSw; (go_simp <;> (with_reducible rfl))
              try simp only [Act.put, putL]
              refine tk 7 ?_ rfl ?_ ?_
              rotate_left
              · intro w' hSw; (go_simp <;> (with_reducible rfl))
              try simp only [Act.put, putL]
              refine tk 8 ?_ rfl ?_ ?_
              rotate_left
              · intro w' hSw; (go_simp <;> (with_reducible rfl))
              try simp only [Act.put, putL]
              refine wpAnyH_done (by kernel_rfl) ?_ _
              clear hHeld v2
              obtain ⟨o0, o1, o2⟩ := bx3 HOd.out
              go_wp2_with fail
              clear v1 v3 o0 o1 o2
              obtain ⟨d, ed⟩ : ∃ d, diffB u1 at_ = d := ⟨_, rfl⟩
              obtain ⟨L2, eL⟩ : ∃ M, putQ d ld L = M := ⟨_, rfl⟩
              obtain ⟨mm, em⟩ : ∃ x, putN d ld L = x := ⟨_, rfl⟩
              obtain ⟨xx, ex⟩ : ∃ x, putE d ld L = x := ⟨_, rfl⟩
              refine (pput HF.out HPd.out [(gb, at_, L2)] 0 gb at_ L rfl u1 A2 k c2 ld d L2 mm xx Hu.out.1 HRd.out.rd.1 (by have := Hk2.out; omega) HRd.out.rd.2.1 HRd.out.rd.2.2 (fun b o e _ => by rw [e]; rfl) ed eL em ex rfl).mono ?_
              rintro e we ⟨rfl, hp, hb⟩
              have HPe := Lib.hid hp
              have HRe := Lib.hid (HRd.out.but hb (fun b hb2 hn => hn (.inr (.inr hb2))))
              clear hp hb
              go_wp2_with fail
              refine (prput HF.out HPe.out u1 A2 k c2 ld d L2 mm xx HOk.out.1 HOk.out.2.1 Hu.out.1 HRe.out.rd.1 (by have := Hk2.out; omega) ed eL em ex).mono ?_
              rintro e wf ⟨rfl, Tf, hp, hb⟩
              have HPf := Lib.hid hp
              have HRf := Lib.hid (HRe.out.but hb (fun b hb2 ht => (HPe.out.tb b ht).2 hb2))
              clear hp hb ed eL em ex
              have r1 : ((mm : Int) == (mm : Int)) = true := by simp
              have r2 : (xx == xx) = true := by simp
              have Hb0 := Lib.hid (show w.heap.size ≤ wa.heap.size from Hwa.out)
              go_wp2_with fail
              go_loopg [20] k (fun gk2 x20 wi => ∃ i : Nat, Hid (gk2 + i = k) ∧ x20 = .int .i64 (i : Int) ∧ Hid (ByRow wi wa.heap.size A2 k) ∧ Hid (PP BAt w Tf (fun q => (Value.slice A2 k c2).ownBlock = some q) [(gb, at_, L2)] gw at_ L2 wi))
              case atStart => exact ⟨0, Lib.hid (by omega), rfl, Lib.hid (ByRow.of HRf.out.own), HPf⟩
              case round =>
                obtain ⟨i, hgi, rfl, HBy, HPi⟩ := hrel
                have hgi2 := hgi.out
                have hk3 := Hk2.out
                have i0 : (0 : Int) ≤ (i : Int) := by omega
                by_cases hik : i < k
                · have i1 : (i : Int) < (k : Int) := by omega
                  have i2 : (i : Int) < 20000 := by omega
                  obtain ⟨ga, y, rfl, hga, hidx2, hc3, hf3⟩ := HBy.out.index c2 i hik
                  have HS1 := Lib.hid (fun y' : Int => HBy.out.set_ ga i y')
                  have HS2 := Lib.hid (fun y' : Int => HPi.out.turn HF.out (V := fun q => q = ga) ((But.refl (fun q => q = ga) wr).setCell (p := ⟨ga, i, none⟩) rfl (.int .u8 y')) (fun q hq => ⟨by rw [hq]; rfl, by rw [hq]; have := Hb0.out; omega⟩))
                  have Hx := Lib.hid (And.intro hgi2 hik)
                  clear hga hgi2 hk3 hik
                  go_wp2_with fail
                  go_roundg (gk - 1)
                  case measure => have := Hx.out; omega
                  case rel => exact ⟨i + 1, Lib.hid (by have := Hx.out; show gk - 1 + (i + 1) = _; omega), by go_num, Lib.hid (HS1.out _), Lib.hid (HS2.out _)⟩
                · have i1 : ¬ (i : Int) < (k : Int) := by omega
                  clear hgi2 hk3 hik
                  go_wp2_with fail
                  go_meet
                  case rel => exact ⟨gb, at_, L2, Tf, _, rfl, rfl, rfl, Lib.hid (HPi.out.sub (fun q hq => hq.elim))⟩
          by_cases hk4 : wh = 4
          · subst hk4
            as_aux_lemma =>
              obtain ⟨l, el⟩ : ∃ l, takeB L = l := ⟨_, rfl⟩
              obtain ⟨L2, eL⟩ : ∃ M, leftB L = M := ⟨_, rfl⟩
              obtain ⟨at2, ea⟩ : ∃ a, num32 (at_ + readyB L) = a := ⟨_, rfl⟩
              obtain ⟨s, es⟩ : ∃ s, strOfNums l = s := ⟨_, rfl⟩
              have Htk := Lib.hid (And.intro el (And.intro eL ea))
              have Hs := Lib.hid es
              have Hbyte := Lib.hid (show ∀ x ∈ l, 0 ≤ x ∧ x < 256 by rw [← el]; exact take_ok HOk.out.2.2.1)
              clear el eL ea es o0 o1 o2
              go_wp2_with fail
              refine (ptake HF.out HPb.out [(gb, at2, L2)] 0 gb at_ L rfl at2 L2 l Htk.out.2.2 Htk.out.2.1 Htk.out.1 rfl).mono ?_
              rintro e wc ⟨Ax, nx, cx, rfl, -, hx, hp, hb⟩
              have HPc := Lib.hid hp
              have HX := Lib.hid (show DatR wc wb.heap.size Ax nx cx l from ⟨hx, Hbyte.out⟩)
              clear hp hx hb
              go_upto_region 31 with (fail)
              obtain ⟨wd, ewd⟩ : ∃ v, wc.drew = v := ⟨_, rfl⟩
              have hbd : Below wc.heap.size wc wd := by rw [← ewd]; exact below_dN wc 1
              have HPd := Lib.hid (HPc.out.below HF.out hbd)
              have Hx := Lib.hid (HX.out.on hbd)
              clear hbd HPc HX
              have HCx := Lib.hid (fun W (h : DatR W wb.heap.size Ax nx cx l) => show (convert 32 9 (.slice Ax nx cx)).run Try.prog W = .ok (.string s) W by
                have h2 := conv_rd h.rd.1 cx
                rw [Hs.out] at h2
                exact h2)
              have hq1 := str_eql s
              refine wp_region_held_drew (S := fun w' => (convert 32 9 (.slice Ax nx cx)).run Try.prog w' = .ok (.string s) w') (by kernel_rfl) (by rw [ewd]; exact HCx.out _ Hx.out) (fun hHeld => ?_)
              rw [ewd] at hHeld ⊢
              clear ewd
              refine tk 0 ?_ rfl ?_ ?_
              rotate_left
              · intro w' hSw; (go_simp <;> (with_reducible rfl))
              try simp only [Act.put, putL]
              refine tk 1 (.string s) rfl ?_ ?_
              · intro w' hSw; have hcv := hSw; (go_simp <;> (with_reducible rfl))
              try simp only [Act.put, putL]
              refine tk 2 ?_ rfl ?_ ?_
              rotate_left
              · intro w' hSw; (go_simp <;> (with_reducible rfl))
              try simp only [Act.put, putL]
              refine tkC 3 rfl (fun K hK => ?_)
              go_simp
              (refine (prtake HF.out HPd.out at2 L2 l HOk.out.2.2.1 HOk.out.2.1 Htk.out.1 Htk.out.2.1 Htk.out.2.2).mono ?_; rintro e we ⟨Ay, ny, cy, rfl, -, hy, Te, hpe, hbe⟩; have HPe := Lib.hid hpe; have Hx := Lib.hid (Hx.out.but hbe (fun k hk ht => (HPd.out.tb k ht).2 (.inr hk))); have Hy := Lib.hid hy; clear hpe hbe hy)
              refine hK.out _ _ ?_ (fun hHeld => ?_)
              · exact HCx.out _ Hx.out
              clear hK K
              try simp only [Act.put, putL]
              have HCy := Lib.hid (show (convert 32 9 (.slice Ay ny cy)).run Try.prog we = .ok (.string s) we by
                have h := conv_rd (OwnB.rd Hy.out Hbyte.out) cy
                rw [Hs.out] at h
                exact h)
              refine anyH_monoP (S' := fun w' => (convert 32 9 (.slice Ax nx cx)).run Try.prog w' = .ok (.string s) w' ∧ (convert 32 9 (.slice Ay ny cy)).run Try.prog w' = .ok (.string s) w') (fun _ h => h.1) _ _ _ _ ?_
              have hHeld := And.intro hHeld HCy.out
              refine tk 4 (.string s) rfl ?_ ?_
              · intro w' hSw; have hcv := hSw.2; (go_simp <;> (with_reducible rfl))
              try simp only [Act.put, putL]
              refine tk 5 ?_ rfl ?_ ?_
              rotate_left
              · intro w' hSw; (go_simp <;> (with_reducible rfl))
              try simp only [Act.put, putL]
              refine tk 6 ?_ rfl ?_ ?_
              rotate_left
              · intro w' hSw; (go_simp <;> (with_reducible rfl))
              try simp only [Act.put, putL]
              refine wpAnyH_done (by kernel_rfl) ?_ _
              clear hHeld
              go_wp2_with fail
              go_meet
              case rel => exact ⟨gb, at2, L2, Te, _, rfl, rfl, rfl, Lib.hid (HPe.out.sub (fun q hq => hq.elim))⟩
          by_cases hk5 : wh = 5
          · subst hk5
            as_aux_lemma =>
              clear o0 o1 o2
              go_wp2_with fail
              refine (pcopy HF.out HPb.out 0 gb at_ L rfl).mono ?_
              rintro e wc ⟨g2, rfl, hp, hb⟩
              unfold ptrR
              have HPc := Lib.hid hp
              clear hp hb
              obtain ⟨zz, ezz⟩ : ∃ z, wc.heap.size = z := ⟨_, rfl⟩
              obtain ⟨wz, ewz⟩ : ∃ v, wc.alloc (.cells #[.int .u8 122, .int .u8 122] 5 (2, 3)) = v := ⟨_, rfl⟩
              have hbz : Below wc.heap.size wc wz := by rw [← ewz]; exact (Below.refl _ _).alloc (Nat.le_refl _) _
              have HRz := Lib.hid (show Rd wz (some ⟨zz, 0, none⟩) 2 [122, 122] by rw [← ewz]; exact Rd.const_ wc zz ezz [122, 122] 5 (2, 3) (by decide))
              have HPz := Lib.hid (HPc.out.more HF.out (D' := fun q => q = zz) hbz (fun q hq => ⟨.inr (by omega), by rw [← ewz]; simp; omega⟩))
              have Ewz := Lib.hid ewz
              have Ezz := Lib.hid ezz
              clear hbz ewz ezz
              obtain ⟨AI1, nI1, cI1, vB1, -, hG1, -, hT1⟩ := HPc.out.box
              obtain ⟨g0c, -⟩ := two hG1
              clear hG1 hT1
              have kc := Go.Joins.run_convert_bytes_const_at (P := Try.prog) wc 32 5 #[.int .u8 122, .int .u8 122] 2 2 wc.heap.size rfl Try.underlying32 Try.underlying5
              go_wp2_with fail
              clear kc g0c
              rw [Ewz.out, Ezz.out]
              refine (pput HF.out HPz.out [(gb, at_, putQ (diffB at_ at_) [122, 122] L), (g2, at_, L)] 0 gb at_ L rfl at_ (some ⟨zz, 0, none⟩) 2 2 [122, 122] _ _ _ _ HOk.out.1 HRz.out (by decide) (Nat.le_refl _) (by simp [maxLen]) (fun b o e _ => by injection e with e; injection e with e; exact e.symm) rfl rfl rfl rfl rfl).mono ?_
              rintro e we ⟨rfl, hp, hb⟩
              have HPe := Lib.hid hp
              clear hp hb
              go_wp2_with fail
              refine (ptake HF.out HPe.out [(gb, num32 (at_ + readyB (putQ (diffB at_ at_) [122, 122] L)), leftB (putQ (diffB at_ at_) [122, 122] L)), (g2, at_, L)] 0 gb at_ _ rfl _ _ _ rfl rfl rfl rfl).mono ?_
              rintro e wf ⟨Ax, nx, cx, rfl, -, -, hp, -⟩
              have HPf := Lib.hid hp
              clear hp
              go_wp2_with fail
              go_meet
              case rel => exact ⟨g2, at_, L, T, _, rfl, rfl, rfl, Lib.hid ((HPf.out.pick (i := 1) rfl).sub (fun q hq => hq.elim))⟩
          by_cases hk6 : wh = 6
          · subst hk6
            as_aux_lemma =>
              clear o0 o1 o2
              go_wp2_with fail
              refine (pcopy HF.out HPb.out 0 gb at_ L rfl).mono ?_
              rintro e wc ⟨g2, rfl, hp, hb⟩
              unfold ptrR
              have HPc := Lib.hid hp
              have HRc := Lib.hid (HRb.out.but hb (fun b hb2 hn => hn (.inr (.inr hb2))))
              clear hp hb
              obtain ⟨AI1, nI1, cI1, vB1, -, hG1, -, hT1⟩ := HPc.out.box
              obtain ⟨g0c, -⟩ := two hG1
              clear hG1 hT1
              go_wp2_with fail
              clear g0c
              refine (pput HF.out HPc.out [(gb, at_, L), (g2, at_, putQ (diffB at_ at_) ld L)] 1 g2 at_ L rfl at_ A2 k c2 ld _ _ _ _ HOk.out.1 HRc.out.rd.1 (by have := Hk2.out; omega) HRc.out.rd.2.1 HRc.out.rd.2.2 (fun b o e _ => by rw [e]; rfl) rfl rfl rfl rfl rfl).mono ?_
              rintro e we ⟨rfl, hp, hb⟩
              have HPe := Lib.hid hp
              clear hp hb
              go_wp2_with fail
              refine (ptake HF.out HPe.out [(gb, at_, L), (g2, num32 (at_ + readyB (putQ (diffB at_ at_) ld L)), leftB (putQ (diffB at_ at_) ld L))] 1 g2 at_ _ rfl _ _ _ rfl rfl rfl rfl).mono ?_
              rintro e wf ⟨Ax, nx, cx, rfl, -, -, hp, -⟩
              have HPf := Lib.hid hp
              clear hp
              go_wp2_with fail
              go_meet
              case rel => exact ⟨gb, at_, L, T, _, rfl, rfl, rfl, Lib.hid ((HPf.out.pick (i := 0) rfl).sub (fun q hq => hq.elim))⟩
          have kb0 : (wh == 0) = false := by simpa using hk0
          have kb1 : (wh == 1) = false := by simpa using hk1
          have kb2 : (wh == 2) = false := by simpa using hk2
          have kb3 : (wh == 3) = false := by simpa using hk3
          have kb4 : (wh == 4) = false := by simpa using hk4
          have kb5 : (wh == 5) = false := by simpa using hk5
          have kb6 : (wh == 6) = false := by simpa using hk6
          have kb7 : (wh == 7) = false := by simpa using hk7
          clear hk0 hk1 hk2 hk3 hk4 hk5 hk6 hk7
          go_wp2_with fail
          go_meet
          case rel => exact ⟨gb, at_, L, T, _, rfl, rfl, rfl, Lib.hid (HPb.out.sub (fun q hq => hq.elim))⟩
        case rest =>
          as_aux_lemma =>
            obtain ⟨g', a', L', T', wx, hwx, rfl, rfl, HPx⟩ := hcut
            subst hwx
            clear HPa HPb HOa HOb HRb HOk HGb HP Hwa Hk2 o0 o1 o2
            go_upto_region 41 with (fail)
            obtain ⟨wd, ewd⟩ : ∃ v, wx.drew = v := ⟨_, rfl⟩
            have HPq := Lib.hid (show PP BAt w T' (fun _ => False) [(g', a', L')] gw a' L' wd by rw [← ewd]; exact HPx.out.below HF.out (below_dN wx 1))
            obtain ⟨AI, nI, cI, vB, enI, hG, -, hT⟩ := HPq.out.box
            obtain ⟨rI, erI⟩ : ∃ r, readyB L' = r := ⟨_, rfl⟩
            obtain ⟨hl, ehI⟩ : ∃ l, heldI a' L' = l := ⟨_, rfl⟩
            have HOk := Lib.hid (HPq.out.ok HF.out (i := 0) rfl)
            have HGq := Lib.hid hG
            have HTg := Lib.hid hT
            have EnI := Lib.hid enI
            have ErI := Lib.hid erI
            have EhI := Lib.hid ehI
            have HhlL := Lib.hid (show hl.length ≤ 1000000 by rw [← ehI]; unfold heldI; rw [List.length_map]; have := HOk.out.2.2.2; omega)
            have r1 : (a' != a') = false := by simp
            have r2 : ((nI : Int) != (nI : Int)) = false := by simp
            have r3 : ((rI : Int) != (rI : Int)) = false := by simp
            clear hG hT enI erI ehI HPx
            refine wp_region_held_drew (S := fun w' => w'.cell? ⟨gw, 0, none⟩ = some (.int .u32 a') ∧ w'.cell? ⟨gw, 1, none⟩ = some (.slice AI nI cI)) (by kernel_rfl) (by rw [ewd]; exact two HGq.out) (fun hHeld => ?_)
            rw [ewd] at hHeld ⊢
            clear ewd
            refine tk 0 ?_ rfl ?_ ?_
            rotate_left
            · intro w' hSw; (go_simp <;> (with_reducible rfl))
            try simp only [Act.put, putL]
            refine tk 1 ?_ rfl ?_ ?_
            rotate_left
            · intro w' hSw; (go_simp <;> (with_reducible rfl))
            try simp only [Act.put, putL]
            refine tk 2 ?_ rfl ?_ ?_
            rotate_left
            · intro w' hSw; (go_simp <;> (with_reducible rfl))
            try simp only [Act.put, putL]
            refine tk 3 ?_ rfl ?_ ?_
            rotate_left
            · intro w' hSw; (go_simp <;> (with_reducible rfl))
            try simp only [Act.put, putL]
            refine tk 5 ?_ rfl ?_ ?_
            rotate_left
            · intro w' hSw; (go_simp <;> (with_reducible rfl))
            try simp only [Act.put, putL]
            refine tk 6 ?_ rfl ?_ ?_
            rotate_left
            · intro w' hSw; (go_simp <;> (with_reducible rfl))
            try simp only [Act.put, putL]
            refine tk 7 ?_ rfl ?_ ?_
            rotate_left
            · intro w' hSw; (go_simp <;> (with_reducible rfl))
            try simp only [Act.put, putL]
            refine tk 8 ?_ rfl ?_ ?_
            rotate_left
            · intro w' hSw; (go_simp <;> (with_reducible rfl))
            try simp only [Act.put, putL]
            refine tkC 4 rfl (fun K hK => ?_)
            go_simp
            (refine (pnext HF.out HPq.out 0 g' a' L' rfl).mono ?_; rintro e w1 ⟨rfl, hp, hb⟩; have HPq := Lib.hid hp; have HGq := Lib.hid (hb.blk HGq.out (fun hn => hn (.inr (.inl HTg.out)))); clear hp hb)
            refine hK.out _ _ ?_ (fun hHeld => ?_)
            · exact two HGq.out
            clear hK K
            try simp only [Act.put, putL]
            refine tk 9 ?_ rfl ?_ ?_
            rotate_left
            · intro w' hSw; (go_simp <;> (with_reducible rfl))
            try simp only [Act.put, putL]
            refine tk 10 ?_ rfl ?_ ?_
            rotate_left
            · intro w' hSw; (go_simp <;> (with_reducible rfl))
            try simp only [Act.put, putL]
            refine tk 11 ?_ rfl ?_ ?_
            rotate_left
            · intro w' hSw; (go_simp <;> (with_reducible rfl))
            try simp only [Act.put, putL]
            refine tk 12 ?_ rfl ?_ ?_
            rotate_left
            · intro w' hSw; (go_simp <;> (with_reducible rfl))
            try simp only [Act.put, putL]
            refine tk 14 ?_ rfl ?_ ?_
            rotate_left
            · intro w' hSw; (go_simp <;> (with_reducible rfl))
            try simp only [Act.put, putL]
            refine tk 15 ?_ rfl ?_ ?_
            rotate_left
            · intro w' hSw; (go_simp <;> (with_reducible rfl))
            try simp only [Act.put, putL]
            refine tk 16 ?_ rfl ?_ ?_
            rotate_left
            · intro w' hSw; (go_simp <;> (with_reducible rfl))
            try simp only [Act.put, putL]
            refine tk 17 ?_ rfl ?_ ?_
            rotate_left
            · intro w' hSw; (go_simp <;> (with_reducible rfl))
            try simp only [Act.put, putL]
            refine tk 18 ?_ rfl ?_ ?_
            rotate_left
            · intro w' hSw; (go_simp <;> (with_reducible rfl))
            try simp only [Act.put, putL]
            refine tkC 13 rfl (fun K hK => ?_)
            go_simp
            (refine (proom HF.out HPq.out 0 g' a' L' rfl nI EnI.out).mono ?_; rintro e w2 ⟨rfl, hp, hb⟩; have HPq := Lib.hid hp; have HGq := Lib.hid (hb.blk HGq.out (fun hn => hn (.inr (.inl HTg.out)))); clear hp hb)
            refine hK.out _ _ ?_ (fun hHeld => ?_)
            · exact two HGq.out
            clear hK K
            try simp only [Act.put, putL]
            refine tk 19 ?_ rfl ?_ ?_
            rotate_left
            · intro w' hSw; (go_simp <;> (with_reducible rfl))
            try simp only [Act.put, putL]
            refine tk 20 ?_ rfl ?_ ?_
            rotate_left
            · intro w' hSw; (go_simp <;> (with_reducible rfl))
            try simp only [Act.put, putL]
            refine tk 21 ?_ rfl ?_ ?_
            rotate_left
            · intro w' hSw; (go_simp <;> (with_reducible rfl))
            try simp only [Act.put, putL]
            refine tk 22 ?_ rfl ?_ ?_
            rotate_left
            · intro w' hSw; (go_simp <;> (with_reducible rfl))
            try simp only [Act.put, putL]
            refine tk 24 ?_ rfl ?_ ?_
            rotate_left
            · intro w' hSw; (go_simp <;> (with_reducible rfl))
            try simp only [Act.put, putL]
            refine tkC 23 rfl (fun K hK => ?_)
            go_simp
            (refine (pready HF.out HPq.out 0 g' a' L' rfl rI ErI.out).mono ?_; rintro e w3 ⟨rfl, hp, hb⟩; have HPq := Lib.hid hp; have HGq := Lib.hid (hb.blk HGq.out (fun hn => hn (.inr (.inl HTg.out)))); clear hp hb)
            refine hK.out _ _ ?_ (fun hHeld => ?_)
            · exact two HGq.out
            clear hK K
            try simp only [Act.put, putL]
            refine tkC 25 rfl (fun K hK => ?_)
            go_simp
            (refine (prready HPq.out rI HOk.out.2.1 ErI.out).mono ?_; rintro e w4 ⟨rfl, rfl⟩)
            refine hK.out _ _ ?_ (fun hHeld => ?_)
            · exact two HGq.out
            clear hK K
            try simp only [Act.put, putL]
            refine tk 26 ?_ rfl ?_ ?_
            rotate_left
            · intro w' hSw; (go_simp <;> (with_reducible rfl))
            try simp only [Act.put, putL]
            refine tk 27 ?_ rfl ?_ ?_
            rotate_left
            · intro w' hSw; (go_simp <;> (with_reducible rfl))
            try simp only [Act.put, putL]
            refine tk 28 ?_ rfl ?_ ?_
            rotate_left
            · intro w' hSw; (go_simp <;> (with_reducible rfl))
            try simp only [Act.put, putL]
            refine tk 29 ?_ rfl ?_ ?_
            rotate_left
            · intro w' hSw; (go_simp <;> (with_reducible rfl))
            try simp only [Act.put, putL]
            refine tk 31 ?_ rfl ?_ ?_
            rotate_left
            · intro w' hSw; (go_simp <;> (with_reducible rfl))
            try simp only [Act.put, putL]
            refine tkC 30 rfl (fun K hK => ?_)
            go_simp
            (refine (pheld HF.out HPq.out 0 g' a' L' rfl hl EhI.out).mono ?_; rintro e w5 ⟨v5, rfl, hs5, hp, hb⟩; have HPq := Lib.hid hp; have HGq := Lib.hid (hb.blk HGq.out (fun hn => hn (.inr (.inl HTg.out)))); have Hs5 := Lib.hid hs5; clear hp hb hs5)
            refine hK.out _ _ ?_ (fun hHeld => ?_)
            · exact two HGq.out
            clear hK K
            try simp only [Act.put, putL]
            refine tkC 32 rfl (fun K hK => ?_)
            go_simp
            (refine (prheld HPq.out hl HOk.out.2.1 EhI.out).mono ?_; rintro e w6 ⟨v6, rfl, h6⟩; have HPq := Lib.hid (HPq.out.below HF.out h6.old); have HGq := Lib.hid (blk_on HGq.out h6.old); have Hs5 := Lib.hid (Hs5.out.but (But.of (S := fun _ => False) h6.old) (fun _ _ h => h)); have Hs6 := Lib.hid h6.sl; clear h6)
            refine hK.out _ _ ?_ (fun hHeld => ?_)
            · exact two HGq.out
            clear hK K
            try simp only [Act.put, putL]
            refine tkC 33 rfl (fun K hK => ?_)
            go_simp
            (refine (same18_any v5 v6 hl hl true _ Hs5.out Hs6.out HhlL.out (by simp)).mono ?_; rintro e w7 ⟨rfl, m7, rfl⟩; have HPq := Lib.hid (HPq.out.below HF.out (below_dN _ m7)); have HGq := Lib.hid (blk_on HGq.out (below_dN _ m7)))
            refine hK.out _ _ ?_ (fun hHeld => ?_)
            · exact two HGq.out
            clear hK K
            try simp only [Act.put, putL]
            refine tk 34 ?_ rfl ?_ ?_
            rotate_left
            · intro w' hSw; (go_simp <;> (with_reducible rfl))
            try simp only [Act.put, putL]
            refine tk 35 ?_ rfl ?_ ?_
            rotate_left
            · intro w' hSw; (go_simp <;> (with_reducible rfl))
            try simp only [Act.put, putL]
            refine wpAnyH_done (by kernel_rfl) ?_ _
            clear hHeld r1 r2 r3
            have HPz := Lib.hid (HPq.out.sub (D' := fun _ => False) (fun q hq => hq.elim))
            have Hgk2 := Hgk.out
            have i9 : j < 60 := Hgk2.2.2
            clear Hgk2 i3
            go_wp2_with fail
            go_roundg (gk - 1)
            case measure => have := Hgk.out; omega
            case rel => exact ⟨j + 1, g', a', L', T', Lib.hid (by have := Hgk.out; show gk - 1 + (j + 1) = _; omega), Lib.hid (by have := Hgk.out; omega), rfl, by go_num, HPz⟩
      · have i3 : ¬ (j : Int) < 60 := by omega
        clear hj2
        go_wp2_with fail
        refine (rmwake_any HF.out _).mono ?_
        rintro e wk ⟨rfl, hbk⟩
        have HE := Lib.hid (below_trans HP.out.old hbk)
        clear hbk
        go_wp2_with fail
        go_ret
        exact ⟨rfl, HE.out⟩
    · have i1 : ¬ (j : Int) < (n : Int) := by omega
      clear hj2
      go_wp2_with fail
      refine (rmwake_any HF.out _).mono ?_
      rintro e wk ⟨rfl, hbk⟩
      have HE := Lib.hid (below_trans HP.out.old hbk)
      clear hbk
      go_wp2_with fail
      go_ret
      exact ⟨rfl, HE.out⟩
end Go.Proofs.Ytmmnicnebammhaa.reasmPlaysW
