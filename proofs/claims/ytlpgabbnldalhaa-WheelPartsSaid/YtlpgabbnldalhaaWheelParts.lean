/-
  WheelParts holds: what was told is gone, what was not is as if the rest alone had been set; copies go their own ways: any instants, any instant, any place.
-/
import Derived.Test.YtlpgabbnldalhaaWhAt
import Derived.Test.YtlpgabbnldalhaaPartPure
import Derived.Deep.CutRange
import Derived.Deep.CutBlock
import Derived.Deep.DeepCutAuto
import Derived.Deep.LoopGhost
import Derived.BigRegion
import Derived.BigQuiet
import Derived.OwnWalk
namespace Go.Proofs.Ytlpgabbnldalhaa.wheelParts
set_option maxRecDepth 10000
open Go.ChangeShapes Go.WideShapes Go.ChangeAt Go.RowKit
set_option linter.unusedVariables false
set_option linter.unusedSimpArgs false

set_option maxHeartbeats 2000000 in
theorem walk (w : World) (v : Value) (hv : ∃ l, NumsAt w .u16 0 65536 v l) (now : Int) (hnow : (Lit.int .u16 now).wf = true) (k : Int) (hk : (Lit.int .u8 k).wf = true) :
    Calls Try.prog 6 #[v, .int .u16 now, .int .u8 k] w fun e w' => e = .returned (.bool true) ∧ Below w.heap.size w w' := by
  obtain ⟨l0, A, c, rfl, hlc, hcm, hrd, hb0⟩ := hv
  obtain ⟨n, ek, hkn, hk40⟩ := min_nat 40 l0.length (by omega)
  have hrl := hrd.take n
  have hbl : ∀ x, x ∈ l0.take n → 0 ≤ x ∧ x < 65536 := fun x hx => hb0 x (List.mem_of_mem_take hx)
  have hln : (l0.take n).length = n := by rw [List.length_take]; omega
  obtain ⟨N, eN⟩ : ∃ N, l0.length = N := ⟨_, rfl⟩
  obtain ⟨l, el⟩ : ∃ l, l0.take n = l := ⟨_, rfl⟩
  rw [el] at hrl hbl hln
  rw [eN] at ek hlc hkn ⊢
  have ek2 : min (N : Int) 40 = (n : Int) := by split at ek <;> omega
  have hkc : (n : Int) ≤ (c : Int) := by omega
  have hk0 : (0 : Int) ≤ (n : Int) := by omega
  have hnw := bounds_u16 hnow
  have Hrl := Lib.hid (fun (W : World) (hW : Below w.heap.size w W) => hrl.below hW)
  have Hgb := Lib.hid (show ∀ i, i < n → 0 ≤ l.getD i 0 ∧ l.getD i 0 < 65536 from fun i hi => hbl _ (by
    simp only [List.getD, List.getElem?_eq_getElem (show i < l.length by rw [hln]; exact hi), Option.getD_some]
    exact List.getElem_mem _))
  have Hln := Lib.hid hln
  have hn40 : n ≤ 40 := by omega
  have Hk := Lib.hid hk
  have H0 := Lib.hid (Tks.first w)
  have hF := Lib.hid face
  have hnowT : 0 ≤ now ∧ now < topW := ⟨hnw.1, by unfold topW; omega⟩
  have hnow64 : IntKind.u64.wrap now = now := by simp [IntKind.wrap, IntKind.bits, IntKind.signed]; omega
  clear hrd hb0 hrl hbl hln el eN hcm hk40 hk hnow
  go_enter Try.func6, Try.ntmps6
  go_wp2_with fail
  refine (mnew hF.out (zOld w) [] w H0.out.m).mono ?_
  rintro e w1 ⟨ga, rfl, hm1, hb1⟩
  have H1 := Lib.hid (H0.out.go hm1 hb1 (fun k hk => hk))
  clear hm1 hb1
  go_wp2_with fail
  refine (mnew hF.out (zOld w) _ w1 H1.out.m).mono ?_
  rintro e w2 ⟨gb, rfl, hm2, hb2⟩
  have H2 := Lib.hid (show Tks (zOld w) w [(ga, 0, []), (gb, 0, [])] w2 from H1.out.go hm2 hb2 (fun k hk => hk))
  clear hm2 hb2 H1 H0
  go_wp2_with fail
  go_loopg [9] n (fun gk x9 wr => ∃ (i : Nat) (La Lb : AL), Hid (gk + i = n) ∧ i ≤ n ∧ x9 = .int .i64 (i : Int) ∧ Hid (Tks (zOld w) w [(ga, 0, La), (gb, 0, Lb)] wr) ∧ Hid (HasW l (fun e => 0 ≤ e ∧ e < (i : Int)) La) ∧ Hid (HasW l (fun e => (0 ≤ e ∧ e < (i : Int)) ∧ now < l.getD e.toNat 0) Lb) ∧ Hid (La.length = i ∧ Lb.length ≤ i))
  case atStart => exact ⟨0, [], [], rfl, Nat.zero_le _, rfl, H2, Lib.hid ((HasW.nil l).congr (fun e => ⟨fun x => x.elim, fun x => absurd x.2 (by have := x.1; omega)⟩)), Lib.hid ((HasW.nil l).congr (fun e => ⟨fun x => x.elim, fun x => absurd x.1.2 (by have := x.1.1; omega)⟩)), Lib.hid ⟨rfl, Nat.le_refl _⟩⟩
  case round =>
    obtain ⟨i, La, Lb, hgk, hi, rfl, hA, hHa, hHb, hLn⟩ := hrel
    by_cases hin : i < n
    · have hwr : IntKind.i64.wrap ((i : Int) + 1) = (i : Int) + 1 := by rw [IntKind.wrap_i64]; omega
      obtain ⟨b1, p1, hx1, hb1, hc1⟩ := (Hrl.out _ hA.out.b).index_u16 (c := c) Hln.out hin
      obtain ⟨x, ex⟩ : ∃ x, l.getD i 0 = x := ⟨_, rfl⟩
      have hxb : 0 ≤ x ∧ x < 65536 := by rw [← ex]; exact Hgb.out i hin
      rw [ex] at hc1
      have hLa := hLn.out.1
      have hLb := hLn.out.2
      have HsetA := Lib.hid (mset hF.out (zOld w) 0 ga 0 La _ _ wr hA.out.m rfl (by omega) (i : Int) x 0 (setW (i : Int) x La) ⟨by omega, by unfold topW; omega⟩ ⟨hxb.1, by unfold topW; omega⟩ (by unfold setE bigW; rw [if_neg (by omega)]) (by unfold setA bigW; rw [if_neg (by omega)]) rfl)
      have hnoi : ¬ (0 ≤ (i : Int) ∧ (i : Int) < (i : Int)) := by omega
      have hlen1 : (setW (i : Int) x La).length = i + 1 := by rw [hHa.out.set_len hnoi, hLa]
      have HHa := Lib.hid (show HasW l (fun e => 0 ≤ e ∧ e < ((i + 1 : Nat) : Int)) (setW (i : Int) x La) from by
        have h1 := hHa.out.set i
        rw [ex] at h1
        exact h1.congr (fun e => by omega))
      have Hex := Lib.hid ex
      have Hxb := Lib.hid hxb
      have hi64 : IntKind.u64.wrap (i : Int) = (i : Int) := by simp [IntKind.wrap, IntKind.bits, IntKind.signed]; omega
      have hx64 : IntKind.u64.wrap x = x := by simp [IntKind.wrap, IntKind.bits, IntKind.signed]; omega
      have hin2 : (i : Int) < (n : Int) := by omega
      have Hlen1 := Lib.hid hlen1
      clear ex hxb hLa hlen1 hnoi
      go_wp2_with fail
      refine HsetA.out.mono ?_
      rintro e w3 ⟨rfl, hm3, hb3⟩
      have HA3 := Lib.hid (show Tks (zOld w) w [(ga, 0, setW (i : Int) x La), (gb, 0, Lb)] w3 from hA.out.go hm3 hb3 (fun k hk => hk))
      clear hm3 hb3 hc1 hx1 HsetA
      obtain ⟨b2, p2, hx2, hb2, hc2⟩ := (Hrl.out _ HA3.out.b).index_u16 (c := c) Hln.out hin
      rw [Hex.out] at hc2
      by_cases hgt : now < x
      · have hgd : decide (now < x) = true := decide_eq_true hgt
        have HHb := Lib.hid (show HasW l (fun e => (0 ≤ e ∧ e < ((i + 1 : Nat) : Int)) ∧ now < l.getD e.toNat 0) (setW (i : Int) x Lb) from by
          have h1 := hHb.out.set i
          rw [Hex.out] at h1
          refine h1.congr (fun e => ?_)
          by_cases he : e = (i : Int)
          · subst he
            have := Hex.out
            simp only [Int.toNat_natCast]
            rw [this]
            exact ⟨fun _ => ⟨⟨by omega, by omega⟩, hgt⟩, fun _ => .inl (by first | rfl | trivial)⟩
          · constructor
            · rintro (h2 | ⟨h2, h3⟩)
              · exact absurd h2 he
              · exact ⟨⟨h2.1, by omega⟩, h3⟩
            · rintro ⟨h2, h3⟩
              exact .inr ⟨⟨h2.1, by omega⟩, h3⟩)
        have HsetB := Lib.hid (mset hF.out (zOld w) 1 gb 0 Lb _ _ w3 HA3.out.m rfl (by omega) (i : Int) x 0 (setW (i : Int) x Lb) ⟨by omega, by unfold topW; omega⟩ ⟨Hxb.out.1, by have := Hxb.out.2; unfold topW; omega⟩ (by have := Hxb.out; unfold setE bigW; rw [if_neg (by omega)]) (by have := Hxb.out; unfold setA bigW; rw [if_neg (by omega)]) rfl)
        clear hLb hgt
        go_wp2_with fail
        refine HsetB.out.mono ?_
        rintro e w4 ⟨rfl, hm4, hb4⟩
        have HA4 := Lib.hid (show Tks (zOld w) w [(ga, 0, setW (i : Int) x La), (gb, 0, setW (i : Int) x Lb)] w4 from HA3.out.go hm4 hb4 (fun k hk => hk))
        clear hm4 hb4 hc2 hx2
        go_wp2_with fail
        go_roundg (gk - 1)
        case measure => have := hgk.out; omega
        case rel => exact ⟨i + 1, _, _, Lib.hid (by have := hgk.out; show gk - 1 + (i + 1) = _; omega), by omega, by go_num, HA4, HHa, HHb, Lib.hid ⟨Hlen1.out, by have := setW_le (i : Int) x Lb; have := hLn.out.2; omega⟩⟩
      · have hgd : decide (now < x) = false := decide_eq_false hgt
        have HHb := Lib.hid (show HasW l (fun e => (0 ≤ e ∧ e < ((i + 1 : Nat) : Int)) ∧ now < l.getD e.toNat 0) Lb from by
          refine hHb.out.congr (fun e => ?_)
          constructor
          · rintro ⟨h2, h3⟩; exact ⟨⟨h2.1, by omega⟩, h3⟩
          · rintro ⟨h2, h3⟩
            refine ⟨⟨h2.1, ?_⟩, h3⟩
            by_cases he : e = (i : Int)
            · subst he
              simp only [Int.toNat_natCast] at h3
              rw [Hex.out] at h3
              exact absurd h3 hgt
            · omega)
        clear hLb hgt
        go_wp2_with fail
        go_roundg (gk - 1)
        case measure => have := hgk.out; omega
        case rel => exact ⟨i + 1, _, _, Lib.hid (by have := hgk.out; show gk - 1 + (i + 1) = _; omega), by omega, by go_num, HA3, HHa, HHb, Lib.hid ⟨Hlen1.out, by have := hLn.out.2; omega⟩⟩
    · obtain rfl : i = n := by omega
      have hfin : decide ((i : Int) < (i : Int)) = false := by simp
      have eR : leftW now La = Lb := ((hHa.out.left now).congr (fun e => Iff.rfl)).one hHb.out
      have eM : leftW now Lb = Lb := ((hHb.out.left now).congr (fun e => ⟨fun x => x.1, fun x => ⟨x, x.2⟩⟩)).one hHb.out
      have hdl := due_len now La
      have hdm := due_len now Lb
      rw [eR] at hdl
      rw [eM] at hdm
      obtain ⟨D1, eD1⟩ : ∃ D1, dueW now La = D1 := ⟨_, rfl⟩
      rw [eD1] at hdl
      have hD2 : dueW now Lb = [] := List.eq_nil_of_length_eq_zero (by omega)
      have hbt : badT 0 now = false := decide_eq_false (by unfold bigW; omega)
      have hRb : ∀ a, a ∈ Lb → 0 ≤ a.1 ∧ a.1 < (i : Int) ∧ a.2 = l.getD a.1.toNat 0 ∧ now < a.2 := fun a ha => by
        obtain ⟨h1, h2⟩ := hHb.out.mem ha
        exact ⟨h1.1.1, h1.1.2, h2, by rw [h2]; exact h1.2⟩
      have HRb := Lib.hid hRb
      have HokM := Lib.hid hHb.out.1
      have HatM := Lib.hid hHb.out.2
      obtain ⟨M, eMM⟩ : ∃ M, Lb = M := ⟨_, rfl⟩
      rw [eMM] at eR eM hdl hA HRb HokM HatM hLn hD2
      have hnL : La.length ≤ 40 := by have := hLn.out.1; omega
      have hnM : M.length ≤ 40 := by have := hLn.out.2; omega
      have HT1 := Lib.hid (mtick hF.out (zOld w) 0 ga 0 La _ _ wr hA.out.m rfl (by omega) now now 0 M (D1.map Prod.fst) hnowT (by unfold tickC; rw [hbt]; rfl) (by unfold tickE; rw [hbt]; rfl) (by unfold tickA; rw [hbt]; exact eR) (by unfold tickL; rw [hbt, eD1]; rfl) rfl)
      have HT2 := Lib.hid (fun (Z : Nat → Prop) (W : World) (hW : Many WAtP Z W [(ga, now, M), (gb, 0, M)]) => mtick hF.out Z 1 gb 0 M _ _ W hW rfl (by omega) now now 0 M [] hnowT (by unfold tickC; rw [hbt]; rfl) (by unfold tickE; rw [hbt]; rfl) (by unfold tickA; rw [hbt]; exact eM) (by unfold tickL; rw [hbt, hD2]; rfl) rfl)
      have hsum : D1.length + M.length = i := by rw [hdl]; exact hLn.out.1
      have HeM := Lib.hid eM
      have Hsum := Lib.hid hsum
      have HnM := Lib.hid hnM
      clear eD1 hD2 hRb hbt eR eM hdl hdm hHa hHb hLn hnL eMM hsum
      go_wp2_with fail
      refine HT1.out.mono ?_
      rintro e w3 ⟨v1, rfl, hv1, -, hmT, hbT⟩
      have H3 := Lib.hid (show Tks (fun k => zOld w k ∨ v1.ownBlock = some k) w [(ga, now, M), (gb, 0, M)] w3 from hA.out.go hmT hbT (fun k hk => .inl hk))
      obtain ⟨A1, c1, rfl, -⟩ := sl_read hv1
      clear hmT hbT hv1
      rw [List.length_map]
      go_wp2_with fail
      refine (HT2.out _ w3 H3.out.m).mono ?_
      rintro e w4 ⟨v2, rfl, hv2, -, hmT, hbT⟩
      have H4 := Lib.hid (show Tks (zOld w) w [(ga, now, M), (gb, now, M)] w4 from (H3.out.go hmT hbT (fun k hk => .inl hk)).sub (fun k hk => .inl (.inl hk)) (fun k hk => hk))
      clear hmT hbT hv2 H3 HT1 HT2 hA
      obtain ⟨nM, enM⟩ : ∃ nM, M.length = nM := ⟨_, rfl⟩
      obtain ⟨nD, enD⟩ : ∃ nD, D1.length = nD := ⟨_, rfl⟩
      have hsw : IntKind.i64.wrap ((nD : Int) + (nM : Int)) = (i : Int) := by have := Hsum.out; rw [IntKind.wrap_i64]; omega
      have hq1 : ((nM : Int) != (nM : Int)) = false := by simp
      have hq2 : ((i : Int) != (i : Int)) = false := by simp
      have hML : M.length ≤ 1000000 := by have := HnM.out; omega
      have Hla := Lib.hid (fun m => mlen hF.out (zOld w) 0 ga _ M _ (w4.drewN m) (H4.out.drewN m).m rfl hML nM enM)
      have Hlb := Lib.hid (fun m => mlen hF.out (zOld w) 1 gb _ M _ (w4.drewN m) (H4.out.drewN m).m rfl hML nM enM)
      have HML := Lib.hid hML
      have HL0 := Lib.hid (mlen hF.out (zOld w) 0 ga _ M _ w4 H4.out.m rfl hML nM enM)
      rw [enD]
      clear enM enD hML
      go_wp2_with fail
      refine HL0.out.mono ?_
      rintro e w5 ⟨rfl, m1, rfl⟩
      go_wp2_with fail
      refine (Hlb.out m1).mono ?_
      rintro e w5 ⟨rfl, m2, rfl⟩
      try rw [World.drewN_drewN]
      go_wp2_with fail
      refine (Hla.out (m1 + m2)).mono ?_
      rintro e w5 ⟨rfl, m3, rfl⟩
      try rw [World.drewN_drewN]
      obtain ⟨w5, ew5⟩ : ∃ w5, w4.drewN (m1 + m2 + m3) = w5 := ⟨_, rfl⟩
      have H5 := Lib.hid (H4.out.drewN (m1 + m2 + m3))
      rw [ew5] at H5 ⊢
      clear ew5 Hla Hlb HL0 H4
      obtain ⟨y0, b0, en0⟩ : ∃ y0 b0, nextW M = (y0, b0) := ⟨_, _, rfl⟩
      have hb0 : b0 = true → now < y0 := fun h => by
        subst h
        have h1 := HeM.out
        exact next_left HokM.out.sort (t := now) (by rw [h1]; exact en0)
      have Hb0 := Lib.hid hb0
      have Hn1 := Lib.hid (mnext hF.out (zOld w) 0 ga now M _ w5 H5.out.m rfl HML.out y0 b0 en0)
      have Hn2 := Lib.hid (fun (W : World) (hW : Many WAtP (zOld w) W [(ga, now, M), (gb, now, M)]) => mnext hF.out (zOld w) 1 gb now M _ W hW rfl HML.out y0 b0 en0)
      clear hb0 en0
      go_wp2_with fail
      refine (Hn1.out).mono ?_
      rintro e w6 ⟨rfl, hmT, hbT⟩
      have H6 := Lib.hid (H5.out.go hmT hbT (fun k hk => hk))
      clear hmT hbT
      go_wp2_with fail
      refine (Hn2.out w6 H6.out.m).mono ?_
      rintro e w7 ⟨rfl, hmT, hbT⟩
      have H7 := Lib.hid (H6.out.go hmT hbT (fun k hk => hk))
      clear hmT hbT
      have Hcp := Lib.hid (mcopy hF.out (zOld w) 0 ga now M _ w7 H7.out.m rfl HML.out)
      go_wp2_with fail
      refine Hcp.out.mono ?_
      rintro e w8 ⟨gc, rfl, hmT, hbT⟩
      have H8 := Lib.hid (show Tks (zOld w) w [(ga, now, M), (gb, now, M), (gc, now, M)] w8 from H7.out.go hmT hbT (fun k hk => hk))
      clear hmT hbT Hcp Hn1 Hn2 H5 H6 H7
      go_upto_if 122 with (fail)
      go_cut [19] (fun s19 wx => ∃ d : Nat, s19 = .int .u64 (d : Int) ∧ (i = 0 ∨ d < i) ∧ d < 256 ∧ w8 = wx)
      case first =>
        by_cases hn0 : i = 0
        · subst hn0
          go_wp2_with fail
          go_meet
          case rel => exact ⟨0, rfl, .inl rfl, by omega, rfl⟩
        · have hk2 := bounds_u8 Hk.out
          obtain ⟨d, ed⟩ : ∃ d : Nat, (k % (i : Int)).toNat = d := ⟨_, rfl⟩
          have hm0 : 0 ≤ k % (i : Int) := Int.emod_nonneg _ (by omega)
          have hm1 : k % (i : Int) < (i : Int) := Int.emod_lt_of_pos _ (by omega)
          have hdt : k.tmod (i : Int) = (d : Int) := by rw [Int.tmod_eq_emod_of_nonneg hk2.1]; omega
          have hdi : d < i := by omega
          have hd64 : IntKind.u64.wrap (d : Int) = (d : Int) := by simp [IntKind.wrap, IntKind.bits, IntKind.signed]; omega
          have hk64 : IntKind.i64.wrap k = k := by rw [IntKind.wrap_i64]; omega
          have hnz : ¬ (i : Int) = 0 := by omega
          have hnz2 : ((i : Int) == 0) = false := by simpa using hn0
          have hpos : (0 : Int) < (i : Int) := by omega
          have hpos2 : decide ((0 : Int) < (i : Int)) = true := decide_eq_true hpos
          have hpos3 : 0 < i := by omega
          clear ed hm0 hm1
          go_wp2_with fail
          go_meet
          case rel => exact ⟨d, rfl, .inr hdi, by omega, rfl⟩
      case rest =>
        obtain ⟨d, rfl, hdi, hd256, rfl⟩ := hcut
        obtain ⟨ya, ba, ea⟩ : ∃ ya ba, atV (d : Int) M = (ya, ba) := ⟨_, _, rfl⟩
        have hdT : 0 ≤ (d : Int) ∧ (d : Int) < topW := ⟨by omega, by unfold topW; omega⟩
        have hba : (ba = true → d < i ∧ ya = l.getD d 0) ∧ ((stopE (d : Int) M == 0) = ba) := by
          unfold atV at ea
          cases hx : atW (d : Int) M with
          | none =>
            rw [hx] at ea
            injection ea with e1 e2
            subst e1; subst e2
            refine ⟨fun h => (by cases h), ?_⟩
            unfold stopE
            rw [if_pos ((stop_len HokM.out).2 hx)]
            rfl
          | some a =>
            rw [hx] at ea
            injection ea with e1 e2
            subst e1; subst e2
            obtain ⟨h1, h2⟩ := at_some hx
            obtain ⟨h3, h4, h5, _⟩ := HRb.out a h2
            rw [h1] at h3 h4 h5
            refine ⟨fun _ => ⟨by omega, by rw [h5]; simp⟩, ?_⟩
            unfold stopE
            rw [if_neg (fun e => by rw [(stop_len HokM.out).1 e] at hx; cases hx)]
            rfl
        obtain ⟨xs, exs⟩ : ∃ xs, stopE (d : Int) M = xs := ⟨_, rfl⟩
        obtain ⟨S0, eS0⟩ : ∃ S0, stopW (d : Int) M = S0 := ⟨_, rfl⟩
        rw [exs] at hba
        have hxq : (xs == 0) = ba := hba.2
        have Hba := Lib.hid hba.1
        have Hat := Lib.hid (mat hF.out (zOld w) 0 ga now M _ w8 H8.out.m rfl HML.out (d : Int) ya ba hdT ea)
        have Hst := Lib.hid (fun (W : World) (hW : Many WAtP (zOld w) W [(ga, now, M), (gb, now, M), (gc, now, M)]) => mstop hF.out (zOld w) 2 gc now M _ _ W hW rfl HML.out (d : Int) xs S0 hdT exs eS0 rfl)
        have HS0 := Lib.hid eS0
        have Hdi := Lib.hid hdi
        clear hba ea exs eS0 hdi
        go_wp2_with fail
        refine (Hat.out).mono ?_
        rintro e w9 ⟨rfl, hmT, hbT⟩
        have H9 := Lib.hid (H8.out.go hmT hbT (fun k hk => hk))
        clear hmT hbT
        go_wp2_with fail
        refine (Hst.out w9 H9.out.m).mono ?_
        rintro e w10 ⟨rfl, hmT, hbT⟩
        have H10 := Lib.hid (show Tks (zOld w) w [(ga, now, M), (gb, now, M), (gc, now, S0)] w10 from H9.out.go hmT hbT (fun k hk => hk))
        clear hmT hbT Hat Hst H8 H9
        go_upto_region 22 with (fail)
        go_cut [172] (fun s172 wx => s172 = .bool false ∧ w10 = wx)
        case first =>
          have hy0 : (y0 != y0) = false := by simp
          have hbb : (b0 != b0) = false := by simp
          have hab : (ba != ba) = false := by simp
          have hyy : (ya != ya) = false := by simp
          cases b0 with
          | true =>
            have hle : decide (y0 ≤ now) = false := decide_eq_false (by have := Hb0.out rfl; omega)
            cases ba with
            | true =>
              obtain ⟨hdi2, hya⟩ := Hba.out rfl
              obtain ⟨b2, p2, hx3, hb2, hc2⟩ := (Hrl.out _ H10.out.b).index_u16u (c := c) Hln.out hdi2
              rw [← hya] at hc2
              have hyb : 0 ≤ ya ∧ ya < 65536 := by rw [hya]; exact Hgb.out d hdi2
              have hy64 : IntKind.u64.wrap ya = ya := by simp [IntKind.wrap, IntKind.bits, IntKind.signed]; omega
              have hdl : (d : Int) < (i : Int) := by omega
              clear hya hyb
              go_wp2_with fail
              go_meet
              case rel => exact ⟨rfl, rfl⟩
            | false =>
              go_wp2_with fail
              go_meet
              case rel => exact ⟨rfl, rfl⟩
          | false =>
            cases ba with
            | true =>
              obtain ⟨hdi2, hya⟩ := Hba.out rfl
              obtain ⟨b2, p2, hx3, hb2, hc2⟩ := (Hrl.out _ H10.out.b).index_u16u (c := c) Hln.out hdi2
              rw [← hya] at hc2
              have hyb : 0 ≤ ya ∧ ya < 65536 := by rw [hya]; exact Hgb.out d hdi2
              have hy64 : IntKind.u64.wrap ya = ya := by simp [IntKind.wrap, IntKind.bits, IntKind.signed]; omega
              have hdl : (d : Int) < (i : Int) := by omega
              clear hya hyb
              go_wp2_with fail
              go_meet
              case rel => exact ⟨rfl, rfl⟩
            | false =>
              go_wp2_with fail
              go_meet
              case rel => exact ⟨rfl, rfl⟩
        case rest =>
          obtain ⟨rfl, rfl⟩ := hcut
          have hbt : badT now 1048576 = false := decide_eq_false (by unfold bigW; omega)
          have hT0 : (0 : Int) ≤ 1048576 ∧ (1048576 : Int) < topW := ⟨by omega, by unfold topW; omega⟩
          have hall : ∀ a, a ∈ M → a.2 ≤ 1048576 := fun a ha => by
            obtain ⟨h1, h2, h3, _⟩ := HRb.out a ha
            rw [h3]
            have := (Hgb.out a.1.toNat (by omega)).2
            omega
          have hdM : dueW 1048576 M = M := due_every hall
          have hdS : dueW 1048576 S0 = S0 := due_every (fun a ha => hall a (by rw [← HS0.out] at ha; exact (mem_stop.1 ha).1))
          obtain ⟨xl, exl⟩ : ∃ xl, M.map Prod.fst = xl := ⟨_, rfl⟩
          obtain ⟨zl, ezl⟩ : ∃ zl, S0.map Prod.fst = zl := ⟨_, rfl⟩
          have hzx : xl.filter (fun x => !decide (x = (d : Int))) = zl := by rw [← exl, ← ezl, ← HS0.out]; exact fst_stop _ _
          have hSl : S0.length ≤ 40 := by rw [← HS0.out]; have := stopW_le (d : Int) M; have := HnM.out; omega
          have hxl : xl.length ≤ 40 := by rw [← exl, List.length_map]; exact HnM.out
          have hzl : zl.length ≤ 40 := by rw [← ezl, List.length_map]; exact hSl
          have HT1 := Lib.hid (mtick hF.out (zOld w) 0 ga now M _ _ w10 H10.out.m rfl HML.out 1048576 1048576 0 (leftW 1048576 M) xl hT0 (by unfold tickC; rw [hbt]; rfl) (by unfold tickE; rw [hbt]; rfl) (by unfold tickA; rw [hbt]; rfl) (by unfold tickL; rw [hbt, hdM]; exact exl) rfl)
          have HT2 := Lib.hid (fun (Z : Nat → Prop) (x : Int × AL) (W : World) (hW : Many WAtP Z W [(ga, x.1, x.2), (gb, now, M), (gc, now, S0)]) => mtick hF.out Z 1 gb now M _ _ W hW rfl HML.out 1048576 1048576 0 (leftW 1048576 M) xl hT0 (by unfold tickC; rw [hbt]; rfl) (by unfold tickE; rw [hbt]; rfl) (by unfold tickA; rw [hbt]; rfl) (by unfold tickL; rw [hbt, hdM]; exact exl) rfl)
          have HT3 := Lib.hid (fun (Z : Nat → Prop) (x y : Int × AL) (W : World) (hW : Many WAtP Z W [(ga, x.1, x.2), (gb, y.1, y.2), (gc, now, S0)]) => mtick hF.out Z 2 gc now S0 _ _ W hW rfl (by omega) 1048576 1048576 0 (leftW 1048576 S0) zl hT0 (by unfold tickC; rw [hbt]; rfl) (by unfold tickE; rw [hbt]; rfl) (by unfold tickA; rw [hbt]; rfl) (by unfold tickL; rw [hbt, hdS]; exact ezl) rfl)
          have Hzx := Lib.hid hzx
          clear hbt hall hdM hdS exl ezl hzx hSl hxq
          go_wp2_with fail
          refine (HT1.out).mono ?_
          rintro e w11 ⟨vx, rfl, hvx, -, hmT, hbT⟩
          have U1 := Lib.hid (H10.out.go hmT hbT (fun k hk => .inl hk))
          have Hvx := Lib.hid hvx
          clear hmT hbT hvx
          go_wp2_with fail
          refine (HT2.out _ (1048576, leftW 1048576 M) w11 U1.out.m).mono ?_
          rintro e w12 ⟨vy, rfl, hvy, -, hmT, hbT⟩
          have U2 := Lib.hid (U1.out.go hmT hbT (fun k hk => .inl hk))
          have Hvx2 := Lib.hid (sl_kept Hvx.out hbT (fun b hb => .inr hb))
          have Hvy := Lib.hid hvy
          clear hmT hbT hvy Hvx
          go_wp2_with fail
          refine (HT3.out _ (1048576, leftW 1048576 M) (1048576, leftW 1048576 M) w12 U2.out.m).mono ?_
          rintro e w13 ⟨vz, rfl, hvz, -, hmT, hbT⟩
          have U3 := Lib.hid (U2.out.go hmT hbT (fun k hk => .inl hk))
          have Hvx3 := Lib.hid (sl_kept Hvx2.out hbT (fun b hb => .inl (.inr hb)))
          have Hvy3 := Lib.hid (sl_kept Hvy.out hbT (fun b hb => .inr hb))
          have Hvz := Lib.hid hvz
          clear hmT hbT hvz Hvx2 Hvy HT1 HT2 HT3 U1 U2 H10
          have HB13 := Lib.hid U3.out.b
          have hlx : xl.length ≤ 1000000 := by omega
          have hlz : zl.length ≤ 1000000 := by omega
          have HSm1 := Lib.hid (same12_any _ _ xl xl true w13 Hvx3.out Hvy3.out hlx (decide_eq_true rfl))
          clear U3
          go_wp2_with fail
          refine HSm1.out.mono ?_
          rintro e w14 ⟨rfl, m1, rfl⟩
          obtain ⟨w14, ew14⟩ : ∃ w14, w13.drewN m1 = w14 := ⟨_, rfl⟩
          have Hx := Lib.hid (sl_drewN Hvx3.out m1)
          have Hz := Lib.hid (sl_drewN Hvz.out m1)
          have HB14 := Lib.hid (below_drewZ HB13.out m1)
          rw [ew14] at Hx Hz HB14 ⊢
          clear ew14 HSm1 Hvx3 Hvy3 Hvz HB13
          obtain ⟨Ax, cx, rfl, hcx⟩ := sl_read Hx.out
          have Hcx := Lib.hid hcx
          obtain ⟨nx, enx⟩ : ∃ nx, xl.length = nx := ⟨_, rfl⟩
          rw [enx] at hlx hxl Hcx Hx ⊢
          have Henx := Lib.hid enx
          clear hcx enx
          have hws : ∀ b, (Value.slice Ax nx cx).ownBlock = some b → b < w14.heap.size := fun b hb => by
            rcases Hx.out with ⟨e, _⟩ | ⟨g', o, c', e, hr⟩
            · rw [e] at hb; cases hb
            · rw [e] at hb
              injection hb with hb
              subst hb
              exact hr.lt
          have Hws := Lib.hid hws
          have hwz : ∀ b, vz.ownBlock = some b → b < w14.heap.size := fun b hb => by
            rcases Hz.out with ⟨e, _⟩ | ⟨g', o, c', e, hr⟩
            · rw [e] at hb; cases hb
            · rw [e] at hb
              injection hb with hb
              subst hb
              exact hr.lt
          have Hwz := Lib.hid hwz
          clear hws hwz
          go_wp2_with fail
          go_loopg [28, 29] nx (fun gk x28 x29 wr => ∃ (j : Nat) (lv : Value), Hid (gk + j = nx) ∧ j ≤ nx ∧ x29 = .int .i64 (j : Int) ∧ lv = x28 ∧ Hid (Sl wr 23 .u64 lv ((xl.take j).filter (fun x => !decide (x = (d : Int))))) ∧ Hid (∀ b, lv.ownBlock = some b → w14.heap.size ≤ b) ∧ Hid (Below w14.heap.size w14 wr))
          case atStart => exact ⟨0, .slice none 0 0, rfl, Nat.zero_le _, rfl, rfl, Lib.hid (Sl.nil _ _ _), Lib.hid (fun b hb => by cases hb), Lib.hid (Below.refl _ _)⟩
          case round =>
            obtain ⟨j, lv, hgk, hj, rfl, rfl, hS, hO, hBr⟩ := hrel
            by_cases hjn : j < nx
            · obtain ⟨g1, o1, rfl, hc1⟩ := Hcx.out j hjn
              obtain ⟨y, ey⟩ : ∃ y, xl.getD j 0 = y := ⟨_, rfl⟩
              rw [ey] at hc1
              have hfs := filter_snoc (p := fun x => !decide (x = (d : Int))) xl (j := j) (by rw [Henx.out]; exact hjn)
              rw [ey] at hfs
              have hc2 : wr.cell? ⟨g1, o1 + j, none⟩ = some (.int .u64 y) := (hBr.out.cell (p := ⟨g1, o1 + j, none⟩) (Hws.out g1 rfl)).trans hc1
              have j0 : (0 : Int) ≤ (j : Int) := by omega
              have j1 : (j : Int) < (nx : Int) := by omega
              have hwrj : IntKind.i64.wrap ((j : Int) + 1) = (j : Int) + 1 := by rw [IntKind.wrap_i64]; omega
              by_cases hyd : y = (d : Int)
              · have hyb : (y != (d : Int)) = false := by simp [hyd]
                have Hn := Lib.hid (show (xl.take (j + 1)).filter (fun x => !decide (x = (d : Int))) = (xl.take j).filter (fun x => !decide (x = (d : Int))) by rw [hfs]; simp [hyd])
                clear hfs hyd ey hc1
                go_wp2_with fail
                go_roundg (gk - 1)
                case measure => have := hgk.out; omega
                case rel => exact ⟨j + 1, _, Lib.hid (by have := hgk.out; show gk - 1 + (j + 1) = _; omega), by omega, by go_num, rfl, Lib.hid (by rw [Hn.out]; exact hS.out), hO, hBr⟩
              · have hyb : (y != (d : Int)) = true := by simpa using hyd
                have Hn := Lib.hid (show (xl.take (j + 1)).filter (fun x => !decide (x = (d : Int))) = (xl.take j).filter (fun x => !decide (x = (d : Int))) ++ [y] by rw [hfs]; simp [hyd])
                have hlit := Row.one (w := wr) 23 .u64 y wr.heap.size rfl
                have hBa : But (fun _ => False) wr (wr.alloc (.cells #[.int .u64 y] 23)) := (But.refl _ _).alloc _
                have hfl : ((xl.take j).filter (fun x => !decide (x = (d : Int)))).length ≤ 40 := Nat.le_trans (List.length_filter_le _ _) (by rw [List.length_take]; have := Henx.out; omega)
                obtain ⟨v3, w3', hr3, hl3, hb3, hblk3, _, _⟩ := sl_app (P := Try.prog) (wr.alloc (.cells #[.int .u64 y] 23)) 37 37 23 .u64 8 Try.underlying37 info_u64w (by omega) lv _ _ [y] (hS.out.but hBa (fun _ _ x => x)) hlit (by simp; omega)
                have hO3 : ∀ b, v3.ownBlock = some b → w14.heap.size ≤ b := fun b hb => by
                  rcases hblk3 with e | e
                  · exact hO.out b (by rw [← e]; exact hb)
                  · have h1 := Option.some.inj (hb.symm.trans e)
                    have h2 := hBr.out.size
                    have h3 := hBa.size
                    omega
                have hB3 : Below w14.heap.size w14 w3' := hBr.out.trans ((hBa.mono (S' := fun k => lv.ownBlock = some k) (fun _ _ x => x.elim)).trans hb3 |>.below hO.out hBr.out.size)
                have HS3 := Lib.hid (show Sl w3' 23 .u64 v3 ((xl.take (j + 1)).filter (fun x => !decide (x = (d : Int)))) by rw [Hn.out]; exact hl3)
                have HO3 := Lib.hid hO3
                have HB3 := Lib.hid hB3
                have Hr3 := Lib.hid hr3
                clear hfs hyd ey hc1 hlit hBa hfl hr3 hl3 hb3 hblk3 hO3 hB3 Hn
                go_wp2_with (at_builtin; refine wpList_appX rfl (.tmp 216) (.tmp 221) _ _ rfl rfl _ _ _ w3' rfl rfl Hr3.out ?_)
                go_roundg (gk - 1)
                case measure => have := hgk.out; omega
                case rel => exact ⟨j + 1, v3, Lib.hid (by have := hgk.out; show gk - 1 + (j + 1) = _; omega), by omega, by go_num, rfl, HS3, HO3, HB3⟩
            · obtain rfl : nx = j := by omega
              have hnn : decide ((nx : Int) < (nx : Int)) = false := by simp
              have hS2 : Sl wr 23 .u64 lv zl := by
                have h1 := hS.out
                rwa [List.take_of_length_le (by rw [Henx.out]; exact Nat.le_refl _), Hzx.out] at h1
              have HSm := Lib.hid (same12_any vz lv zl zl true wr (Hz.out.but (But.of (S := fun k => w14.heap.size ≤ k) hBr.out |>.mono (fun k _ hk => hk)) (fun b hb hn => by have := Hwz.out b hb; omega)) hS2 hlz (decide_eq_true rfl))
              have Hwk := Lib.hid (fun m => whwake_any hF.out (wr.drewN m))
              clear hS2
              go_wp2_with fail
              refine HSm.out.mono ?_
              rintro e w15 ⟨rfl, m2, rfl⟩
              go_wp2_with fail
              refine (Hwk.out m2).mono ?_
              rintro e w16 ⟨rfl, hb16⟩
              have HB16 := Lib.hid (show Below w.heap.size w w16 from by
                have h1 : Below w.heap.size w wr := HB14.out.trans (hBr.out.mono HB14.out.size)
                exact (below_drewZ h1 m2).trans (hb16.mono h1.size))
              clear hb16
              go_wp2_with fail
              go_ret
              exact ⟨rfl, HB16.out⟩
theorem own : ownKnob Try.prog.godebug = none := by kernel_rfl
theorem laidOut : laidOutB Try.prog = true := by kernel_rfl

set_option maxRecDepth 100000 in
theorem lifted (os : Os) (started : os.Started) (H : Type) (enc : TypeId × Value → H) :
    ReturnsInHanded {} Try.checked os 6 .any (Rows.wheelPartsSpec.pre6 enc Try.prog Try.f6 Rows.wheelPartsRow.domain false) (Rows.wheelPartsSpec.post enc Try.prog Try.f6 false true false false) := by
  refine returnsInHanded_of_change (C := Try.checked) own started (by kernel_rfl) Try.func6
    (ChangeSpec.witness6 (enc := enc) (C := Try.checked) false ⟨#[], #[(.slice none 0 0), .int .u16 0, .int .u8 0], []⟩ 8 (by kernel_rfl) (by kernel_rfl) (by kernel_rfl) (by kernel_rfl)) ?_
  intro W base args ds gs before hval0 hW hcnd _
  have hval : ∀ (j : Nat) t v, Try.f6.params[j]? = some t → args[j]? = some v → Value.okWide Try.prog W .any base t v := hval0
  have hW' := hW
  obtain ⟨p, q, hA0, hV, rfl, hfz, hnd⟩ := hW
  have hA : DataW.TrodAll enc Try.prog W 0 (fun _ => true) true Try.f6.params.toList args.toList ds p := hA0
  rw [Try.params6] at hA hval
  obtain ⟨v0, vs0, d0, ds0, p0, q0, hargs, rfl, rfl, h0, r0⟩ := trodAll_cons hA
  obtain ⟨v1, vs1, d1, ds1, p1, q1, rfl, rfl, rfl, h1, r1⟩ := trodAll_cons r0
  obtain ⟨v2, vs2, d2, ds2, p2, q2, rfl, rfl, rfl, h2, r2⟩ := trodAll_cons r1
  obtain ⟨rfl, rfl, rfl⟩ := trodAll_nil r2
  obtain rfl : args = #[v0, v1, v2] := by cases args; simp_all
  obtain ⟨rfl, rfl⟩ := trodVars_none hV
  have k0 := nums_open_u16 (hval 0 50 v0 rfl rfl) h0
  have lt0 : ∀ x ∈ p0, x.block < W.heap.size := by obtain ⟨m, hm⟩ := h0; exact DataW.trod_lt m _ _ _ hm
  obtain ⟨a1, rfl, rfl, rfl, w1⟩ := open_int Try.underlying53 (hval 1 53 v1 rfl rfl) h1
  obtain ⟨a2, rfl, rfl, rfl, w2⟩ := open_int Try.underlying5 (hval 2 5 v2 rfl rfl) h2
  clear hA0 hval0
  refine (walk W v0 k0 a1 w1 a2 w2).mono fun e W' ⟨he, bel⟩ => ?_
  subst he
  exact ⟨_, rfl, _, _, _, [], _, [], hW', trodAll_mk1 (shut_bool Try.underlying4 _), (trodAll_cons_mk (Below.trod laidOut (by kernel_rfl) (of_decide_eq_true (by kernel_rfl)) h0 bel lt0) (trodAll_cons_mk (shut_int Try.underlying53 w1) (trodAll_cons_mk (shut_int Try.underlying5 w2) trodAll_mk0))), rfl, bel.frame _, fun h => by cases h⟩

theorem over : Rows.wheelPartsRow.holds Try.pinned (OpenSpec.ofChange Rows.wheelPartsSpec) :=
  OpenClaim.holds_of_wide 6 Try.f6 rfl rfl rfl rfl rfl rfl rfl ⟨rfl, rfl, rfl, rfl, rfl⟩ rfl rfl rfl rfl rfl (by kernel_rfl) Try.func6 (by kernel_rfl)
    (of_decide_eq_true (by kernel_rfl)) (by unfold Func.isWrapper; first | (rw [if_pos (by decide +kernel)]; kernel_rfl) | (rw [if_neg (by decide +kernel)]; exact ⟨rfl, rfl⟩))
    (fun os started H enc _ => lifted os started H enc)

/-- The statement. -/
theorem proved : Rows.WheelPartsSaid := over
#print axioms proved
end Go.Proofs.Ytlpgabbnldalhaa.wheelParts
