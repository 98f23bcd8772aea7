/-
  TableUse holds: of embryonic flows in a full table the one that was not touched for the longest time goes first, for any number at most, any number that come, whichever is touched.
-/
import Derived.Test.YtnhlbohdlnjaaaaTbUse
import Derived.Deep.CutRange
import Derived.RegionTactic
namespace Go.Proofs.Ytnhlbohdlnjaaaa.tableUse
set_option maxRecDepth 10000
open Go.ChangeShapes Go.WideShapes Go.ChangeAt Go.RowKit
set_option linter.unusedVariables false
set_option linter.unusedSimpArgs false
theorem TZ.app {B : Nat} {w w2 : World} {g : Nat} {M last : Int} {L : TL} {v u v2 : Value} (h : TZ (fun t => t < B ∨ v.ownBlock = some t) w g M last L) (hB : But (fun k => u.ownBlock = some k) w w2) (hu : ∀ b, u.ownBlock = some b → v.ownBlock = some b)
    (ho : v2.ownBlock = u.ownBlock ∨ ∃ b, v2.ownBlock = some b ∧ w.heap.size ≤ b ∧ b < w2.heap.size) : TZ (fun t => t < B ∨ v2.ownBlock = some t) w2 g M last L := by
  obtain ⟨S, h1, h2, h3⟩ := h
  refine ⟨S, h1.but hB (fun k hk e => h2 k hk (.inr (hu k e))), fun k hk e => ?_, fun k hk => ?_⟩
  · rcases e with e | e
    · exact h2 k hk (.inl e)
    · rcases ho with e1 | ⟨b, e1, e2, _⟩
      · exact h2 k hk (.inr (hu k (e1 ▸ e)))
      · rw [e] at e1; injection e1 with e1; have := h1.lt k hk; omega
  · rcases hk with e | e
    · exact hB.lt (h3 k (.inl e))
    · rcases ho with e1 | ⟨b, e1, _, e3⟩
      · exact hB.lt (h3 k (.inr (hu k (e1 ▸ e))))
      · rw [e] at e1; injection e1 with e1; omega
theorem own_app {B : Nat} {w w2 : World} {v u v2 : Value} (hw : B ≤ w.heap.size) (h : ∀ b, v.ownBlock = some b → B ≤ b) (hu : ∀ b, u.ownBlock = some b → v.ownBlock = some b) (ho : v2.ownBlock = u.ownBlock ∨ ∃ b, v2.ownBlock = some b ∧ w.heap.size ≤ b ∧ b < w2.heap.size) : ∀ b, v2.ownBlock = some b → B ≤ b := fun b hb => by
  rcases ho with e | ⟨b', e, e2, _⟩
  · exact h b (hu b (e ▸ hb))
  · rw [hb] at e; injection e with e; omega
def g0 : Nat → Tu := fun _ => ofT 0
set_option maxHeartbeats 4000000 in
theorem walk0 (w : World) (most come kept : Int) (h1 : 0 ≤ most ∧ most < 256) (h2 : 0 ≤ come ∧ come < 256) (h3 : 0 ≤ kept ∧ kept < 256) : Calls Try.prog 5 #[.int .u8 most, .int .u8 come, .int .u8 kept] w fun e w' => e = .returned (.bool true) ∧ Below w.heap.size w w' := by
  obtain ⟨B, eB⟩ : ∃ B, w.heap.size = B := ⟨_, rfl⟩
  have EB := Lib.hid eB
  clear eB
  obtain ⟨n, en⟩ : ∃ n : Nat, 2 + most % 19 = (n : Int) := ⟨(2 + most % 19).toNat, by omega⟩
  have hn : 2 ≤ n ∧ n ≤ 20 := by omega
  have En := Lib.hid en
  have Hnew := Lib.hid (new_own13 (n : Int) w (by omega))
  clear en
  go_enter Try.func5, Try.ntmps5
  go_wp2_with fail
  rw [En.out]
  refine Hnew.out.mono ?_
  rintro e w1 ⟨g, rfl, hp, hb1⟩
  have HP := Lib.hid (show TOwn B w1 g n 0 [] from by rw [← EB.out]; exact hp)
  have HB := Lib.hid (show Below B w w1 from by rw [← EB.out]; exact hb1)
  have HS := Lib.hid (show B ≤ w1.heap.size from by rw [← EB.out]; exact hb1.size)
  clear hp hb1 Hnew
  go_wp2_with fail
  refine (awake_any w1).mono ?_
  rintro e w2 ⟨rfl, hb⟩
  have hp := HP.out.below hb
  have hb := hb.mono HS.out
  have HP2 := Lib.hid hp
  have HB2 := Lib.hid (HB.out.trans hb)
  have HS2 := Lib.hid (Nat.le_trans HS.out hb.size)
  clear hp hb HP HB HS
  have HP := HP2
  have HB := HB2
  have HS := HS2
  clear HP2 HB2 HS2
  go_wp2_with fail
  go_loopg [40] n (fun gk i wr => ∃ j : Nat, Hid (gk + j = n) ∧ j ≤ n ∧ i = .int .i64 (j : Int) ∧ Hid (TOwn B wr g n j (LL j g0)) ∧ Hid (Below B w wr ∧ B ≤ wr.heap.size))
  case atStart => exact ⟨0, rfl, Nat.zero_le _, rfl, HP, Lib.hid ⟨HB.out, HS.out⟩⟩
  case round =>
    obtain ⟨j, hgk, hj, rfl, HP, HBS⟩ := hrel
    have HB := Lib.hid HBS.out.1
    have HS := Lib.hid HBS.out.2
    by_cases hjm : j < n
    · have hjd : (j : Int) < (n : Int) := by omega
      have Hjm := Lib.hid hjm
      have Ta := Lib.hid (fun W h hB => add_own B g n j (LL j g0) W h hB (ofT ((j : Int) + 1)) (ofT 0) _ _ _ _ _ (by omega) (LL_add g0 hjd (fun i hi => .inl (by unfold g0; rw [ofT_zero]))))
      have hj20 : j < 20 := by omega
      go_wp2_with fail
      refine (of_any _ _).mono ?_
      rintro e w3 ⟨rfl, hb⟩
      have hp := HP.out.below hb
      have hb := hb.mono HS.out
      have HP2 := Lib.hid hp
      have HB2 := Lib.hid (HB.out.trans hb)
      have HS2 := Lib.hid (Nat.le_trans HS.out hb.size)
      clear hp hb HP HB HS
      have HP := HP2
      have HB := HB2
      have HS := HS2
      clear HP2 HB2 HS2
      go_wp2_with fail
      refine (of_any _ _).mono ?_
      rintro e w4 ⟨rfl, hb⟩
      have hp := HP.out.below hb
      have hb := hb.mono HS.out
      have HP2 := Lib.hid hp
      have HB2 := Lib.hid (HB.out.trans hb)
      have HS2 := Lib.hid (Nat.le_trans HS.out hb.size)
      clear hp hb HP HB HS
      have HP := HP2
      have HB := HB2
      have HS := HS2
      clear HP2 HB2 HS2
      go_wp2_with fail
      refine (Ta.out _ HP.out HS.out).mono ?_
      rintro e w5 ⟨rfl, hp, hb⟩
      have HP2 := Lib.hid hp
      have HB2 := Lib.hid (HB.out.trans hb)
      have HS2 := Lib.hid (Nat.le_trans HS.out hb.size)
      clear hp hb HP HB HS
      have HP := HP2
      have HB := HB2
      have HS := HS2
      clear HP2 HB2 HS2
      go_wp2_with fail
      go_roundg (gk - 1)
      case measure => have := hgk.out; have := Hjm.out; omega
      case rel => exact ⟨j + 1, by have := hgk.out; have := Hjm.out; show gk - 1 + (j + 1) = _; omega, by have := Hjm.out; omega, by have := Hjm.out; go_num, by rw [show ((j + 1 : Nat) : Int) = (j : Int) + 1 by omega]; exact HP, Lib.hid ⟨HB.out, HS.out⟩⟩
    · obtain rfl : n = j := by omega
      clear hjm
      go_upto_region 14 with (fail)
      have hn0 : ¬ (n : Int) = 0 := by omega
      obtain ⟨k, ek⟩ : ∃ k : Nat, kept % (n : Int) = (k : Int) := ⟨(kept % (n : Int)).toNat, by have := Int.emod_nonneg kept hn0; omega⟩
      have hk : k < n := by have := Int.emod_lt_of_pos kept (show (0 : Int) < (n : Int) by omega); omega
      obtain ⟨kp, ekp⟩ : ∃ kp : Int, (k : Int) + 1 = kp := ⟨_, rfl⟩
      rw [ek, show IntKind.u64.wrap (1 + (k : Int)) = kp by simp [IntKind.wrap, IntKind.bits, IntKind.signed]; omega]
      have Hkp := Lib.hid ekp
      have Hk := Lib.hid hk
      have HZ0 := Lib.hid (show TZ (fun t => t < B ∨ (Value.slice none 0 0).ownBlock = some t) wr g n n (LL n g0) from (HP.out.z HS.out).sub (fun t ht => by rcases ht with e | e; exact e; cases e))
      clear ek ekp hk hn0 HP
      go_wp2_with fail
      go_loopg [15, 75] n (fun gk v i wx => ∃ (j : Nat) (A : Option Addr) (m c : Nat), Hid (gk + j = n) ∧ j ≤ n ∧ i = .int .i64 (j : Int) ∧ v = .slice A m c ∧ Hid (TZ (fun t => t < B ∨ (Value.slice A m c).ownBlock = some t) wx g n n (LL n g0)) ∧ Hid (Sl wx 32 .u64 (.slice A m c) (leftU k j)) ∧ Hid (∀ b, (Value.slice A m c).ownBlock = some b → B ≤ b) ∧ Hid (Below B w wx ∧ B ≤ wx.heap.size))
      case atStart => exact ⟨0, none, 0, 0, rfl, Nat.zero_le _, rfl, rfl, HZ0, Lib.hid (.inl ⟨rfl, rfl⟩), Lib.hid (fun b hb => by cases hb), Lib.hid ⟨HB.out, HS.out⟩⟩
      case round =>
        clear HB HS HBS HZ0
        obtain ⟨j, A, m, c, hgk2, hj2, rfl, rfl, HZ, HL, HO, HBS⟩ := hrel
        by_cases hjm : j < n
        · have hjd : (j : Int) < (n : Int) := by omega
          have Hjm := Lib.hid hjm
          have hj20 : j < 20 := by omega
          by_cases hjk : j = k
          · have hne : (((j : Int) + 1) != kp) = false := by have := Hkp.out; simp; omega
            have HLn := Lib.hid (show Sl wr 32 .u64 (.slice A m c) (leftU k (j + 1)) by rw [leftU_succ, if_pos hjk, List.append_nil]; exact HL.out)
            clear hjk
            go_wp2_with fail
            go_roundg (gk - 1)
            case measure => have := hgk2.out; have := Hjm.out; omega
            case rel => exact ⟨j + 1, A, m, c, by have := hgk2.out; have := Hjm.out; show gk - 1 + (j + 1) = _; omega, by have := Hjm.out; omega, by have := Hjm.out; go_num, rfl, HZ, HLn, HO, HBS⟩
          · have hne : (((j : Int) + 1) != kp) = true := by have := Hkp.out; simp; omega
            obtain ⟨q, eq⟩ : ∃ q, wr.heap.size = q := ⟨_, rfl⟩
            obtain ⟨A2, n2, c2, w2, hr2, hs2, hB2, ho2⟩ := u64_app HL.out ((j : Int) + 1) eq (by have : (leftU k j).length ≤ j := (by unfold leftU; rw [List.length_map]; exact Nat.le_trans (List.length_filter_le _ _) (by simp)); omega)
            have Hr2 := Lib.hid hr2
            have HLn := Lib.hid (show Sl w2 32 .u64 (.slice A2 n2 c2) (leftU k (j + 1)) by rw [leftU_succ, if_neg hjk]; exact hs2)
            have HZn := Lib.hid (TZ.app HZ.out hB2 (fun b hb => hb) ho2)
            have HOn := Lib.hid (own_app HBS.out.2 HO.out (fun b hb => hb) ho2)
            have HBn := Lib.hid (show Below B w w2 ∧ B ≤ w2.heap.size from ⟨HBS.out.1.trans (hB2.below (fun b hb => HO.out b hb) HBS.out.2), Nat.le_trans HBS.out.2 hB2.size⟩)
            have Eq := Lib.hid eq
            clear hjk hr2 hs2 hB2 ho2 eq
            go_wp2_with (at_builtin; rw [Eq.out]; refine wpList_appX rfl (.tmp 84) (.tmp 86) _ _ rfl rfl _ _ _ w2 rfl rfl Hr2.out ?_)
            go_roundg (gk - 1)
            case measure => have := hgk2.out; have := Hjm.out; omega
            case rel => exact ⟨j + 1, A2, n2, c2, by have := hgk2.out; have := Hjm.out; show gk - 1 + (j + 1) = _; omega, by have := Hjm.out; omega, by have := Hjm.out; go_num, rfl, HZn, HLn, HOn, HBn⟩
        · obtain rfl : n = j := by omega
          clear hjm
          obtain ⟨cm, ecm⟩ : ∃ cm : Nat, come % 60 = (cm : Int) := ⟨(come % 60).toNat, by omega⟩
          have hcm : cm < 60 := by omega
          have Ecm := Lib.hid ecm
          clear ecm
          have HU0 := Lib.hid (use_begin Hk.out)
          have HE0 := Lib.hid (LL_mid Hk.out g0)
          have HL0 := Lib.hid (leftU_all Hk.out g0)
          obtain ⟨A0, eA0⟩ : ∃ A0, (LL n g0).take k = A0 := ⟨_, rfl⟩
          obtain ⟨C0, eC0⟩ : ∃ C0, (LL n g0).drop (k + 1) = C0 := ⟨_, rfl⟩
          obtain ⟨K, eK⟩ : ∃ K : Fl, (⟨(k : Int) + 1, ofT ((k : Int) + 1), ofT 0, true⟩ : Fl) = K := ⟨_, rfl⟩
          have HUs := Lib.hid (show UseOk n 0 kp A0 C0 K from by
            have h := HU0.out
            rw [Hkp.out] at h
            rw [← eA0, ← eC0, ← eK, Hkp.out]
            exact h)
          have HZs := Lib.hid (show TZ (fun t => t < B ∨ (Value.slice A m c).ownBlock = some t) wr g n (n + 0) (A0 ++ K :: C0) from by
            have h := HZ.out
            rw [HE0.out, eA0, eC0] at h
            rw [Int.add_zero, ← eK]
            exact h)
          have HLs := Lib.hid (show Sl wr 32 .u64 (.slice A m c) ((A0 ++ C0).map Fl.id) from by
            have h := HL.out
            rw [← HL0.out, eA0, eC0] at h
            exact h)
          clear HU0 HE0 HL0 eA0 eC0 eK HZ HL
          go_wp2_with fail
          rw [Ecm.out]
          go_loopg [15, 92] cm (fun gk v i wx => ∃ (j : Nat) (A : Option Addr) (m c : Nat) (A1 C1 : TL), Hid (gk + j = cm) ∧ j ≤ cm ∧ i = .int .i64 (j : Int) ∧ v = .slice A m c ∧ Hid (UseOk n j kp A1 C1 K) ∧ Hid (TZ (fun t => t < B ∨ (Value.slice A m c).ownBlock = some t) wx g n (n + j) (A1 ++ K :: C1)) ∧ Hid (Sl wx 32 .u64 (.slice A m c) ((A1 ++ C1).map Fl.id)) ∧ Hid (∀ b, (Value.slice A m c).ownBlock = some b → B ≤ b) ∧ Hid (Below B w wx ∧ B ≤ wx.heap.size))
          case atStart => exact ⟨0, A, m, c, A0, C0, rfl, Nat.zero_le _, rfl, rfl, HUs, HZs, HLs, HO, HBS⟩
          case round =>
            clear HUs HZs HLs HO HBS
            obtain ⟨j, A, m, c, A1, C1, hgk3, hj3, rfl, rfl, HU, HZ, HL, HO, HBS⟩ := hrel
            by_cases hjm : j < cm
            · have hjd : (j : Int) < (cm : Int) := by omega
              have Hjm := Lib.hid hjm
              have hj60 : j < 60 := by omega
              obtain ⟨hd, t, eht⟩ : ∃ hd t, A1 ++ C1 = hd :: t := by
                cases hh : A1 ++ C1 with
                | nil => have h1 := HU.out.len; have h2 : (A1 ++ C1).length = 0 := by rw [hh]; rfl
                         rw [List.length_append] at h2; omega
                | cons a b => exact ⟨a, b, rfl⟩
              have hl := HL.out
              rw [eht, List.map_cons] at hl
              obtain ⟨gs, o, c', ev, hrow⟩ := hl.consU
              obtain ⟨A4, c4, hcut, hown4, hs4⟩ := tail_runU hrow
              obtain ⟨mm, emm⟩ : ∃ mm, (t.map Fl.id).length = mm := ⟨_, rfl⟩
              rw [emm] at ev hcut hown4 hs4
              injection ev with ev1 ev2 ev3
              subst ev1; subst ev2; subst ev3
              have Ht := Lib.hid (use_touch HU.out.id HZ.out.ok)
              have Ha := Lib.hid (use_add HU.out HZ.out.ok rfl rfl (show (0 : Int) ≤ (j : Int) by omega) eht)
              have HUn := Lib.hid (use_next HU.out (show (0 : Int) ≤ (j : Int) by omega) (show (1 : Int) ≤ (n : Int) by omega) eht)
              obtain ⟨id1, eid1⟩ : ∃ x : Int, (n : Int) + (j : Int) + 1 = x := ⟨_, rfl⟩
              rw [eid1] at Ha HUn
              have T1 := Lib.hid (fun W h => touch_z (fun t => t < B ∨ (Value.slice (some ⟨gs, o, none⟩) (mm + 1) c).ownBlock = some t) g n (n + j) (A1 ++ K :: C1) W h kp _ _ Ht.out)
              have T2 := Lib.hid (fun W h => add_z (fun t => t < B ∨ (Value.slice (some ⟨gs, o, none⟩) (mm + 1) c).ownBlock = some t) g n (n + j) (A1 ++ C1 ++ [K]) W h (ofT id1) (ofT ((j : Int) + 1)) _ _ _ _ _ (by omega) Ha.out)
              have i0 : (0 : Int) < (mm : Int) + 1 := by omega
              have hidx : ∀ W : World, (Instr.indexAt 68 (.slice (some ⟨gs, o, none⟩) (mm + 1) c) (.int .i64 0)).run Try.prog W = .ok (.pointer (some ⟨gs, o, none⟩)) W := fun W => by go_simp
              obtain ⟨id0, eid0⟩ : ∃ x : Int, hd.id = x := ⟨_, rfl⟩
              rw [eid0] at hrow T2
              have Hrow := Lib.hid hrow
              have Hs4 := Lib.hid hs4
              have Hcut := Lib.hid hcut
              have Hown4 := Lib.hid hown4
              have Emm := Lib.hid emm
              have Eid1 := Lib.hid eid1
              clear hl hrow hs4 hown4 eht Ht Ha eid0 emm eid1
              have HN := Lib.hid (But.refl (fun k => ¬ (k < B ∨ (Value.slice (some ⟨gs, o, none⟩) (mm + 1) c).ownBlock = some k)) wr)
              have hne0 : (id0 != id0) = false := by simp
              have hne1 : (id1 != (n : Int) + (j : Int) + 1) = false := by have := Eid1.out; simp; omega
              go_wp2_with fail
              refine (T1.out _ HZ.out).mono ?_
              rintro e w3 ⟨rfl, hp, hb⟩
              have HZ2 := Lib.hid hp
              have HN2 := Lib.hid (HN.out.trans hb)
              clear hp hb HZ HN
              have HZ := HZ2
              have HN := HN2
              clear HZ2 HN2
              go_wp2_with fail
              refine (of_any _ _).mono ?_
              rintro e w4 ⟨rfl, hb⟩
              rw [Eid1.out]
              have hp := HZ.out.below hb
              have hb := But.of (S := fun k => ¬ (k < B ∨ (Value.slice (some ⟨gs, o, none⟩) (mm + 1) c).ownBlock = some k)) hb
              have HZ2 := Lib.hid hp
              have HN2 := Lib.hid (HN.out.trans hb)
              clear hp hb HZ HN
              have HZ := HZ2
              have HN := HN2
              clear HZ2 HN2
              go_wp2_with fail
              refine (of_any _ _).mono ?_
              rintro e w5 ⟨rfl, hb⟩
              have hp := HZ.out.below hb
              have hb := But.of (S := fun k => ¬ (k < B ∨ (Value.slice (some ⟨gs, o, none⟩) (mm + 1) c).ownBlock = some k)) hb
              have HZ2 := Lib.hid hp
              have HN2 := Lib.hid (HN.out.trans hb)
              clear hp hb HZ HN
              have HZ := HZ2
              have HN := HN2
              clear HZ2 HN2
              go_wp2_with fail
              refine (T2.out _ HZ.out).mono ?_
              rintro e w6 ⟨rfl, hp, hb⟩
              have HZ2 := Lib.hid hp
              have HN2 := Lib.hid (HN.out.trans hb)
              clear hp hb HZ HN
              have HZ := HZ2
              have HN := HN2
              clear HZ2 HN2
              have hnz : ¬ ¬ (gs < B ∨ (Value.slice (some ⟨gs, o, none⟩) (mm + 1) c).ownBlock = some gs) := fun h => h (.inr rfl)
              have c0 : w6.cell? ⟨gs, o, none⟩ = some (.int .u64 id0) := by
                have h1 := HN.out.cell (p := ⟨gs, o, none⟩) Hrow.out.lt hnz
                have h2 := Hrow.out.cell (i := 0) (by simp)
                rw [h1]
                simpa using h2
              have hs6 : Sl w6 32 .u64 (.slice A4 mm c4) (t.map Fl.id) := Hs4.out.but HN.out (fun b hb => by
                rw [Hown4.out] at hb
                injection hb with hb
                subst hb
                exact hnz)
              obtain ⟨q, eq⟩ : ∃ q, w6.heap.size = q := ⟨_, rfl⟩
              obtain ⟨A5, n5, c5, w7, hr7, hs7, hB7, ho7⟩ := u64_app hs6 id1 eq (by have := Emm.out; have := HU.out.len; have := HUn.out.len; simp only [List.length_map] at *; simp only [List.length_cons, List.length_nil] at *; omega)
              have hBS6 : Below B w w6 ∧ B ≤ w6.heap.size := ⟨HBS.out.1.trans (belT HN.out (fun k hk => .inl hk) HBS.out.2), Nat.le_trans HBS.out.2 HN.out.size⟩
              have hsub : ∀ b, (Value.slice A4 mm c4).ownBlock = some b → (Value.slice (some ⟨gs, o, none⟩) (mm + 1) c).ownBlock = some b := fun b hb => by rw [Hown4.out] at hb; exact hb
              have Hr7 := Lib.hid hr7
              have HLn := Lib.hid (show Sl w7 32 .u64 (.slice A5 n5 c5) ((t ++ [(⟨id1, ofT id1, ofT ((j : Int) + 1), true⟩ : Fl)]).map Fl.id) by rw [List.map_append]; exact hs7)
              have HZn := Lib.hid (TZ.app HZ.out hB7 hsub ho7)
              have HOn := Lib.hid (own_app hBS6.2 HO.out hsub ho7)
              have HBn := Lib.hid (show Below B w w7 ∧ B ≤ w7.heap.size from ⟨hBS6.1.trans (hB7.below (fun b hb => HO.out b (hsub b hb)) hBS6.2), Nat.le_trans hBS6.2 hB7.size⟩)
              have Eq := Lib.hid eq
              clear hs6 hr7 hs7 hB7 ho7 hBS6 hsub hnz eq HZ HN HL HU HO HBS Hs4 Hrow Hown4
              go_wp2_with (at_builtin; rw [Eq.out]; refine wpList_appX rfl (.tmp 134) (.tmp 136) _ _ rfl rfl _ _ _ w7 rfl rfl Hr7.out ?_)
              go_roundg (gk - 1)
              case measure => have := hgk3.out; have := Hjm.out; omega
              case rel => exact ⟨j + 1, A5, n5, c5, t, [⟨id1, ofT id1, ofT ((j : Int) + 1), true⟩], by have := hgk3.out; have := Hjm.out; show gk - 1 + (j + 1) = _; omega, by have := Hjm.out; omega, by have := Hjm.out; go_num, rfl, HUn, by
                have := HZn
                rw [← Eid1.out] at this
                rw [show (n : Int) + ((j + 1 : Nat) : Int) = (n : Int) + (j : Int) + 1 by omega, ← Eid1.out]
                simpa using this, HLn, HOn, HBn⟩
            · obtain rfl : cm = j := by omega
              clear hjm
              have Tf := Lib.hid (flow_z _ g n (n + cm) (A1 ++ K :: C1) wr HZ.out kp _ _ (use_flow HU.out.id HZ.out.ok))
              have Hlen := Lib.hid (show (A1 ++ K :: C1).length = n by have := HU.out.len; simp only [List.length_append, List.length_cons]; omega)
              have hnn : ((n : Int) == (n : Int)) = true := by simp
              go_wp2_with fail
              refine Tf.out.mono ?_
              rintro e w3 ⟨rfl, hb⟩
              have hp := HZ.out.below hb
              rw [fl_arr]
              obtain ⟨w4, ew4⟩ : ∃ v, w3.alloc (.cells #[.int .u64 K.id, .int .u8 K.i.pr, .int .u32 K.i.sr, .int .u32 K.i.ds, .int .u16 K.i.sp, .int .u16 K.i.dp, .int .u8 K.o.pr, .int .u32 K.o.sr, .int .u32 K.o.ds, .int .u16 K.o.sp, .int .u16 K.o.dp, .bool K.em] 51) = v := ⟨_, rfl⟩
              have hb4 : Below w3.heap.size w3 w4 := by rw [← ew4]; exact (Below.refl _ _).alloc (Nat.le_refl _) _
              have HZ4 := Lib.hid (hp.below hb4)
              have HB4 := Lib.hid (HBS.out.1.trans ((below_trans hb hb4).mono HBS.out.2))
              have E4 := Lib.hid ew4
              clear hb hp ew4 hb4
              go_upto_region 32 with (fail)
              rw [E4.out]
              go_wp2_with fail
              refine (len_z _ g n (n + cm) (A1 ++ K :: C1) w4 HZ4.out n Hlen.out).mono ?_
              rintro e w5 ⟨rfl, rfl⟩
              go_wp2_with fail
              go_ret
              exact ⟨rfl, by rw [EB.out]; exact HB4.out⟩
theorem walk (w : World) (n : Int) (hn : (Lit.int .u8 n).wf = true) (a : Int) (ha : (Lit.int .u8 a).wf = true) (b : Int) (hb : (Lit.int .u8 b).wf = true) : Calls Try.prog 5 #[.int .u8 n, .int .u8 a, .int .u8 b] w fun e w' => e = .returned (.bool true) ∧ Below w.heap.size w w' :=
  walk0 w n a b (by have := bounds_u8 hn; omega) (by have := bounds_u8 ha; omega) (by have := bounds_u8 hb; omega)
theorem own : ownKnob Try.prog.godebug = none := by kernel_rfl
theorem laidOut : laidOutB Try.prog = true := by kernel_rfl

set_option maxRecDepth 100000 in
theorem lifted (os : Os) (started : os.Started) (H : Type) (enc : TypeId × Value → H) :
    ReturnsInHanded {} Try.checked os 5 .any (Rows.tableUseSpec.pre6 enc Try.prog Try.f5 Rows.tableUseRow.domain false) (Rows.tableUseSpec.post enc Try.prog Try.f5 false true false false) := by
  refine returnsInHanded_of_change (C := Try.checked) own started (by kernel_rfl) Try.func5
    (ChangeSpec.witness6 (enc := enc) (C := Try.checked) false ⟨#[], #[.int .u8 0, .int .u8 0, .int .u8 0], []⟩ 8 (by kernel_rfl) (by kernel_rfl) (by kernel_rfl) (by kernel_rfl)) ?_
  intro W base args ds gs before hval0 hW hcnd _
  have hval : ∀ (j : Nat) t v, Try.f5.params[j]? = some t → args[j]? = some v → Value.okWide Try.prog W .any base t v := hval0
  have hW' := hW
  obtain ⟨p, q, hA0, hV, rfl, hfz, hnd⟩ := hW
  have hA : DataW.TrodAll enc Try.prog W 0 (fun _ => true) true Try.f5.params.toList args.toList ds p := hA0
  rw [Try.params5] at hA hval
  obtain ⟨v0, vs0, d0, ds0, p0, q0, hargs, rfl, rfl, h0, r0⟩ := trodAll_cons hA
  obtain ⟨v1, vs1, d1, ds1, p1, q1, rfl, rfl, rfl, h1, r1⟩ := trodAll_cons r0
  obtain ⟨v2, vs2, d2, ds2, p2, q2, rfl, rfl, rfl, h2, r2⟩ := trodAll_cons r1
  obtain ⟨rfl, rfl, rfl⟩ := trodAll_nil r2
  obtain rfl : args = #[v0, v1, v2] := by cases args; simp_all
  obtain ⟨rfl, rfl⟩ := trodVars_none hV
  obtain ⟨a0, rfl, rfl, rfl, w0⟩ := open_int Try.underlying5 (hval 0 5 v0 rfl rfl) h0
  obtain ⟨a1, rfl, rfl, rfl, w1⟩ := open_int Try.underlying5 (hval 1 5 v1 rfl rfl) h1
  obtain ⟨a2, rfl, rfl, rfl, w2⟩ := open_int Try.underlying5 (hval 2 5 v2 rfl rfl) h2
  clear hA0 hval0
  refine (walk W a0 w0 a1 w1 a2 w2).mono fun e W' ⟨he, bel⟩ => ?_
  subst he
  exact ⟨_, rfl, _, _, _, [], _, [], hW', trodAll_mk1 (shut_bool Try.underlying4 _), (trodAll_cons_mk (shut_int Try.underlying5 w0) (trodAll_cons_mk (shut_int Try.underlying5 w1) (trodAll_cons_mk (shut_int Try.underlying5 w2) trodAll_mk0))), rfl, bel.frame _, fun h => by cases h⟩

theorem over : Rows.tableUseRow.holds Try.pinned (OpenSpec.ofChange Rows.tableUseSpec) :=
  OpenClaim.holds_of_wide 5 Try.f5 rfl rfl rfl rfl rfl rfl rfl ⟨rfl, rfl, rfl, rfl, rfl⟩ rfl rfl rfl rfl rfl (by kernel_rfl) Try.func5 (by kernel_rfl)
    (of_decide_eq_true (by kernel_rfl)) (by unfold Func.isWrapper; first | (rw [if_pos (by decide +kernel)]; kernel_rfl) | (rw [if_neg (by decide +kernel)]; exact ⟨rfl, rfl⟩))
    (fun os started H enc _ => lifted os started H enc)

/-- The statement. -/
theorem proved : Rows.TableUseSaid := over
#print axioms proved
end Go.Proofs.Ytnhlbohdlnjaaaa.tableUse
