/-
  TableLeads holds: where a flow leads is its own, for any number of flows, any two of them.
-/
import Derived.Test.YtnhlbohdlnjaaaaTbLL
import Derived.Test.YtnhlbohdlnjaaaaTbZ
import Derived.Deep.CutRange
import Derived.Deep.RegionHeld3
import Derived.RegionTactic
namespace Go.Proofs.Ytnhlbohdlnjaaaa.tableLeads
set_option maxRecDepth 10000
open Go.ChangeShapes Go.WideShapes Go.ChangeAt Go.RowKit
set_option linter.unusedVariables false
set_option linter.unusedSimpArgs false
def gL : Nat → Tu := fun j => ofT ((j : Int) + 100)
set_option maxHeartbeats 4000000 in
theorem walk0 (w : World) (n a b : Int) (hn : 0 ≤ n ∧ n < 256) (ha : 0 ≤ a ∧ a < 256) (hb : 0 ≤ b ∧ b < 256) : Calls Try.prog 6 #[.int .u8 n, .int .u8 a, .int .u8 b] w fun e w' => e = .returned (.bool true) ∧ Below w.heap.size w w' := by
  obtain ⟨B, eB⟩ : ∃ B, w.heap.size = B := ⟨_, rfl⟩
  have EB := Lib.hid eB
  clear eB
  obtain ⟨m, em⟩ : ∃ m : Nat, 2 + n % 19 = (m : Int) := ⟨(2 + n % 19).toNat, by omega⟩
  have hm : 2 ≤ m ∧ m ≤ 20 := by omega
  have Em := Lib.hid em
  have Hn := Lib.hid (new_own13 (m : Int) w (by omega))
  have Hm := Lib.hid hm
  clear em hm
  go_enter Try.func6, Try.ntmps6
  go_wp2_with fail
  rw [Em.out]
  refine Hn.out.mono ?_
  rintro e w1 ⟨g, rfl, hp, hb1⟩
  have HP := Lib.hid (show TOwn B w1 g m 0 [] from by rw [← EB.out]; exact hp)
  have HB := Lib.hid (show Below B w w1 from by rw [← EB.out]; exact hb1)
  have HS := Lib.hid (show B ≤ w1.heap.size from by rw [← EB.out]; exact hb1.size)
  clear hp hb1 Hn
  go_wp2_with fail
  refine (awake_any w1).mono ?_
  rintro e w2 ⟨rfl, hb⟩
  have hp := HP.out.below hb
  have hb := hb.mono HS.out
  have HP2 := Lib.hid hp
  have HB2 := Lib.hid (HB.out.trans hb)
  have HS2 := Lib.hid (Nat.le_trans HS.out hb.size)
  clear hp hb HP HB HS
  have HP := HP2
  have HB := HB2
  have HS := HS2
  clear HP2 HB2 HS2
  go_wp2_with fail
  go_loopg [40] m (fun gk i wr => ∃ j : Nat, Hid (gk + j = m) ∧ j ≤ m ∧ i = .int .i64 (j : Int) ∧ Hid (TOwn B wr g m j (LL j gL)) ∧ Hid (Below B w wr ∧ B ≤ wr.heap.size))
  case atStart => exact ⟨0, rfl, Nat.zero_le _, rfl, HP, Lib.hid ⟨HB.out, HS.out⟩⟩
  case round =>
    obtain ⟨j, hgk, hj, rfl, HP, HBS⟩ := hrel
    have HB := Lib.hid HBS.out.1
    have HS := Lib.hid HBS.out.2
    have hm20 := Hm.out
    by_cases hjm : j < m
    · have hjd : (j : Int) < (m : Int) := by omega
      have Hjm := Lib.hid hjm
      have q1 : IntKind.u32.wrap (j : Int) = (j : Int) := by simp [IntKind.wrap, IntKind.bits, IntKind.signed]; omega
      have q2 : IntKind.u32.wrap ((j : Int) + 1) = (j : Int) + 1 := by simp [IntKind.wrap, IntKind.bits, IntKind.signed]; omega
      have q3 : IntKind.u32.wrap ((j : Int) + 100) = (j : Int) + 100 := by simp [IntKind.wrap, IntKind.bits, IntKind.signed]; omega
      have Ta := Lib.hid (fun W h hB => add_own B g m j (LL j gL) W h hB (ofT ((j : Int) + 1)) (gL j) _ _ _ _ _ (by omega) (LL_add gL hjd (fun i hi => .inr (fun e => by unfold gL at e; rw [ofT_inj] at e; omega))))
      have hj20 : j < 20 := by omega
      clear hm20
      go_wp2_with fail
      refine (of_any _ _).mono ?_
      rintro e w3 ⟨rfl, hb⟩
      have hp := HP.out.below hb
      have hb := hb.mono HS.out
      have HP2 := Lib.hid hp
      have HB2 := Lib.hid (HB.out.trans hb)
      have HS2 := Lib.hid (Nat.le_trans HS.out hb.size)
      clear hp hb HP HB HS
      have HP := HP2
      have HB := HB2
      have HS := HS2
      clear HP2 HB2 HS2
      go_wp2_with fail
      refine (of_any _ _).mono ?_
      rintro e w4 ⟨rfl, hb⟩
      have hp := HP.out.below hb
      have hb := hb.mono HS.out
      have HP2 := Lib.hid hp
      have HB2 := Lib.hid (HB.out.trans hb)
      have HS2 := Lib.hid (Nat.le_trans HS.out hb.size)
      clear hp hb HP HB HS
      have HP := HP2
      have HB := HB2
      have HS := HS2
      clear HP2 HB2 HS2
      go_wp2_with fail
      refine (Ta.out _ HP.out HS.out).mono ?_
      rintro e w5 ⟨rfl, hp, hb⟩
      have HP2 := Lib.hid hp
      have HB2 := Lib.hid (HB.out.trans hb)
      have HS2 := Lib.hid (Nat.le_trans HS.out hb.size)
      clear hp hb HP HB HS
      have HP := HP2
      have HB := HB2
      have HS := HS2
      clear HP2 HB2 HS2
      go_wp2_with fail
      go_roundg (gk - 1)
      case measure => have := hgk.out; have := Hjm.out; omega
      case rel => exact ⟨j + 1, by have := hgk.out; have := Hjm.out; show gk - 1 + (j + 1) = _; omega, by have := Hjm.out; omega, by have := Hm.out; have := Hjm.out; go_num, by rw [show ((j + 1 : Nat) : Int) = (j : Int) + 1 by omega]; exact HP, Lib.hid ⟨HB.out, HS.out⟩⟩
    · obtain rfl : m = j := by omega
      clear hjm hm20
      go_upto_region 12 with (fail)
      have hm0 : ((m : Int) == 0) = false := by have := Hm.out; simp; omega
      have hm0' : ¬ (m : Int) = 0 := by have := Hm.out; omega
      go_quiet (fail)
      obtain ⟨k1, ek1⟩ : ∃ k : Nat, a % (m : Int) = (k : Int) := ⟨(a % (m : Int)).toNat, by have := Int.emod_nonneg a hm0'; omega⟩
      obtain ⟨k2, ek2⟩ : ∃ k : Nat, b % (m : Int) = (k : Int) := ⟨(b % (m : Int)).toNat, by have := Int.emod_nonneg b hm0'; omega⟩
      have hk1 : k1 < m := by have := Int.emod_lt_of_pos a (show (0 : Int) < (m : Int) by have := Hm.out; omega); omega
      have hk2 : k2 < m := by have := Int.emod_lt_of_pos b (show (0 : Int) < (m : Int) by have := Hm.out; omega); omega
      have w64 : ∀ x : Int, 0 ≤ x → x < 1000 → IntKind.u64.wrap x = x := fun x h1 h2 => by simp [IntKind.wrap, IntKind.bits, IntKind.signed]; omega
      have w32 : ∀ x : Int, 0 ≤ x → x < 1000 → IntKind.u32.wrap x = x := fun x h1 h2 => by simp [IntKind.wrap, IntKind.bits, IntKind.signed]; omega
      have hm20 := Hm.out
      obtain ⟨x, ex⟩ : ∃ x : Int, (k1 : Int) + 1 = x := ⟨_, rfl⟩
      obtain ⟨y, ey⟩ : ∃ y : Int, (k2 : Int) + 1 = y := ⟨_, rfl⟩
      rw [ek1, ek2, w64 k1 (by omega) (by omega), w64 k2 (by omega) (by omega), w64 (1 + (k1 : Int)) (by omega) (by omega), w64 (1 + (k2 : Int)) (by omega) (by omega), show 1 + (k1 : Int) = x by omega, show 1 + (k2 : Int) = y by omega]
      obtain ⟨wq, ewq⟩ : ∃ wq, wr.drewN nq = wq := ⟨_, rfl⟩
      have HPq := Lib.hid (show TOwn B wq g m m (LL m gL) by rw [← ewq]; exact HP.out.drewN nq)
      have HBq := Lib.hid (show Below B w wq by rw [← ewq]; exact HB.out.trans (((But.refl (fun _ => False) wr).drewN nq).below (fun _ h => h.elim) HS.out))
      have HSq := Lib.hid (show B ≤ wq.heap.size by rw [← ewq]; exact HS.out)
      rw [ewq]
      clear HP HB HS HBS ewq
      have HP := HPq
      have HB := HBq
      have HS := HSq
      clear HPq HBq HSq
      have q1 := w32 x (by omega) (by omega)
      have q2 := w32 (x + 99) (by omega) (by omega)
      have q3 := w32 y (by omega) (by omega)
      have q4 := w32 (y + 99) (by omega) (by omega)
      have hgx : gL k1 = ofT (x + 99) := by unfold gL; rw [ofT_inj]; omega
      have hgy : gL k2 = ofT (y + 99) := by unfold gL; rw [ofT_inj]; omega
      have Hx := Lib.hid ex
      have Hy := Lib.hid ey
      have Hk1 := Lib.hid hk1
      have Hk2 := Lib.hid hk2
      by_cases hxy : k1 = k2
      · have hxy2 : x = y := by omega
        subst hxy2
        have Ta := Lib.hid (fun W h hB => lead_own B g m m (LL m gL) W h hB x _ (ofT (x + 99)) _ (LL_leadR gL hk1 (ofT (x + 99)) ex.symm (fun i hi e => .inr (by unfold gL at e; rw [ofT_inj] at e; omega))))
        have hxx : (x == x) = true := by simp
        clear ek1 ek2 hk1 hk2 w64 w32 hm20 ex ey hgx hgy hxy hm0 hm0'
        go_wp2_with fail
        refine (of_any _ _).mono ?_
        rintro e w3 ⟨rfl, hb⟩
        have hp := HP.out.below hb
        have hb := hb.mono HS.out
        have HP2 := Lib.hid hp
        have HB2 := Lib.hid (HB.out.trans hb)
        have HS2 := Lib.hid (Nat.le_trans HS.out hb.size)
        clear hp hb HP HB HS
        have HP := HP2
        have HB := HB2
        have HS := HS2
        clear HP2 HB2 HS2
        go_wp2_with fail
        refine (Ta.out _ HP.out HS.out).mono ?_
        rintro e w4 ⟨rfl, hp, hb⟩
        have HP2 := Lib.hid hp
        have HB2 := Lib.hid (HB.out.trans hb)
        have HS2 := Lib.hid (Nat.le_trans HS.out hb.size)
        clear hp hb HP HB HS
        have HP := HP2
        have HB := HB2
        have HS := HS2
        clear HP2 HB2 HS2
        go_wp2_with fail
        refine (len_own13 B g m m _ w4 HP.out m (LL_len _ _)).mono ?_
        rintro e w5 ⟨rfl, rfl⟩
        have hmm : ((m : Int) == (m : Int)) = true := by simp
        go_wp2_with fail
        go_ret
        exact ⟨rfl, by rw [EB.out]; exact HB.out⟩
      · have hxy2 : (x == y) = false := by simp; omega
        clear ek1 ek2 w64 w32 hm0 hm0'
        go_wp2_with fail
        refine (of_any _ _).mono ?_
        rintro e w3 ⟨rfl, hb⟩
        have hp := HP.out.below hb
        have hb := hb.mono HS.out
        have HP2 := Lib.hid hp
        have HB2 := Lib.hid (HB.out.trans hb)
        have HS2 := Lib.hid (Nat.le_trans HS.out hb.size)
        clear hp hb HP HB HS
        have HP := HP2
        have HB := HB2
        have HS := HS2
        clear HP2 HB2 HS2
        go_wp2_with fail
        refine (of_any _ _).mono ?_
        rintro e w4 ⟨rfl, hb⟩
        have hp := HP.out.below hb
        have hb := hb.mono HS.out
        have HP2 := Lib.hid hp
        have HB2 := Lib.hid (HB.out.trans hb)
        have HS2 := Lib.hid (Nat.le_trans HS.out hb.size)
        clear hp hb HP HB HS
        have HP := HP2
        have HB := HB2
        have HS := HS2
        clear HP2 HB2 HS2
        go_upto_region 16 with (fail)
        obtain ⟨z, ez⟩ : ∃ z, w4.heap.size = z := ⟨_, rfl⟩
        obtain ⟨w5, ew5⟩ : ∃ v, (w4.alloc (.cells #[.int .u8 0, .int .u32 (x + 99), .int .u32 0, .int .u16 0, .int .u16 0] 37)).alloc (.cells #[.int .u8 0, .int .u32 (y + 99), .int .u32 0, .int .u16 0, .int .u16 0] 37) = v := ⟨_, rfl⟩
        have hb5 : Below w4.heap.size w4 w5 := by rw [← ew5]; exact ((Below.refl _ _).alloc (Nat.le_refl _) _).alloc (by simp) _
        have hs5 : w5.heap.size = z + 2 := by rw [← ew5, ← ez]; simp
        have hk0 : w5.heap[z]? = some (.cells #[.int .u8 0, .int .u32 (x + 99), .int .u32 0, .int .u16 0, .int .u16 0] 37 (0, 0)) := by rw [← ew5, Below.heap_alloc _ _ _ (by simp [ez]), ← ez]; exact heap_alloc_new w4 _
        have hk1' : w5.heap[z + 1]? = some (.cells #[.int .u8 0, .int .u32 (y + 99), .int .u32 0, .int .u16 0, .int .u16 0] 37 (0, 0)) := by
          rw [← ew5, ← ez]; simpa using heap_alloc_new (w4.alloc (.cells #[.int .u8 0, .int .u32 (x + 99), .int .u32 0, .int .u16 0, .int .u16 0] 37)) (.cells #[.int .u8 0, .int .u32 (y + 99), .int .u32 0, .int .u16 0, .int .u16 0] 37)
        obtain ⟨Z, eZ⟩ : ∃ Z : Nat → Prop, Z = fun k => k < B ∨ (k = z ∨ k = z + 1) := ⟨_, rfl⟩
        have HZ := Lib.hid (show TZ Z w5 g m m (LL m gL) by rw [eZ]; exact (HP.out.z HS.out).more hb5 (fun k hk => by omega))
        have HZB := Lib.hid (show ∀ k, k < B → Z k by rw [eZ]; exact fun k hk => .inl hk)
        have HN := Lib.hid (But.refl (fun k => ¬ Z k) w5)
        have HK := Lib.hid (show ∀ W, But (fun k => ¬ Z k) w5 W → W.heap[z]? = some (.cells #[.int .u8 0, .int .u32 (x + 99), .int .u32 0, .int .u16 0, .int .u16 0] 37 (0, 0)) ∧ W.heap[z + 1]? = some (.cells #[.int .u8 0, .int .u32 (y + 99), .int .u32 0, .int .u16 0, .int .u16 0] 37 (0, 0)) from fun W hW =>
          ⟨hW.blk hk0 (fun e => e (by rw [eZ]; exact .inr (.inl rfl))), hW.blk hk1' (fun e => e (by rw [eZ]; exact .inr (.inr rfl)))⟩)
        have HB5 := Lib.hid (HB.out.trans (hb5.mono HS.out))
        have HS5 := Lib.hid (show B ≤ w5.heap.size by have := HB5.out.size; have := EB.out; omega)
        have E5 := Lib.hid ew5
        have Ez := Lib.hid ez
        have c1 := Hx.out
        have c2 := Hy.out
        have c3 := Hk1.out
        have c4 := Hk2.out
        obtain ⟨g1, eg1⟩ : ∃ g1 : Nat → Tu, (fun j => if j = k1 then ofT 0 else gL j) = g1 := ⟨_, rfl⟩
        obtain ⟨g2, eg2⟩ : ∃ g2 : Nat → Tu, (fun j => if j = k2 then ofT (x + 99) else g1 j) = g2 := ⟨_, rfl⟩
        obtain ⟨g3, eg3⟩ : ∃ g3 : Nat → Tu, (fun j => if j = k1 then ofT (y + 99) else g2 j) = g3 := ⟨_, rfl⟩
        have G1 : ∀ j, g1 j = if j = k1 then ofT 0 else gL j := fun j => by rw [← eg1]
        have G2 : ∀ j, g2 j = if j = k2 then ofT (x + 99) else g1 j := fun j => by rw [← eg2]
        have G3 : ∀ j, g3 j = if j = k1 then ofT (y + 99) else g2 j := fun j => by rw [← eg3]
        have gLi : ∀ (j : Nat) (c : Int), gL j = ofT c → (j : Int) + 100 = c := fun j c e => by unfold gL at e; rwa [ofT_inj] at e
        have V1 : leadR x (ofT (y + 99)) (LL m gL) = (9, LL m gL) := LL_leadR_there gL c3 c4 _ ex.symm (fun e => by rw [ofT_zero] at e; omega) hgy (fun i hi e => by have := gLi i _ e; omega) (fun e => hxy e.symm)
        have V2 : leadR x (ofT 0) (LL m gL) = (0, LL m g1) := by
          rw [← eg1]
          exact LL_leadR gL c3 (ofT 0) ex.symm (fun i hi e => .inl (by rw [ofT_zero]))
        have V3 : leadR y (ofT (x + 99)) (LL m g1) = (0, LL m g2) := by
          rw [← eg2]
          refine LL_leadR g1 c4 _ ey.symm (fun i hi e => ?_)
          rw [G1] at e
          by_cases h : i = k1
          · rw [if_pos h, ofT_inj] at e; omega
          · rw [if_neg h] at e; have := gLi i _ e; omega
        have V4 : leadR x (ofT (y + 99)) (LL m g2) = (0, LL m g3) := by
          rw [← eg3]
          refine LL_leadR g2 c3 _ ex.symm (fun i hi e => ?_)
          rw [G2] at e
          by_cases h : i = k2
          · rw [if_pos h, ofT_inj] at e; omega
          · rw [if_neg h, G1] at e
            by_cases h1 : i = k1
            · exact .inr h1
            · rw [if_neg h1] at e; have := gLi i _ e; omega
        have V5 : outF (ofT (y + 99)) (LL m g3) = some ⟨(k1 : Int) + 1, ofT ((k1 : Int) + 1), ofT (y + 99), true⟩ := by
          refine LL_out g3 (fun e => by rw [ofT_zero] at e; omega) c3 (by rw [G3, if_pos rfl]) (fun i hi e => ?_)
          rw [G3] at e
          by_cases h : i = k1
          · exact h
          · rw [if_neg h, G2] at e
            by_cases h1 : i = k2
            · rw [if_pos h1, ofT_inj] at e; omega
            · rw [if_neg h1, G1, if_neg h] at e; have := gLi i _ e; omega
        have V6 : outF (ofT (x + 99)) (LL m g3) = some ⟨(k2 : Int) + 1, ofT ((k2 : Int) + 1), ofT (x + 99), true⟩ := by
          refine LL_out g3 (fun e => by rw [ofT_zero] at e; omega) c4 (by rw [G3, if_neg (fun e => hxy e.symm), G2, if_pos rfl]) (fun i hi e => ?_)
          rw [G3] at e
          by_cases h : i = k1
          · rw [if_pos h, ofT_inj] at e; omega
          · rw [if_neg h, G2] at e
            by_cases h1 : i = k2
            · exact h1
            · rw [if_neg h1, G1, if_neg h] at e; have := gLi i _ e; omega
        have V7 : flowR x (LL m g3) = (⟨x, ofT x, ofT (y + 99), true⟩, true) := by
          have := LL_flow g3 c3 ex.symm
          rw [G3, if_pos rfl] at this
          exact this
        have T1 := Lib.hid (fun W h => lead_z Z g m m _ W h x _ (ofT (y + 99)) _ V1)
        have T2 := Lib.hid (fun W h => lead_z Z g m m _ W h x _ (ofT 0) _ V2)
        have T3 := Lib.hid (fun W h => lead_z Z g m m _ W h y _ (ofT (x + 99)) _ V3)
        have T4 := Lib.hid (fun W h => lead_z Z g m m _ W h x _ (ofT (y + 99)) _ V4)
        have T5 := Lib.hid (fun W h => outer_z Z g m m _ W h (ofT (y + 99)) x true (by rw [V5]; exact ex) (by rw [V5]; rfl))
        have T6 := Lib.hid (fun W h => outer_z Z g m m _ W h (ofT (x + 99)) y true (by rw [V6]; exact ey) (by rw [V6]; rfl))
        have T7 := Lib.hid (fun W h => flow_z Z g m m _ W h x _ _ V7)
        have Hle := Lib.hid (LL_len m g3)
        clear ez ew5 hb5 hs5 hk0 hk1' eZ c1 c2 c3 c4 eg1 eg2 eg3 G1 G2 G3 gLi V1 V2 V3 V4 V5 V6 V7 ex ey hgx hgy hk1 hk2 hxy hm20 HP HB HS
        rw [E5.out, Ez.out]
        obtain ⟨d0, d1, d2, d3, d4⟩ := cells5 (HK.out _ HN.out).2
        go_wp2_with fail
        refine (T1.out _ HZ.out).mono ?_
        rintro e w6 ⟨rfl, hp, hb⟩
        clear d0 d1 d2 d3 d4
        have HZ2 := Lib.hid hp
        have HN2 := Lib.hid (HN.out.trans hb)
        clear hp hb HZ HN
        have HZ := HZ2
        have HN := HN2
        clear HZ2 HN2
        go_wp2_with fail
        refine (of_any _ _).mono ?_
        rintro e w7 ⟨rfl, hb⟩
        have hp := HZ.out.below hb
        have hb := But.of (S := fun k => ¬ Z k) hb
        have HZ2 := Lib.hid hp
        have HN2 := Lib.hid (HN.out.trans hb)
        clear hp hb HZ HN
        have HZ := HZ2
        have HN := HN2
        clear HZ2 HN2
        go_wp2_with fail
        refine (T2.out _ HZ.out).mono ?_
        rintro e w8 ⟨rfl, hp, hb⟩
        skip
        have HZ2 := Lib.hid hp
        have HN2 := Lib.hid (HN.out.trans hb)
        clear hp hb HZ HN
        have HZ := HZ2
        have HN := HN2
        clear HZ2 HN2
        obtain ⟨d0, d1, d2, d3, d4⟩ := cells5 (HK.out _ HN.out).1
        go_wp2_with fail
        refine (T3.out _ HZ.out).mono ?_
        rintro e w9 ⟨rfl, hp, hb⟩
        clear d0 d1 d2 d3 d4
        have HZ2 := Lib.hid hp
        have HN2 := Lib.hid (HN.out.trans hb)
        clear hp hb HZ HN
        have HZ := HZ2
        have HN := HN2
        clear HZ2 HN2
        obtain ⟨d0, d1, d2, d3, d4⟩ := cells5 (HK.out _ HN.out).2
        go_wp2_with fail
        refine (T4.out _ HZ.out).mono ?_
        rintro e w10 ⟨rfl, hp, hb⟩
        clear d0 d1 d2 d3 d4
        have HZ2 := Lib.hid hp
        have HN2 := Lib.hid (HN.out.trans hb)
        clear hp hb HZ HN
        have HZ := HZ2
        have HN := HN2
        clear HZ2 HN2
        obtain ⟨d0, d1, d2, d3, d4⟩ := cells5 (HK.out _ HN.out).2
        go_wp2_with fail
        refine (T5.out _ HZ.out).mono ?_
        rintro e w11 ⟨rfl, hb⟩
        have hp := HZ.out.below hb
        have hb := But.of (S := fun k => ¬ Z k) hb
        clear d0 d1 d2 d3 d4
        have HZ2 := Lib.hid hp
        have HN2 := Lib.hid (HN.out.trans hb)
        clear hp hb HZ HN
        have HZ := HZ2
        have HN := HN2
        clear HZ2 HN2
        obtain ⟨d0, d1, d2, d3, d4⟩ := cells5 (HK.out _ HN.out).1
        go_wp2_with fail
        refine (T6.out _ HZ.out).mono ?_
        rintro e w12 ⟨rfl, hb⟩
        have hp := HZ.out.below hb
        have hb := But.of (S := fun k => ¬ Z k) hb
        clear d0 d1 d2 d3 d4
        have HZ2 := Lib.hid hp
        have HN2 := Lib.hid (HN.out.trans hb)
        clear hp hb HZ HN
        have HZ := HZ2
        have HN := HN2
        clear HZ2 HN2
        go_wp2_with fail
        refine (T7.out _ HZ.out).mono ?_
        rintro e w13 ⟨rfl, hb⟩
        have hp := HZ.out.below hb
        have hb := But.of (S := fun k => ¬ Z k) hb
        skip
        have HZ2 := Lib.hid hp
        have HN2 := Lib.hid (HN.out.trans hb)
        clear hp hb HZ HN
        have HZ := HZ2
        have HN := HN2
        clear HZ2 HN2
        rw [fl_arr]
        simp only [ofT]
        obtain ⟨z3, ez3⟩ : ∃ z, w13.heap.size = z := ⟨_, rfl⟩
        obtain ⟨w14, ew14⟩ : ∃ v, w13.alloc (.cells #[.int .u64 x, .int .u8 0, .int .u32 x, .int .u32 0, .int .u16 0, .int .u16 0, .int .u8 0, .int .u32 (y + 99), .int .u32 0, .int .u16 0, .int .u16 0, .bool true] 51) = v := ⟨_, rfl⟩
        have hba : Below w13.heap.size w13 w14 := by rw [← ew14]; exact (Below.refl _ _).alloc (Nat.le_refl _) _
        have hk3 : w14.heap[z3]? = some (.cells #[.int .u64 x, .int .u8 0, .int .u32 x, .int .u32 0, .int .u16 0, .int .u16 0, .int .u8 0, .int .u32 (y + 99), .int .u32 0, .int .u16 0, .int .u16 0, .bool true] 51 (0, 0)) := by rw [← ew14, ← ez3]; exact heap_alloc_new w13 _
        have hp := HZ.out.below hba
        have hb := But.of (S := fun k => ¬ Z k) hba
        have HZ2 := Lib.hid hp
        have HN2 := Lib.hid (HN.out.trans hb)
        clear hp hb HZ HN
        have HZ := HZ2
        have HN := HN2
        clear HZ2 HN2
        have hq := (HK.out _ HN.out).2
        have E14 := Lib.hid ew14
        have Ez3 := Lib.hid ez3
        have hnm : ¬ z = z3 := fun e => by subst e; have h1 := (HK.out _ HN.out).1; rw [hk3] at h1; injection h1 with h1; injection h1 with _ h1; revert h1; decide
        have hnq : ¬ z + 1 = z3 := fun e => by subst e; rw [hk3] at hq; injection hq with h1; injection h1 with _ h1; revert h1; decide
        obtain ⟨wd, ewd⟩ : ∃ wd, w14.drew = wd := ⟨_, rfl⟩
        have hbd : Below w14.heap.size w14 wd := by rw [← ewd]; exact (Below.refl _ _).drew
        have HS := Lib.hid (show ∀ W, Below wd.heap.size wd W → ((W.cell? ⟨z3, 1, none⟩ = some (.int .u8 0) ∧ W.cell? ⟨z3, 2, none⟩ = some (.int .u32 x) ∧ W.cell? ⟨z3, 3, none⟩ = some (.int .u32 0) ∧ W.cell? ⟨z3, 4, none⟩ = some (.int .u16 0) ∧ W.cell? ⟨z3, 5, none⟩ = some (.int .u16 0)) ∧
            (W.cell? ⟨z3, 6, none⟩ = some (.int .u8 0) ∧ W.cell? ⟨z3, 7, none⟩ = some (.int .u32 (y + 99)) ∧ W.cell? ⟨z3, 8, none⟩ = some (.int .u32 0) ∧ W.cell? ⟨z3, 9, none⟩ = some (.int .u16 0) ∧ W.cell? ⟨z3, 10, none⟩ = some (.int .u16 0))) ∧
            (W.cell? ⟨z + 1, 0, none⟩ = some (.int .u8 0) ∧ W.cell? ⟨z + 1, 1, none⟩ = some (.int .u32 (y + 99)) ∧ W.cell? ⟨z + 1, 2, none⟩ = some (.int .u32 0) ∧ W.cell? ⟨z + 1, 3, none⟩ = some (.int .u16 0) ∧ W.cell? ⟨z + 1, 4, none⟩ = some (.int .u16 0)) from fun W hW => by
          have h3 := blk_on hk3 (below_trans hbd hW)
          have h4 := blk_on hq (below_trans hbd hW)
          exact ⟨⟨⟨blk_cell h3 1, blk_cell h3 2, blk_cell h3 3, blk_cell h3 4, blk_cell h3 5⟩, blk_cell h3 6, blk_cell h3 7, blk_cell h3 8, blk_cell h3 9, blk_cell h3 10⟩, blk_cell h4 0, blk_cell h4 1, blk_cell h4 2, blk_cell h4 3, blk_cell h4 4⟩)
        have HZd := Lib.hid (HZ.out.below hbd)
        have HNd := Lib.hid (HN.out.trans (But.of (S := fun k => ¬ Z k) hbd))
        have Ewd := Lib.hid ewd
        have hxx : (x == x) = true := by simp
        have hyy : (y == y) = true := by simp
        have hmm : ((m : Int) == (m : Int)) = true := by simp
        clear ew14 ez3 hba hk3 hq hnm hnq hbd ewd
        go_upto_region 21 with (fail)
        rw [E14.out, Ez3.out]
        refine wp_region_held_drew (S := fun W => ((W.cell? ⟨z3, 1, none⟩ = some (.int .u8 0) ∧ W.cell? ⟨z3, 2, none⟩ = some (.int .u32 x) ∧ W.cell? ⟨z3, 3, none⟩ = some (.int .u32 0) ∧ W.cell? ⟨z3, 4, none⟩ = some (.int .u16 0) ∧ W.cell? ⟨z3, 5, none⟩ = some (.int .u16 0)) ∧
            (W.cell? ⟨z3, 6, none⟩ = some (.int .u8 0) ∧ W.cell? ⟨z3, 7, none⟩ = some (.int .u32 (y + 99)) ∧ W.cell? ⟨z3, 8, none⟩ = some (.int .u32 0) ∧ W.cell? ⟨z3, 9, none⟩ = some (.int .u16 0) ∧ W.cell? ⟨z3, 10, none⟩ = some (.int .u16 0))) ∧
            (W.cell? ⟨z + 1, 0, none⟩ = some (.int .u8 0) ∧ W.cell? ⟨z + 1, 1, none⟩ = some (.int .u32 (y + 99)) ∧ W.cell? ⟨z + 1, 2, none⟩ = some (.int .u32 0) ∧ W.cell? ⟨z + 1, 3, none⟩ = some (.int .u16 0) ∧ W.cell? ⟨z + 1, 4, none⟩ = some (.int .u16 0))) (by kernel_rfl) (by rw [Ewd.out]; exact HS.out wd (Below.refl _ _)) (fun hHeld => ?_)
        rw [Ewd.out] at hHeld ⊢
        refine wpAnyH_take (i := 0) (oi := { dst := some 141, op := Go.Op.move (Go.Operand.tmp 19), type := 4, pos := "outright.go:132", after := #[], guard := none }) (v := ?_) rfl (by kernel_rfl) (by kernel_rfl) (by kernel_rfl) (fun _ _ _ h => h) (Or.inl ⟨by rfl, ?_⟩) (by assumption) ?_
        rotate_left 1
        · intro w' hSw; (go_simp <;> (with_reducible rfl))
        (try simp only [Act.put, List.setIfInBounds_toArray, List.set_cons_zero, List.set_cons_succ])
        refine wpAnyH_take (i := 1) (oi := { dst := some 142, op := Go.Op.move (Go.Operand.tmp 141), type := 4, pos := "outright.go:132", after := #[{ on := 0, ground := Go.Ground.data }], guard := none }) (v := ?_) rfl (by kernel_rfl) (by kernel_rfl) (by kernel_rfl) (fun _ _ _ h => h) (Or.inl ⟨by rfl, ?_⟩) (by assumption) ?_
        rotate_left 1
        · intro w' hSw; (go_simp <;> (with_reducible rfl))
        (try simp only [Act.put, List.setIfInBounds_toArray, List.set_cons_zero, List.set_cons_succ])
        refine wpAnyH_take (i := 2) (oi := { dst := some 143, op := Go.Op.move (Go.Operand.tmp 18), type := 32, pos := "outright.go:132", after := #[{ on := 1, ground := Go.Ground.guard }], guard := some (1, true) }) (v := ?_) rfl (by kernel_rfl) (by kernel_rfl) (by kernel_rfl) (fun _ _ _ h => h) (Or.inl ⟨by rfl, ?_⟩) (by assumption) ?_
        rotate_left 1
        · intro w' hSw; (go_simp <;> (with_reducible rfl))
        (try simp only [Act.put, List.setIfInBounds_toArray, List.set_cons_zero, List.set_cons_succ])
        refine wpAnyH_take (i := 3) (oi := { dst := some 144, op := Go.Op.move (Go.Operand.tmp 14), type := 32, pos := "outright.go:132", after := #[{ on := 1, ground := Go.Ground.guard }], guard := some (1, true) }) (v := ?_) rfl (by kernel_rfl) (by kernel_rfl) (by kernel_rfl) (fun _ _ _ h => h) (Or.inl ⟨by rfl, ?_⟩) (by assumption) ?_
        rotate_left 1
        · intro w' hSw; (go_simp <;> (with_reducible rfl))
        (try simp only [Act.put, List.setIfInBounds_toArray, List.set_cons_zero, List.set_cons_succ])
        refine wpAnyH_take (i := 4) (oi := { dst := some 145, op := Go.Op.binOp Go.BinOp.eql 32 (Go.Operand.tmp 143) (Go.Operand.tmp 144) 32, type := 4, pos := "outright.go:132", after := #[{ on := 2, ground := Go.Ground.data }, { on := 3, ground := Go.Ground.data }, { on := 1, ground := Go.Ground.guard }], guard := some (1, true) }) (v := ?_) rfl (by kernel_rfl) (by kernel_rfl) (by kernel_rfl) (fun _ _ _ h => h) (Or.inl ⟨by rfl, ?_⟩) (by assumption) ?_
        rotate_left 1
        · intro w' hSw; (go_simp <;> (with_reducible rfl))
        (try simp only [Act.put, List.setIfInBounds_toArray, List.set_cons_zero, List.set_cons_succ])
        refine wpAnyH_take (i := 5) (oi := { dst := some 146, op := Go.Op.pick (Go.Operand.tmp 142) (Go.Operand.tmp 145) (Go.Operand.const (Go.Value.bool false)), type := 4, pos := "outright.go:132", after := #[{ on := 1, ground := Go.Ground.data }, { on := 4, ground := Go.Ground.data }], guard := none }) (v := ?_) rfl (by kernel_rfl) (by kernel_rfl) (by kernel_rfl) (fun _ _ _ h => h) (Or.inl ⟨by rfl, ?_⟩) (by assumption) ?_
        rotate_left 1
        · intro w' hSw; (go_simp <;> (with_reducible rfl))
        (try simp only [Act.put, List.setIfInBounds_toArray, List.set_cons_zero, List.set_cons_succ])
        refine wpAnyH_take (i := 6) (oi := { dst := some 147, op := Go.Op.move (Go.Operand.tmp 146), type := 4, pos := "outright.go:132", after := #[{ on := 5, ground := Go.Ground.data }, { on := 1, ground := Go.Ground.chain }], guard := none }) (v := ?_) rfl (by kernel_rfl) (by kernel_rfl) (by kernel_rfl) (fun _ _ _ h => h) (Or.inl ⟨by rfl, ?_⟩) (by assumption) ?_
        rotate_left 1
        · intro w' hSw; (go_simp <;> (with_reducible rfl))
        (try simp only [Act.put, List.setIfInBounds_toArray, List.set_cons_zero, List.set_cons_succ])
        refine wpAnyH_take (i := 7) (oi := { dst := some 148, op := Go.Op.move (Go.Operand.tmp 21), type := 4, pos := "outright.go:132", after := #[{ on := 6, ground := Go.Ground.guard }], guard := some (6, true) }) (v := ?_) rfl (by kernel_rfl) (by kernel_rfl) (by kernel_rfl) (fun _ _ _ h => h) (Or.inl ⟨by rfl, ?_⟩) (by assumption) ?_
        rotate_left 1
        · intro w' hSw; (go_simp <;> (with_reducible rfl))
        (try simp only [Act.put, List.setIfInBounds_toArray, List.set_cons_zero, List.set_cons_succ])
        refine wpAnyH_take (i := 8) (oi := { dst := some 149, op := Go.Op.pick (Go.Operand.tmp 147) (Go.Operand.tmp 148) (Go.Operand.const (Go.Value.bool false)), type := 4, pos := "outright.go:132", after := #[{ on := 6, ground := Go.Ground.data }, { on := 7, ground := Go.Ground.data }], guard := none }) (v := ?_) rfl (by kernel_rfl) (by kernel_rfl) (by kernel_rfl) (fun _ _ _ h => h) (Or.inl ⟨by rfl, ?_⟩) (by assumption) ?_
        rotate_left 1
        · intro w' hSw; (go_simp <;> (with_reducible rfl))
        (try simp only [Act.put, List.setIfInBounds_toArray, List.set_cons_zero, List.set_cons_succ])
        refine wpAnyH_take (i := 9) (oi := { dst := some 150, op := Go.Op.move (Go.Operand.tmp 149), type := 4, pos := "outright.go:132", after := #[{ on := 8, ground := Go.Ground.data }, { on := 6, ground := Go.Ground.chain }], guard := none }) (v := ?_) rfl (by kernel_rfl) (by kernel_rfl) (by kernel_rfl) (fun _ _ _ h => h) (Or.inl ⟨by rfl, ?_⟩) (by assumption) ?_
        rotate_left 1
        · intro w' hSw; (go_simp <;> (with_reducible rfl))
        (try simp only [Act.put, List.setIfInBounds_toArray, List.set_cons_zero, List.set_cons_succ])
        refine wpAnyH_take (i := 10) (oi := { dst := some 151, op := Go.Op.move (Go.Operand.tmp 20), type := 32, pos := "outright.go:132", after := #[{ on := 9, ground := Go.Ground.guard }], guard := some (9, true) }) (v := ?_) rfl (by kernel_rfl) (by kernel_rfl) (by kernel_rfl) (fun _ _ _ h => h) (Or.inl ⟨by rfl, ?_⟩) (by assumption) ?_
        rotate_left 1
        · intro w' hSw; (go_simp <;> (with_reducible rfl))
        (try simp only [Act.put, List.setIfInBounds_toArray, List.set_cons_zero, List.set_cons_succ])
        refine wpAnyH_take (i := 11) (oi := { dst := some 152, op := Go.Op.move (Go.Operand.tmp 15), type := 32, pos := "outright.go:132", after := #[{ on := 9, ground := Go.Ground.guard }], guard := some (9, true) }) (v := ?_) rfl (by kernel_rfl) (by kernel_rfl) (by kernel_rfl) (fun _ _ _ h => h) (Or.inl ⟨by rfl, ?_⟩) (by assumption) ?_
        rotate_left 1
        · intro w' hSw; (go_simp <;> (with_reducible rfl))
        (try simp only [Act.put, List.setIfInBounds_toArray, List.set_cons_zero, List.set_cons_succ])
        refine wpAnyH_take (i := 12) (oi := { dst := some 153, op := Go.Op.binOp Go.BinOp.eql 32 (Go.Operand.tmp 151) (Go.Operand.tmp 152) 32, type := 4, pos := "outright.go:132", after := #[{ on := 10, ground := Go.Ground.data }, { on := 11, ground := Go.Ground.data }, { on := 9, ground := Go.Ground.guard }], guard := some (9, true) }) (v := ?_) rfl (by kernel_rfl) (by kernel_rfl) (by kernel_rfl) (fun _ _ _ h => h) (Or.inl ⟨by rfl, ?_⟩) (by assumption) ?_
        rotate_left 1
        · intro w' hSw; (go_simp <;> (with_reducible rfl))
        (try simp only [Act.put, List.setIfInBounds_toArray, List.set_cons_zero, List.set_cons_succ])
        refine wpAnyH_take (i := 13) (oi := { dst := some 154, op := Go.Op.pick (Go.Operand.tmp 150) (Go.Operand.tmp 153) (Go.Operand.const (Go.Value.bool false)), type := 4, pos := "outright.go:132", after := #[{ on := 9, ground := Go.Ground.data }, { on := 12, ground := Go.Ground.data }], guard := none }) (v := ?_) rfl (by kernel_rfl) (by kernel_rfl) (by kernel_rfl) (fun _ _ _ h => h) (Or.inl ⟨by rfl, ?_⟩) (by assumption) ?_
        rotate_left 1
        · intro w' hSw; (go_simp <;> (with_reducible rfl))
        (try simp only [Act.put, List.setIfInBounds_toArray, List.set_cons_zero, List.set_cons_succ])
        refine wpAnyH_take (i := 14) (oi := { dst := some 155, op := Go.Op.move (Go.Operand.tmp 154), type := 4, pos := "outright.go:132", after := #[{ on := 13, ground := Go.Ground.data }, { on := 9, ground := Go.Ground.chain }], guard := none }) (v := ?_) rfl (by kernel_rfl) (by kernel_rfl) (by kernel_rfl) (fun _ _ _ h => h) (Or.inl ⟨by rfl, ?_⟩) (by assumption) ?_
        rotate_left 1
        · intro w' hSw; (go_simp <;> (with_reducible rfl))
        (try simp only [Act.put, List.setIfInBounds_toArray, List.set_cons_zero, List.set_cons_succ])
        refine wpAnyH_take (i := 15) (oi := { dst := some 156, op := Go.Op.fieldAddr 51 (Go.Operand.tmp 22) 2, type := 0, pos := "outright.go:132", after := #[{ on := 14, ground := Go.Ground.guard }], guard := some (14, true) }) (v := ?_) rfl (by kernel_rfl) (by kernel_rfl) (by kernel_rfl) (fun _ _ _ h => h) (Or.inl ⟨by rfl, ?_⟩) (by assumption) ?_
        rotate_left 1
        · intro w' hSw; (go_simp <;> (with_reducible rfl))
        (try simp only [Act.put, List.setIfInBounds_toArray, List.set_cons_zero, List.set_cons_succ])
        refine wpAnyH_take (i := 16) (oi := { dst := some 157, op := Go.Op.load 37 (Go.Operand.tmp 156), type := 37, pos := "outright.go:132", after := #[{ on := 15, ground := Go.Ground.data }, { on := 14, ground := Go.Ground.guard }], guard := some (14, true) }) (v := ?_) rfl (by kernel_rfl) (by kernel_rfl) (by kernel_rfl) (fun _ _ _ h => h) (Or.inl ⟨by rfl, ?_⟩) (by assumption) ?_
        rotate_left 1
        · intro w' hSw; (go_simp <;> (with_reducible rfl))
        (try simp only [Act.put, List.setIfInBounds_toArray, List.set_cons_zero, List.set_cons_succ])
        refine wpAnyH_take (i := 17) (oi := { dst := some 158, op := Go.Op.load 37 (Go.Operand.tmp 17), type := 37, pos := "outright.go:132", after := #[{ on := 14, ground := Go.Ground.guard }], guard := some (14, true) }) (v := ?_) rfl (by kernel_rfl) (by kernel_rfl) (by kernel_rfl) (fun _ _ _ h => h) (Or.inl ⟨by rfl, ?_⟩) (by assumption) ?_
        rotate_left 1
        · intro w' hSw; (go_simp <;> (with_reducible rfl))
        (try simp only [Act.put, List.setIfInBounds_toArray, List.set_cons_zero, List.set_cons_succ])
        refine wpAnyH_take (i := 18) (oi := { dst := some 159, op := Go.Op.binOp Go.BinOp.eql 37 (Go.Operand.tmp 157) (Go.Operand.tmp 158) 37, type := 4, pos := "outright.go:132", after := #[{ on := 16, ground := Go.Ground.data }, { on := 17, ground := Go.Ground.data }, { on := 14, ground := Go.Ground.guard }], guard := some (14, true) }) (v := ?_) rfl (by kernel_rfl) (by kernel_rfl) (by kernel_rfl) (fun _ _ _ h => h) (Or.inl ⟨by rfl, ?_⟩) (by assumption) ?_
        rotate_left 1
        · intro w' hSw; (go_simp <;> (with_reducible rfl))
        (try simp only [Act.put, List.setIfInBounds_toArray, List.set_cons_zero, List.set_cons_succ])
        refine wpAnyH_take (i := 19) (oi := { dst := some 160, op := Go.Op.pick (Go.Operand.tmp 155) (Go.Operand.tmp 159) (Go.Operand.const (Go.Value.bool false)), type := 4, pos := "outright.go:132", after := #[{ on := 14, ground := Go.Ground.data }, { on := 18, ground := Go.Ground.data }], guard := none }) (v := ?_) rfl (by kernel_rfl) (by kernel_rfl) (by kernel_rfl) (fun _ _ _ h => h) (Or.inl ⟨by rfl, ?_⟩) (by assumption) ?_
        rotate_left 1
        · intro w' hSw; (go_simp <;> (with_reducible rfl))
        (try simp only [Act.put, List.setIfInBounds_toArray, List.set_cons_zero, List.set_cons_succ])
        refine wpAnyH_take (i := 20) (oi := { dst := some 161, op := Go.Op.move (Go.Operand.tmp 160), type := 4, pos := "outright.go:132", after := #[{ on := 19, ground := Go.Ground.data }, { on := 14, ground := Go.Ground.chain }], guard := none }) (v := ?_) rfl (by kernel_rfl) (by kernel_rfl) (by kernel_rfl) (fun _ _ _ h => h) (Or.inl ⟨by rfl, ?_⟩) (by assumption) ?_
        rotate_left 1
        · intro w' hSw; (go_simp <;> (with_reducible rfl))
        (try simp only [Act.put, List.setIfInBounds_toArray, List.set_cons_zero, List.set_cons_succ])
        refine wpAnyH_take (i := 21) (oi := { dst := some 162, op := Go.Op.fieldAddr 51 (Go.Operand.tmp 22) 1, type := 0, pos := "outright.go:132", after := #[{ on := 20, ground := Go.Ground.guard }], guard := some (20, true) }) (v := ?_) rfl (by kernel_rfl) (by kernel_rfl) (by kernel_rfl) (fun _ _ _ h => h) (Or.inl ⟨by rfl, ?_⟩) (by assumption) ?_
        rotate_left 1
        · intro w' hSw; (go_simp <;> (with_reducible rfl))
        (try simp only [Act.put, List.setIfInBounds_toArray, List.set_cons_zero, List.set_cons_succ])
        refine wpAnyH_take (i := 22) (oi := { dst := some 163, op := Go.Op.load 37 (Go.Operand.tmp 162), type := 37, pos := "outright.go:132", after := #[{ on := 21, ground := Go.Ground.data }, { on := 20, ground := Go.Ground.guard }], guard := some (20, true) }) (v := ?_) rfl (by kernel_rfl) (by kernel_rfl) (by kernel_rfl) (fun _ _ _ h => h) (Or.inl ⟨by rfl, ?_⟩) (by assumption) ?_
        rotate_left 1
        · intro w' hSw; (go_simp <;> (with_reducible rfl))
        (try simp only [Act.put, List.setIfInBounds_toArray, List.set_cons_zero, List.set_cons_succ])
        refine wpAnyH_take (i := 23) (oi := { dst := some 164, op := Go.Op.move (Go.Operand.tmp 14), type := 32, pos := "outright.go:132", after := #[{ on := 20, ground := Go.Ground.guard }], guard := some (20, true) }) (v := ?_) rfl (by kernel_rfl) (by kernel_rfl) (by kernel_rfl) (fun _ _ _ h => h) (Or.inl ⟨by rfl, ?_⟩) (by assumption) ?_
        rotate_left 1
        · intro w' hSw; (go_simp <;> (with_reducible rfl))
        (try simp only [Act.put, List.setIfInBounds_toArray, List.set_cons_zero, List.set_cons_succ])
        refine wpAnyH_take (i := 24) (oi := { dst := some 165, op := Go.Op.convert 32 34 (Go.Operand.tmp 164), type := 34, pos := "outright.go:132", after := #[{ on := 23, ground := Go.Ground.data }, { on := 20, ground := Go.Ground.guard }], guard := some (20, true) }) (v := ?_) rfl (by kernel_rfl) (by kernel_rfl) (by kernel_rfl) (fun _ _ _ h => h) (Or.inl ⟨by rfl, ?_⟩) (by assumption) ?_
        rotate_left 1
        · intro w' hSw; (go_simp <;> (with_reducible rfl))
        (try simp only [Act.put, List.setIfInBounds_toArray, List.set_cons_zero, List.set_cons_succ])
        refine wpAnyH_ready (rs := [25]) (by kernel_rfl) (by simp) ?_
        refine AllReadyH.cons (o := { dst := some 166, op := Go.Op.call { callee := Go.Callee.value (Go.Operand.func 31), args := #[Go.Operand.tmp 165], argTypes := #[34] }, type := 37, pos := "outright.go:132", after := #[{ on := 24, ground := Go.Ground.data }, { on := 20, ground := Go.Ground.chain }, { on := 20, ground := Go.Ground.guard }], guard := some (20, true) }) rfl (fun K hK => ?_) AllReadyH.nil
        go_simp
        (refine (of_any _ _).mono ?_; rintro e w15 ⟨rfl, hb⟩; have HS15 := Lib.hid (HS.out _ hb); have HZ15 := Lib.hid (HZd.out.below hb); have HNf := Lib.hid (HNd.out.trans (But.of (S := fun k => ¬ Z k) hb)); clear hb)
        refine hK.out _ _ ?_ (fun hHeld => ?_)
        · exact HS15.out
        clear hK K
        (try simp only [Act.put, List.setIfInBounds_toArray, List.set_cons_zero, List.set_cons_succ])
        refine wpAnyH_take (i := 26) (oi := { dst := some 167, op := Go.Op.binOp Go.BinOp.eql 37 (Go.Operand.tmp 163) (Go.Operand.tmp 166) 37, type := 4, pos := "outright.go:132", after := #[{ on := 22, ground := Go.Ground.data }, { on := 25, ground := Go.Ground.data }, { on := 20, ground := Go.Ground.guard }], guard := some (20, true) }) (v := ?_) rfl (by kernel_rfl) (by kernel_rfl) (by kernel_rfl) (fun _ _ _ h => h) (Or.inl ⟨by rfl, ?_⟩) (by assumption) ?_
        rotate_left 1
        · intro w' hSw; (go_simp <;> (with_reducible rfl))
        (try simp only [Act.put, List.setIfInBounds_toArray, List.set_cons_zero, List.set_cons_succ])
        refine wpAnyH_take (i := 27) (oi := { dst := some 168, op := Go.Op.pick (Go.Operand.tmp 161) (Go.Operand.tmp 167) (Go.Operand.const (Go.Value.bool false)), type := 4, pos := "outright.go:132", after := #[{ on := 20, ground := Go.Ground.data }, { on := 26, ground := Go.Ground.data }], guard := none }) (v := ?_) rfl (by kernel_rfl) (by kernel_rfl) (by kernel_rfl) (fun _ _ _ h => h) (Or.inl ⟨by rfl, ?_⟩) (by assumption) ?_
        rotate_left 1
        · intro w' hSw; (go_simp <;> (with_reducible rfl))
        (try simp only [Act.put, List.setIfInBounds_toArray, List.set_cons_zero, List.set_cons_succ])
        refine wpAnyH_take (i := 28) (oi := { dst := some 169, op := Go.Op.move (Go.Operand.tmp 168), type := 4, pos := "outright.go:132", after := #[{ on := 27, ground := Go.Ground.data }, { on := 25, ground := Go.Ground.chain }], guard := none }) (v := ?_) rfl (by kernel_rfl) (by kernel_rfl) (by kernel_rfl) (fun _ _ _ h => h) (Or.inl ⟨by rfl, ?_⟩) (by assumption) ?_
        rotate_left 1
        · intro w' hSw; (go_simp <;> (with_reducible rfl))
        (try simp only [Act.put, List.setIfInBounds_toArray, List.set_cons_zero, List.set_cons_succ])
        refine wpAnyH_take (i := 29) (oi := { dst := some 170, op := Go.Op.move (Go.Operand.tmp 8), type := 23, pos := "outright.go:132", after := #[{ on := 28, ground := Go.Ground.guard }], guard := some (28, true) }) (v := ?_) rfl (by kernel_rfl) (by kernel_rfl) (by kernel_rfl) (fun _ _ _ h => h) (Or.inl ⟨by rfl, ?_⟩) (by assumption) ?_
        rotate_left 1
        · intro w' hSw; (go_simp <;> (with_reducible rfl))
        (try simp only [Act.put, List.setIfInBounds_toArray, List.set_cons_zero, List.set_cons_succ])
        refine wpAnyH_take (i := 31) (oi := { dst := some 172, op := Go.Op.move (Go.Operand.tmp 7), type := 3, pos := "outright.go:132", after := #[{ on := 28, ground := Go.Ground.guard }], guard := some (28, true) }) (v := ?_) rfl (by kernel_rfl) (by kernel_rfl) (by kernel_rfl) (fun _ _ _ h => h) (Or.inl ⟨by rfl, ?_⟩) (by assumption) ?_
        rotate_left 1
        · intro w' hSw; (go_simp <;> (with_reducible rfl))
        (try simp only [Act.put, List.setIfInBounds_toArray, List.set_cons_zero, List.set_cons_succ])
        refine wpAnyH_ready (rs := [30]) (by kernel_rfl) (by simp) ?_
        refine AllReadyH.cons (o := { dst := some 171, op := Go.Op.call { callee := Go.Callee.value (Go.Operand.func 12), args := #[Go.Operand.tmp 170], argTypes := #[23] }, type := 3, pos := "outright.go:132", after := #[{ on := 29, ground := Go.Ground.data }, { on := 28, ground := Go.Ground.chain }, { on := 28, ground := Go.Ground.guard }], guard := some (28, true) }) rfl (fun K hK => ?_) AllReadyH.nil
        go_simp
        (refine (len_z Z g m m _ w15 HZ15.out m Hle.out).mono ?_; rintro e w16 ⟨rfl, rfl⟩)
        refine hK.out _ _ ?_ (fun hHeld => ?_)
        · exact HS15.out
        clear hK K
        (try simp only [Act.put, List.setIfInBounds_toArray, List.set_cons_zero, List.set_cons_succ])
        refine wpAnyH_take (i := 32) (oi := { dst := some 173, op := Go.Op.binOp Go.BinOp.eql 3 (Go.Operand.tmp 171) (Go.Operand.tmp 172) 3, type := 4, pos := "outright.go:132", after := #[{ on := 30, ground := Go.Ground.data }, { on := 31, ground := Go.Ground.data }, { on := 28, ground := Go.Ground.guard }], guard := some (28, true) }) (v := ?_) rfl (by kernel_rfl) (by kernel_rfl) (by kernel_rfl) (fun _ _ _ h => h) (Or.inl ⟨by rfl, ?_⟩) (by assumption) ?_
        rotate_left 1
        · intro w' hSw; (go_simp <;> (with_reducible rfl))
        (try simp only [Act.put, List.setIfInBounds_toArray, List.set_cons_zero, List.set_cons_succ])
        refine wpAnyH_take (i := 33) (oi := { dst := some 174, op := Go.Op.pick (Go.Operand.tmp 169) (Go.Operand.tmp 173) (Go.Operand.const (Go.Value.bool false)), type := 4, pos := "outright.go:132", after := #[{ on := 28, ground := Go.Ground.data }, { on := 32, ground := Go.Ground.data }], guard := none }) (v := ?_) rfl (by kernel_rfl) (by kernel_rfl) (by kernel_rfl) (fun _ _ _ h => h) (Or.inl ⟨by rfl, ?_⟩) (by assumption) ?_
        rotate_left 1
        · intro w' hSw; (go_simp <;> (with_reducible rfl))
        (try simp only [Act.put, List.setIfInBounds_toArray, List.set_cons_zero, List.set_cons_succ])
        refine wpAnyH_take (i := 34) (oi := { dst := some 6, op := Go.Op.assign (Go.Operand.tmp 174), type := 4, pos := "outright.go:132", after := #[{ on := 33, ground := Go.Ground.data }, { on := 30, ground := Go.Ground.chain }, { on := 0, ground := Go.Ground.phase }, { on := 1, ground := Go.Ground.phase }, { on := 2, ground := Go.Ground.phase }, { on := 3, ground := Go.Ground.phase }, { on := 4, ground := Go.Ground.phase }, { on := 5, ground := Go.Ground.phase }, { on := 6, ground := Go.Ground.phase }, { on := 7, ground := Go.Ground.phase }, { on := 8, ground := Go.Ground.phase }, { on := 9, ground := Go.Ground.phase }, { on := 10, ground := Go.Ground.phase }, { on := 11, ground := Go.Ground.phase }, { on := 12, ground := Go.Ground.phase }, { on := 13, ground := Go.Ground.phase }, { on := 14, ground := Go.Ground.phase }, { on := 15, ground := Go.Ground.phase }, { on := 16, ground := Go.Ground.phase }, { on := 17, ground := Go.Ground.phase }, { on := 18, ground := Go.Ground.phase }, { on := 19, ground := Go.Ground.phase }, { on := 20, ground := Go.Ground.phase }, { on := 21, ground := Go.Ground.phase }, { on := 22, ground := Go.Ground.phase }, { on := 23, ground := Go.Ground.phase }, { on := 24, ground := Go.Ground.phase }, { on := 25, ground := Go.Ground.phase }, { on := 26, ground := Go.Ground.phase }, { on := 27, ground := Go.Ground.phase }, { on := 28, ground := Go.Ground.phase }, { on := 29, ground := Go.Ground.phase }, { on := 30, ground := Go.Ground.phase }, { on := 31, ground := Go.Ground.phase }, { on := 32, ground := Go.Ground.phase }, { on := 33, ground := Go.Ground.phase }], guard := none }) (v := ?_) rfl (by kernel_rfl) (by kernel_rfl) (by kernel_rfl) (fun _ _ _ h => h) (Or.inl ⟨by rfl, ?_⟩) (by assumption) ?_
        rotate_left 1
        · intro w' hSw; (go_simp <;> (with_reducible rfl))
        (try simp only [Act.put, List.setIfInBounds_toArray, List.set_cons_zero, List.set_cons_succ])
        refine wpAnyH_done (by kernel_rfl) ?_ _
        clear hHeld
        go_wp2_with fail
        go_ret
        exact ⟨rfl, by rw [EB.out]; exact HB5.out.trans (belT HNf.out HZB.out HS5.out)⟩
theorem walk (w : World) (n : Int) (hn : (Lit.int .u8 n).wf = true) (a : Int) (ha : (Lit.int .u8 a).wf = true) (b : Int) (hb : (Lit.int .u8 b).wf = true) : Calls Try.prog 6 #[.int .u8 n, .int .u8 a, .int .u8 b] w fun e w' => e = .returned (.bool true) ∧ Below w.heap.size w w' :=
  walk0 w n a b (by have := bounds_u8 hn; omega) (by have := bounds_u8 ha; omega) (by have := bounds_u8 hb; omega)
theorem own : ownKnob Try.prog.godebug = none := by kernel_rfl
theorem laidOut : laidOutB Try.prog = true := by kernel_rfl

set_option maxRecDepth 100000 in
theorem lifted (os : Os) (started : os.Started) (H : Type) (enc : TypeId × Value → H) :
    ReturnsInHanded {} Try.checked os 6 .any (Rows.tableLeadsSpec.pre6 enc Try.prog Try.f6 Rows.tableLeadsRow.domain false) (Rows.tableLeadsSpec.post enc Try.prog Try.f6 false true false false) := by
  refine returnsInHanded_of_change (C := Try.checked) own started (by kernel_rfl) Try.func6
    (ChangeSpec.witness6 (enc := enc) (C := Try.checked) false ⟨#[], #[.int .u8 0, .int .u8 0, .int .u8 0], []⟩ 8 (by kernel_rfl) (by kernel_rfl) (by kernel_rfl) (by kernel_rfl)) ?_
  intro W base args ds gs before hval0 hW hcnd _
  have hval : ∀ (j : Nat) t v, Try.f6.params[j]? = some t → args[j]? = some v → Value.okWide Try.prog W .any base t v := hval0
  have hW' := hW
  obtain ⟨p, q, hA0, hV, rfl, hfz, hnd⟩ := hW
  have hA : DataW.TrodAll enc Try.prog W 0 (fun _ => true) true Try.f6.params.toList args.toList ds p := hA0
  rw [Try.params6] at hA hval
  obtain ⟨v0, vs0, d0, ds0, p0, q0, hargs, rfl, rfl, h0, r0⟩ := trodAll_cons hA
  obtain ⟨v1, vs1, d1, ds1, p1, q1, rfl, rfl, rfl, h1, r1⟩ := trodAll_cons r0
  obtain ⟨v2, vs2, d2, ds2, p2, q2, rfl, rfl, rfl, h2, r2⟩ := trodAll_cons r1
  obtain ⟨rfl, rfl, rfl⟩ := trodAll_nil r2
  obtain rfl : args = #[v0, v1, v2] := by cases args; simp_all
  obtain ⟨rfl, rfl⟩ := trodVars_none hV
  obtain ⟨a0, rfl, rfl, rfl, w0⟩ := open_int Try.underlying5 (hval 0 5 v0 rfl rfl) h0
  obtain ⟨a1, rfl, rfl, rfl, w1⟩ := open_int Try.underlying5 (hval 1 5 v1 rfl rfl) h1
  obtain ⟨a2, rfl, rfl, rfl, w2⟩ := open_int Try.underlying5 (hval 2 5 v2 rfl rfl) h2
  clear hA0 hval0
  refine (walk W a0 w0 a1 w1 a2 w2).mono fun e W' ⟨he, bel⟩ => ?_
  subst he
  exact ⟨_, rfl, _, _, _, [], _, [], hW', trodAll_mk1 (shut_bool Try.underlying4 _), (trodAll_cons_mk (shut_int Try.underlying5 w0) (trodAll_cons_mk (shut_int Try.underlying5 w1) (trodAll_cons_mk (shut_int Try.underlying5 w2) trodAll_mk0))), rfl, bel.frame _, fun h => by cases h⟩

theorem over : Rows.tableLeadsRow.holds Try.pinned (OpenSpec.ofChange Rows.tableLeadsSpec) :=
  OpenClaim.holds_of_wide 6 Try.f6 rfl rfl rfl rfl rfl rfl rfl ⟨rfl, rfl, rfl, rfl, rfl⟩ rfl rfl rfl rfl rfl (by kernel_rfl) Try.func6 (by kernel_rfl)
    (of_decide_eq_true (by kernel_rfl)) (by unfold Func.isWrapper; first | (rw [if_pos (by decide +kernel)]; kernel_rfl) | (rw [if_neg (by decide +kernel)]; exact ⟨rfl, rfl⟩))
    (fun os started H enc _ => lifted os started H enc)

/-- The statement. -/
theorem proved : Rows.TableLeadsSaid := over
#print axioms proved
end Go.Proofs.Ytnhlbohdlnjaaaa.tableLeads
