/-
  WheelOnce holds: each alarm is told once, at the first Tick at or behind its instant; none before; the rest stands: any ids, any instants, any Ticks.
-/
import Derived.Test.YtlpgabbnldalhaaOnceAt
import Derived.Deep.CutRange
import Derived.Deep.CutBlock
import Derived.Deep.DeepCutAuto
import Derived.Deep.LoopGhost
import Derived.BigRegion
import Derived.BigQuiet
import Derived.OwnWalk
namespace Go.Proofs.Ytlpgabbnldalhaa.wheelOnce
set_option maxRecDepth 10000
open Go.ChangeShapes Go.WideShapes Go.ChangeAt Go.RowKit
open Go.ChangeMaps (setBlock)
set_option linter.unusedVariables false
set_option linter.unusedSimpArgs false

set_option maxHeartbeats 4000000 in
theorem walk (w : World) (v0 : Value) (h0 : ∃ l, NumsAt w .u64 0 18446744073709551616 v0 l) (v1 : Value) (h1 : ∃ l, NumsAt w .u64 0 18446744073709551616 v1 l) (v2 : Value) (h2 : ∃ l, NumsAt w .u16 0 65536 v2 l) :
    Calls Try.prog 4 #[v0, v1, v2] w fun e w' => e = .returned (.bool true) ∧ Below w.heap.size w w' := by
  obtain ⟨l0, A0, c0, rfl, hlc0, hcm0, hrd0, hb0⟩ := h0
  obtain ⟨l1, A1, c1, rfl, hlc1, hcm1, hrd1, hb1⟩ := h1
  obtain ⟨l2, A2, c2, rfl, hlc2, hcm2, hrd2, hb2⟩ := h2
  have hg : ∀ (l : List Int) (m : Int), (∀ x ∈ l, 0 ≤ x ∧ x < m) → ∀ i, i < l.length → 0 ≤ l.getD i 0 ∧ l.getD i 0 < m := fun l m h i hi => h _ (by
    simp only [List.getD, List.getElem?_eq_getElem hi, Option.getD_some]
    exact List.getElem_mem _)
  have hg0 := hg l0 _ hb0
  have hg1 := hg l1 _ hb1
  have hg2 := hg l2 _ hb2
  obtain ⟨n0, en0⟩ : ∃ n, l0.length = n := ⟨_, rfl⟩
  obtain ⟨n1, en1⟩ : ∃ n, l1.length = n := ⟨_, rfl⟩
  obtain ⟨n2, en2⟩ : ∃ n, l2.length = n := ⟨_, rfl⟩
  rw [en0] at hlc0 hg0 ⊢
  rw [en1] at hlc1 hg1 ⊢
  rw [en2] at hlc2 hg2 ⊢
  have Hr0 := Lib.hid (fun (W : World) (hW : Below w.heap.size w W) => hrd0.below hW)
  have Hr1 := Lib.hid (fun (W : World) (hW : Below w.heap.size w W) => hrd1.below hW)
  have Hr2 := Lib.hid (fun (W : World) (hW : Below w.heap.size w W) => hrd2.below hW)
  have Hg0 := Lib.hid hg0
  have Hg1 := Lib.hid hg1
  have Hg2 := Lib.hid hg2
  have He0 := Lib.hid en0
  have He1 := Lib.hid en1
  have He2 := Lib.hid en2
  have Hm0 := Lib.hid (And.intro hlc0 hcm0)
  have Hm1 := Lib.hid (And.intro hlc1 hcm1)
  have Hm2 := Lib.hid (And.intro hlc2 hcm2)
  obtain ⟨N, hN⟩ : ∃ N : Nat, N ≤ n0 ∧ N ≤ n1 ∧ N ≤ 60 ∧ (N = n0 ∨ N = n1 ∨ N = 60) := ⟨min n0 (min n1 60), by omega, by omega, by omega, by omega⟩
  have HN := Lib.hid hN
  have H0 := Lib.hid (Tks.first w)
  have hF := Lib.hid face
  clear hrd0 hb0 hlc0 hcm0 hg0 en0 hrd1 hb1 hlc1 hcm1 hg1 en1 hrd2 hb2 hlc2 hcm2 hg2 en2 hg hN
  go_enter Try.func4, Try.ntmps4
  go_wp2_with fail
  refine (mnew hF.out (zOld w) [] w H0.out.m).mono ?_
  rintro e w1 ⟨ga, rfl, hm1, hb1⟩
  have H1 := Lib.hid (H0.out.go hm1 hb1 (fun k hk => hk))
  clear hm1 hb1
  go_wp2_with fail
  refine (mnew hF.out (zOld w) _ w1 H1.out.m).mono ?_
  rintro e w2 ⟨gb, rfl, hm2, hb2⟩
  have H2 := Lib.hid (show Tks (zOld w) w [(ga, 0, []), (gb, 0, [])] w2 from H1.out.go hm2 hb2 (fun k hk => hk))
  clear hm2 hb2 H1 H0
  obtain ⟨b1, eb1⟩ : ∃ b1, w2.heap.size = b1 := ⟨_, rfl⟩
  obtain ⟨w3, ew3⟩ : ∃ w3, w2.alloc (.map #[] 0) = w3 := ⟨_, rfl⟩
  have hmk := run_makeMap_plain (P := Try.prog) w2 51
  rw [eb1, ew3] at hmk
  obtain ⟨Z, eZ⟩ : ∃ Z : Nat → Prop, (fun k => zOld w k ∨ k = b1) = Z := ⟨_, rfl⟩
  have H3 := Lib.hid (show OAt Z w b1 [(ga, 0, []), (gb, 0, [])] [] (.slice none 0 0) [] w3 from by
    have h1 := H2.out.b.size
    have h2 := H2.out.m.alloc hF.out (.map #[] 0)
    rw [eb1, ew3, eZ] at h2
    refine ⟨⟨h2, by rw [← ew3]; exact H2.out.b.alloc h1 _, fun k hk => by rw [← eZ]; exact .inl hk⟩, ⟨by rw [← eZ]; exact .inr rfl, by omega⟩, ?_, Sl.nil _ _ _, fun b hb => by cases hb⟩
    have h3 := MUP.made w2 (valL []) b1 eb1
    rw [ew3] at h3
    exact h3.congr (fun e => ⟨fun x => x.elim, fun x => by cases x⟩) (fun _ _ => rfl))
  clear ew3 eb1 eZ H2
  go_wp2_with fail
  clear hmk
  go_loopg [10] N (fun gk x10 wr => ∃ (i : Nat) (L : AL), Hid (gk + i = N) ∧ i ≤ N ∧ x10 = .int .i64 (i : Int) ∧ Hid (OAt Z w b1 [(ga, 0, L), (gb, 0, L)] L (.slice none 0 0) [] wr) ∧ Hid (L.length ≤ i ∧ ∀ a, a ∈ L → 0 ≤ a.1 ∧ a.1 < topW))
  case atStart => exact ⟨0, [], rfl, Nat.zero_le _, rfl, H3, Lib.hid ⟨Nat.le_refl _, fun a ha => by cases ha⟩⟩
  case round =>
    obtain ⟨i, L, hgk, hi, rfl, hO, hL⟩ := hrel
    by_cases hin : i < N
    · as_aux_lemma =>
        have hi0 : i < n0 := by have := HN.out; omega
        have hi1 : i < n1 := by have := HN.out; omega
        have hi60 : i < 60 := by have := HN.out; omega
        have k0 : (0 : Int) ≤ (i : Int) := by omega
        have k1 : (i : Int) < (n0 : Int) := by omega
        have k2 : (i : Int) < (n1 : Int) := by omega
        have k3 : (i : Int) < 60 := by omega
        have hwr : IntKind.i64.wrap ((i : Int) + 1) = (i : Int) + 1 := by rw [IntKind.wrap_i64]; omega
        obtain ⟨ba, pa, hxa, hba, hca⟩ := (Hr1.out _ hO.out.tk.b).index_u64 (c := c1) He1.out hi1
        obtain ⟨bi, pi, hxi, hbi, hci⟩ := (Hr0.out _ hO.out.tk.b).index_u64 (c := c0) He0.out hi0
        obtain ⟨y, ey⟩ : ∃ y, l1.getD i 0 = y := ⟨_, rfl⟩
        obtain ⟨id, eid⟩ : ∃ id, l0.getD i 0 = id := ⟨_, rfl⟩
        obtain ⟨t, et⟩ : ∃ t, y.tmod 3000 = t := ⟨_, rfl⟩
        have hyb := Hg1.out i hi1
        have hidb := Hg0.out i hi0
        rw [ey] at hca hyb
        rw [eid] at hci hidb
        have htb : 0 ≤ t ∧ t < 3000 := by rw [← et, Int.tmod_eq_emod_of_nonneg hyb.1]; omega
        have ht64 : IntKind.u64.wrap t = t := by simp [IntKind.wrap, IntKind.bits, IntKind.signed]; omega
        have HidT := Lib.hid (show 0 ≤ id ∧ id < topW from ⟨hidb.1, by unfold topW; omega⟩)
        have HtT := Lib.hid (show 0 ≤ t ∧ t < topW from ⟨htb.1, by unfold topW; omega⟩)
        have hsE : setE t = 0 := by unfold setE bigW; rw [if_neg (by omega)]
        have hsA : setA id t L = setW id t L := by unfold setA bigW; rw [if_neg (by omega)]
        have HsE := Lib.hid hsE
        have HsA := Lib.hid hsA
        have hok := Lib.hid (hO.out.tk.m.ok hF.out (i := 0) rfl).1
        have hlen : L.length ≤ 1000000 := by have := hL.out.1; omega
        have Hlen := Lib.hid hlen
        have Hin := Lib.hid (And.intro hi0 hi1)
        have Hid0 := Lib.hid eid
        have HsetA := Lib.hid (mset hF.out Z 0 ga 0 L _ _ wr hO.out.tk.m rfl hlen id t 0 (setW id t L) HidT.out HtT.out hsE hsA rfl)
        clear ey eid hyb hidb htb hsE hsA hlen hi0 hi1
        go_wp2_with fail
        refine HsetA.out.mono ?_
        rintro e w4 ⟨rfl, hmT, hbT⟩
        have HO4 := Lib.hid (show OAt Z w b1 [(ga, 0, setW id t L), (gb, 0, L)] L (.slice none 0 0) [] w4 from hO.out.called hmT hbT (fun k hk => hk))
        clear hmT hbT HsetA hO hca hci hxi hxa
        obtain ⟨bi, pi, hxi, hbi, hci⟩ := (Hr0.out _ HO4.out.tk.b).index_u64 (c := c0) He0.out Hin.out.1
        rw [Hid0.out] at hci
        have HsetB := Lib.hid (mset hF.out Z 1 gb 0 L _ _ w4 HO4.out.tk.m rfl Hlen.out id t 0 (setW id t L) HidT.out HtT.out HsE.out HsA.out rfl)
        go_wp2_with fail
        refine HsetB.out.mono ?_
        rintro e w5 ⟨rfl, hmT, hbT⟩
        have HO5 := Lib.hid (show OAt Z w b1 [(ga, 0, setW id t L), (gb, 0, setW id t L)] L (.slice none 0 0) [] w5 from HO4.out.called hmT hbT (fun k hk => hk))
        clear hmT hbT HsetB HO4 hci hxi
        obtain ⟨bj, pj, hxj, hbj, hcj⟩ := (Hr0.out _ HO5.out.tk.b).index_u64 (c := c0) He0.out Hin.out.1
        rw [Hid0.out] at hcj
        obtain ⟨w6, hr6, ho6⟩ := HO5.out.put hok.out id t
        have HO6 := Lib.hid ho6
        clear ho6
        go_wp2_with fail
        go_roundg (gk - 1)
        case measure => have := hgk.out; omega
        case rel => exact ⟨i + 1, setW id t L, Lib.hid (by have := hgk.out; show gk - 1 + (i + 1) = _; omega), by omega, by go_num, HO6, Lib.hid ⟨by have := setW_le id t L; have := hL.out.1; omega, fun a ha => by
          rcases mem_set.1 ha with h | h
          · subst h; exact HidT.out
          · exact hL.out.2 a h.1⟩⟩
    · go_upto_region 4 with (fail)
      go_cut [44] (fun s44 wx => s44 = .bool false ∧ wr = wx)
      case first =>
        as_aux_lemma =>
          have hi60 : i ≤ 60 := by have := HN.out; omega
          have k0 : (0 : Int) ≤ (i : Int) := by omega
          by_cases a0 : i < n0
          · have d0 : decide ((i : Int) < (n0 : Int)) = true := decide_eq_true (by omega)
            by_cases a1 : i < n1
            · have d1 : decide ((i : Int) < (n1 : Int)) = true := decide_eq_true (by omega)
              have d2 : decide ((i : Int) < 60) = false := decide_eq_false (by have := HN.out; omega)
              go_wp2_with fail
              go_meet
              case rel => exact ⟨rfl, rfl⟩
            · have d1 : decide ((i : Int) < (n1 : Int)) = false := decide_eq_false (by omega)
              go_wp2_with fail
              go_meet
              case rel => exact ⟨rfl, rfl⟩
          · have d0 : decide ((i : Int) < (n0 : Int)) = false := decide_eq_false (by omega)
            go_wp2_with fail
            go_meet
            case rel => exact ⟨rfl, rfl⟩
      case rest =>
        obtain ⟨rfl, rfl⟩ := hcut
        have HokL := Lib.hid (hO.out.tk.m.ok hF.out (i := 0) rfl).1
        have HnL := Lib.hid (show L.length ≤ 60 by have := hL.out.1; have := HN.out; omega)
        have HbL := Lib.hid hL.out.2
        obtain ⟨b2, eb2⟩ : ∃ b2, wr.heap.size = b2 := ⟨_, rfl⟩
        obtain ⟨w4, ew4⟩ : ∃ w4, wr.alloc (.map #[] 0) = w4 := ⟨_, rfl⟩
        have hmk := run_makeMap_plain (P := Try.prog) wr 52
        rw [eb2, ew4] at hmk
        obtain ⟨Z4, eZ⟩ : ∃ Z4 : Nat → Prop, (fun k => Z k ∨ k = b2) = Z4 := ⟨_, rfl⟩
        have HOS := Lib.hid (show OAt Z4 w b1 [(ga, 0, L), (gb, 0, L)] L (.slice none 0 0) [] w4 ∧ OSeen Z4 w b1 b2 (.slice none 0 0) [] w4 from by
          have h1 := hO.out.tk.b.size
          have h2 := hO.out.tk.m.alloc hF.out (.map #[] 0)
          have h4 := hO.out.mw.lt
          rw [eb2, ew4, eZ] at h2
          have hb : But (fun _ => False) wr w4 := by rw [← ew4]; exact (But.refl _ _).alloc _
          refine ⟨⟨⟨h2, by rw [← ew4]; exact hO.out.tk.b.alloc h1 _, fun k hk => by rw [← eZ]; exact .inl (hO.out.tk.z k hk)⟩, ⟨by rw [← eZ]; exact .inl hO.out.z1.1, hO.out.z1.2⟩, hO.out.mw.but hb (fun x => x), Sl.nil _ _ _, fun b hb => by cases hb⟩, ⟨⟨by rw [← eZ]; exact .inr rfl, by omega, by omega, fun e => by cases e⟩, ?_⟩⟩
          have h3 := MUP.made wr (fun _ => .int .i64 1) b2 eb2
          rw [ew4] at h3
          exact h3.congr (fun e => ⟨fun x => x.elim, fun x => by cases x⟩) (fun _ _ => rfl))
        have HO4 := Lib.hid HOS.out.1
        have HS4 := Lib.hid HOS.out.2
        obtain ⟨K, hK⟩ : ∃ K : Nat, K ≤ n2 ∧ K ≤ 30 ∧ (K = n2 ∨ K = 30) := ⟨min n2 30, by omega, by omega, by omega⟩
        have HK := Lib.hid hK
        clear ew4 eb2 eZ hO hL hgk HOS hK HN hin hi
        go_wp2_with fail
        clear hmk
        go_loopg [12, 13, 15] K (fun gk x12 x13 x15 wr => ∃ (j : Nat) (c : Int) (tv : Value) (Z : Nat → Prop), Hid (gk + j = K) ∧ j ≤ K ∧ x12 = .int .u64 c ∧ tv = x13 ∧ x15 = .int .i64 (j : Int) ∧ (0 ≤ c ∧ c ≤ 300 * (j : Int)) ∧ Hid (OAt Z w b1 [(ga, c, remW j c L), (gb, 0, L)] L tv ((gotW j c L).map Prod.fst) wr) ∧ Hid (OSeen Z w b1 b2 tv ((gotW j c L).map Prod.fst) wr))
        case atStart => exact ⟨0, 0, _, Z4, rfl, Nat.zero_le _, rfl, rfl, rfl, ⟨by omega, by omega⟩, HO4, HS4⟩
        case round =>
          obtain ⟨j, c, tv, Zj, hgk, hj, rfl, rfl, rfl, hcb, hO, hS⟩ := hrel
          by_cases hjn : j < K
          · obtain rfl : gk = K - j := by have := hgk.out; omega
            have hj2 : j < n2 := by have := HK.out; omega
            have j0 : (0 : Int) ≤ (j : Int) := by omega
            have j1 : (j : Int) < (n2 : Int) := by omega
            have j2 : (j : Int) < 30 := by have := HK.out; omega
            have hwr : IntKind.i64.wrap ((j : Int) + 1) = (j : Int) + 1 := by rw [IntKind.wrap_i64]; omega
            obtain ⟨bt, pt, hxt, hbt, hct⟩ := (Hr2.out _ hO.out.tk.b).index_u16 (c := c2) He2.out hj2
            obtain ⟨y, ey⟩ : ∃ y, l2.getD j 0 = y := ⟨_, rfl⟩
            obtain ⟨s, es⟩ : ∃ s, y.tmod 300 = s := ⟨_, rfl⟩
            obtain ⟨d, ed⟩ : ∃ d, c + s = d := ⟨_, rfl⟩
            have hyb := Hg2.out j hj2
            rw [ey] at hct hyb
            have hsb : 0 ≤ s ∧ s < 300 := by rw [← es, Int.tmod_eq_emod_of_nonneg hyb.1]; omega
            have hs16 : IntKind.u16.wrap s = s := by simp [IntKind.wrap, IntKind.bits, IntKind.signed]; omega
            have hs64 : IntKind.u64.wrap s = s := by simp [IntKind.wrap, IntKind.bits, IntKind.signed]; omega
            have hd64 : IntKind.u64.wrap (c + s) = d := by simp [IntKind.wrap, IntKind.bits, IntKind.signed]; omega
            have hdb : 0 ≤ d ∧ d ≤ 300 * ((j + 1 : Nat) : Int) := by omega
            have hcd : c ≤ d := by omega
            have hbad : badT c d = false := decide_eq_false (by unfold bigW; omega)
            obtain ⟨D, eD⟩ : ∃ D, dueW d (remW j c L) = D := ⟨_, rfl⟩
            obtain ⟨q, eq⟩ : ∃ q, D.map Prod.fst = q := ⟨_, rfl⟩
            have Htold := Lib.hid (told1 HokL.out j hcd)
            have hgot := got_next hcd L (i := j)
            rw [eD] at Htold hgot
            have Hgot := Lib.hid (show (gotW j c L).map Prod.fst ++ q = (gotW (j + 1) d L).map Prod.fst by rw [← hgot, List.map_append, eq])
            have hrl : (remW j c L).length ≤ 1000000 := by have := rem_le j c L; have := HnL.out; omega
            have HT := Lib.hid (mtick hF.out Zj 0 ga c (remW j c L) _ _ wr hO.out.tk.m rfl hrl d d 0 (remW (j + 1) d L) q ⟨hdb.1, by unfold topW; omega⟩ (by unfold tickC; rw [hbad]; rfl) (by unfold tickE; rw [hbad]; rfl) (by unfold tickA; rw [hbad]; exact rem_next hcd L) (by unfold tickL; rw [hbad, eD]; exact eq) rfl)
            have HDq := Lib.hid eq
            have Hdb := Lib.hid hdb
            have Hcb := Lib.hid hcb
            have Hhj := Lib.hid (And.intro hj hj2)
            have Hlq := Lib.hid (show D.length ≤ 60 ∧ (gotW j c L).length ≤ 60 by
              have h1 := dueW_le d (remW j c L)
              have h2 := rem_le j c L
              have h3 := got_rem_len j c L
              have h4 := HnL.out
              rw [eD] at h1
              omega)
            clear ey hyb hsb ed hdb hcb hcd hbad hgot eD eq hrl hj hj2
            go_wp2_with fail
            refine HT.out.mono ?_
            rintro e w5 ⟨vq, rfl, hvq, hvb, hmT, hbT⟩
            have HO5 := Lib.hid (show OAt (fun k => Zj k ∨ vq.ownBlock = some k) w b1 [(ga, d, remW (j + 1) d L), (gb, 0, L)] L tv ((gotW j c L).map Prod.fst) w5 from hO.out.called hmT hbT (fun k hk => .inl hk))
            have HS5 := Lib.hid (show OSeen (fun k => Zj k ∨ vq.ownBlock = some k) w b1 b2 tv ((gotW j c L).map Prod.fst) w5 from hS.out.called hbT (fun k hk => .inl hk))
            have Hvq := Lib.hid hvq
            have Hvb := Lib.hid (show vq.ownBlock ≠ some b2 from fun e => by have := hvb _ e; have := hS.out.ms.lt; omega)
            obtain ⟨Z5, eZ5⟩ : ∃ Z5 : Nat → Prop, (fun k => Zj k ∨ vq.ownBlock = some k) = Z5 := ⟨_, rfl⟩
            rw [eZ5] at HO5 HS5
            obtain ⟨Aq, cq, rfl, -⟩ := sl_read hvq
            obtain ⟨qn, eqn⟩ : ∃ qn, q.length = qn := ⟨_, rfl⟩
            rw [eqn] at Hvq Hvb ⊢
            have Heqn := Lib.hid eqn
            have Hlq2 := Lib.hid (show D.length = qn ∧ qn ≤ 60 by have h1 := HDq.out; rw [← h1, List.length_map] at eqn; have := Hlq.out; omega)
            clear hmT hbT hvb hvq HT hO hS hct hxt eZ5 eqn
            obtain ⟨G, eG⟩ : ∃ G, (gotW j c L).map Prod.fst = G := ⟨_, rfl⟩
            have HlG := Lib.hid (show G.length ≤ 60 by rw [← eG, List.length_map]; exact Hlq.out.2)
            rw [eG] at HO5 HS5 Htold Hgot
            clear eG
            go_wp2_with fail
            obtain ⟨wo, hwo⟩ : ∃ wo, wo = wr := ⟨_, rfl⟩
            subst hwo
            go_loopg [19] qn (fun gm x19 wr => ∃ m : Nat, Hid (gm + m = qn) ∧ m ≤ qn ∧ x19 = .int .i64 (m : Int) ∧ Hid (OAt Z5 w b1 [(ga, d, remW (j + 1) d L), (gb, 0, L)] L tv G wr) ∧ Hid (OSeen Z5 w b1 b2 tv (G ++ q.take m) wr) ∧ Hid (Sl wr 23 .u64 (.slice Aq qn cq) q))
            case atStart => exact ⟨0, rfl, Nat.zero_le _, rfl, HO5, Lib.hid (by simpa using HS5.out), Hvq⟩
            case round =>
              obtain ⟨m, hgm, hm, rfl, hO, hS, hV⟩ := hrel
              by_cases hmn : m < qn
              · as_aux_lemma =>
                  obtain rfl : gk = qn - m := by have := hgm.out; omega
                  have m0 : (0 : Int) ≤ (m : Int) := by omega
                  have m1 : (m : Int) < (qn : Int) := by omega
                  have hwm : IntKind.i64.wrap ((m : Int) + 1) = (m : Int) + 1 := by rw [IntKind.wrap_i64]; have := Hlq2.out; omega
                  obtain ⟨g1, o1, rfl, hcq⟩ := sl_cell hV.out (by omega)
                  have hmD : m < D.length := by have := Hlq2.out; omega
                  have hT := Htold.out.at_ m hmD
                  have eid := map_getD D hmD
                  rw [HDq.out] at eid hT
                  obtain ⟨id, eid0⟩ : ∃ id, (D.getD m (0, 0)).1 = id := ⟨_, rfl⟩
                  obtain ⟨t, et0⟩ : ∃ t, (D.getD m (0, 0)).2 = t := ⟨_, rfl⟩
                  rw [eid0, et0] at hT
                  rw [eid0] at eid
                  have hcm := hcq m hmn
                  rw [eid] at hcm
                  have Hcq := Lib.hid hcq
                  obtain ⟨hta, htd, htc, htn⟩ := hT
                  have Hta := Lib.hid hta
                  have Htc := Lib.hid htc
                  have Heid := Lib.hid eid
                  have Heid0 := Lib.hid eid0
                  have Het0 := Lib.hid et0
                  have HmD := Lib.hid hmD
                  have hlk1 := (hO.out.look hta).1
                  have hsn := hS.out.no htn
                  have hdt : decide (d < t) = false := decide_eq_false (by omega)
                  clear hcq hta htd htc htn eid eid0 et0 hmD
                  go_upto_region 25 with (fail)
                  go_cut [143] (fun s143 wx => s143 = .bool false ∧ wr = wx)
                  case first =>
                    as_aux_lemma =>
                      by_cases hj0 : j = 0
                      · have hjd : decide ((0 : Int) < (j : Int)) = false := decide_eq_false (by omega)
                        have hjdn : decide (0 < j) = false := decide_eq_false (by omega)
                        clear hj0
                        go_wp2_with fail
                        go_meet
                        case rel => exact ⟨rfl, rfl⟩
                      · have hjd : decide ((0 : Int) < (j : Int)) = true := decide_eq_true (by omega)
                        have hjdn : decide (0 < j) = true := decide_eq_true (by omega)
                        have htc : decide (t ≤ c) = false := decide_eq_false (by have := Htc.out; omega)
                        clear hj0
                        go_wp2_with fail
                        go_meet
                        case rel => exact ⟨rfl, rfl⟩
                  case rest =>
                    obtain ⟨rfl, rfl⟩ := hcut
                    clear hlk1 hsn hdt
                    go_upto_region 27 with (fail)
                    go_cut [179] (fun s179 wx => s179 = .bool false ∧ ∃ k, wx = wr.drewN k)
                    case first =>
                      as_aux_lemma =>
                        by_cases hm0 : m = 0
                        · have hmd : decide ((0 : Int) < (m : Int)) = false := decide_eq_false (by omega)
                          have hmdn : decide (0 < m) = false := decide_eq_false (by omega)
                          clear hm0
                          go_quiet (fail)
                          go_wp2_with fail
                          go_meet
                          case rel => exact ⟨rfl, nq, rfl⟩
                        · have hmd : decide ((0 : Int) < (m : Int)) = true := decide_eq_true (by omega)
                          have hmdn : decide (0 < m) = true := decide_eq_true (by omega)
                          obtain ⟨p, hp⟩ : ∃ p, p + 1 = m := ⟨m - 1, by omega⟩
                          have hwp : IntKind.i64.wrap ((m : Int) - 1) = (p : Int) := by rw [IntKind.wrap_i64]; have := Hlq2.out; omega
                          have p0 : (0 : Int) ≤ (p : Int) := by omega
                          have p1 : (p : Int) < (qn : Int) := by omega
                          have hpD : p < D.length := by have := HmD.out; omega
                          have hpT := (Htold.out.at_ p hpD).1
                          have hord := Htold.out.ord p (by have := HmD.out; omega)
                          have hcp := Hcq.out p (by omega)
                          have epid := map_getD D hpD
                          rw [HDq.out] at epid
                          rw [epid] at hcp
                          rw [hp] at hord
                          unfold befW at hord
                          rw [Heid0.out, Het0.out] at hord
                          obtain ⟨id1, e1⟩ : ∃ id, (D.getD p (0, 0)).1 = id := ⟨_, rfl⟩
                          obtain ⟨t1, e2⟩ : ∃ t, (D.getD p (0, 0)).2 = t := ⟨_, rfl⟩
                          rw [e1, e2] at hpT hord
                          rw [e1] at hcp
                          have hlkp := fun k => ((hO.out.drewN k).look hpT).2
                          have hcc : ∀ k, (wr.drewN k).cell? ⟨g1, o1 + p, none⟩ = some (.int .u64 id1) := fun k => hcp
                          clear hm0 hp hpD hpT epid e1 e2
                          rcases hord with ho | ⟨rfl, ho⟩
                          · have y1 : decide (t < t1) = false := decide_eq_false (by omega)
                            have y2 : (t1 == t) = false := by simp; omega
                            clear ho
                            go_quiet (fail)
                            go_wp2_with fail
                            go_meet
                            case rel => exact ⟨rfl, nq, rfl⟩
                          · have y1 : decide (t1 < t1) = false := decide_eq_false (by omega)
                            have y2 : (t1 == t1) = true := by simp
                            have y3 : decide (id ≤ id1) = false := decide_eq_false (by omega)
                            clear ho
                            go_quiet (fail)
                            go_wp2_with fail
                            go_meet
                            case rel => exact ⟨rfl, nq, rfl⟩
                    case rest =>
                      obtain ⟨rfl, k, rfl⟩ := hcut
                      obtain ⟨wk, ewk⟩ : ∃ wk, wr.drewN k = wk := ⟨_, rfl⟩
                      have HOk := Lib.hid (hO.out.drewN k)
                      have HSk := Lib.hid (hS.out.drewN k)
                      have HVk := Lib.hid (sl_drewN hV.out k)
                      have hck : wk.cell? ⟨g1, o1 + m, none⟩ = some (.int .u64 id) := by rw [← ewk]; exact hcm
                      rw [ewk] at HOk HSk HVk ⊢
                      obtain ⟨w6, hr6, ho6, hs6, hb6⟩ := HOk.out.see HSk.out id
                      have HO6 := Lib.hid ho6
                      have HS6 := Lib.hid hs6
                      have HV6 := Lib.hid (HVk.out.but hb6 (fun b hb e => Hvb.out (by rw [hb, e])))
                      clear ewk hcm ho6 hs6 hb6
                      go_wp2_with fail
                      go_roundg (qn - (m + 1))
                      case measure => omega
                      case rel => exact ⟨m + 1, Lib.hid (by omega), by omega, by go_num, HO6, Lib.hid (by
                        have h1 := HS6.out
                        have h2 := take_snoc q (j := m) (by rw [Heqn.out]; exact hmn)
                        rw [Heid.out] at h2
                        rw [h2, ← List.append_assoc]
                        exact h1), HV6⟩
              · as_aux_lemma =>
                  obtain rfl : qn = m := by omega
                  have hmm : decide ((qn : Int) < (qn : Int)) = false := by simp
                  have hS2 : OSeen Z5 w b1 b2 tv (G ++ q) wr := by
                    have h1 := hS.out
                    rwa [List.take_of_length_le (by rw [Heqn.out]; exact Nat.le_refl _)] at h1
                  obtain ⟨tv', w7, Z7, hr7, ho7, hs7⟩ := hO.out.app hS2 hV.out (by have := HlG.out; have := Hlq2.out; have := Heqn.out; omega) 37
                  rw [Hgot.out] at ho7 hs7
                  have Hr7 := Lib.hid hr7
                  have HO7 := Lib.hid ho7
                  have HS7 := Lib.hid hs7
                  clear hS2 hr7 ho7 hs7
                  go_wp2_with (at_builtin; refine wpList_appX rfl (.tmp 185) (.tmp 186) _ _ rfl rfl _ _ _ w7 rfl rfl Hr7.out ?_)
                  go_roundg (K - (j + 1))
                  case measure => have := Hhj.out; omega
                  case rel => exact ⟨j + 1, d, tv', Z7, Lib.hid (by have := Hhj.out; omega), by have := Hhj.out; omega, rfl, rfl, by go_num, Hdb.out, HO7, HS7⟩
          · obtain rfl : K = j := by omega
            go_upto_region 14 with (fail)
            go_cut [84] (fun s84 wx => s84 = .bool false ∧ wr = wx)
            case first =>
              as_aux_lemma =>
                have j0 : (0 : Int) ≤ (K : Int) := by omega
                by_cases a0 : K < n2
                · have d0 : decide ((K : Int) < (n2 : Int)) = true := decide_eq_true (by omega)
                  have d1 : decide ((K : Int) < 30) = false := decide_eq_false (by have := HK.out; omega)
                  go_wp2_with fail
                  go_meet
                  case rel => exact ⟨rfl, rfl⟩
                · have d0 : decide ((K : Int) < (n2 : Int)) = false := decide_eq_false (by omega)
                  go_wp2_with fail
                  go_meet
                  case rel => exact ⟨rfl, rfl⟩
            case rest =>
              obtain ⟨rfl, rfl⟩ := hcut
              obtain ⟨es, clock, hM⟩ := hO.out.mw
              have hrange := run_range_map (P := Try.prog) wr 51 23 23 b1 es clock Try.underlying51 hM.at_
              obtain ⟨r, er⟩ : ∃ r, wr.heap.size = r := ⟨_, rfl⟩
              obtain ⟨w7, ew7⟩ : ∃ w7, wr.alloc (.mapIter (some b1) clock #[] clock) = w7 := ⟨_, rfl⟩
              obtain ⟨Z7, ho7, hs7, hi7⟩ := OIt.begins hO.out hS.out hM er ew7
              rw [er, ew7] at hrange
              have HO7 := Lib.hid ho7
              have HS7 := Lib.hid hs7
              have HI7 := Lib.hid hi7
              obtain ⟨At, ct, rfl, -⟩ := sl_read hO.out.ts
              obtain ⟨G, eG⟩ : ∃ G, (gotW K c L).map Prod.fst = G := ⟨_, rfl⟩
              obtain ⟨M, eM⟩ : ∃ M, remW K c L = M := ⟨_, rfl⟩
              have hlen := got_rem_len K c L
              have hlm : (gotW K c L).length = G.length := by rw [← eG, List.length_map]
              rw [hlm, eM] at hlen
              clear hlm
              have Hent := Lib.hid (fun (e t : Int) (h : atV e L = (t, true)) => once_entry HokL.out h K c)
              have Hgot := Lib.hid (show K ≠ 0 → (dueW c L).map Prod.fst = G from fun h => by rw [← eG]; unfold gotW; rw [if_neg h])
              have Hgot0 := Lib.hid (show K = 0 → G = [] from fun h => by rw [← eG]; unfold gotW; rw [if_pos h]; rfl)
              rw [eG, eM] at HO7 Hent
              rw [eG] at HS7 HI7
              rw [eG] at ⊢
              obtain ⟨ng, eng⟩ : ∃ ng, G.length = ng := ⟨_, rfl⟩
              rw [eng] at HO7 HS7 HI7 hlen ⊢
              have Hlen := Lib.hid hlen
              have Heng := Lib.hid eng
              have HcK := Lib.hid (show 0 ≤ c ∧ c ≤ 9000 by have := HK.out; omega)
              have HnM := Lib.hid (show M.length ≤ 1000000 by have := HnL.out; omega)
              clear hO hS hM er ew7 ho7 hs7 hi7 eG eM hlen eng hjn hj hgk hcb
              go_wp2_with fail
              clear hrange
              go_loopg [] (leftOf es #[]).size (fun gk wr => ∃ seen, Hid ((leftOf es seen).size = gk) ∧ Hid (OAt Z7 w b1 [(ga, c, M), (gb, 0, L)] L (.slice At ng ct) G wr) ∧ Hid (OSeen Z7 w b1 b2 (.slice At ng ct) G wr) ∧ Hid (OIt Z7 w b1 b2 r L (.slice At ng ct) es clock seen wr))
              case atStart => exact ⟨#[], rfl, HO7, HS7, HI7⟩
              case round =>
                obtain ⟨seen, hgk, hO, hS, hI⟩ := hrel
                rcases run_next_at (P := Try.prog) wr 0 r b1 clock clock seen es clock hI.out.it hI.out.mn.at_ hI.out.mn.st.1 (Nat.le_refl _) with ⟨h0, hrun⟩ | ⟨x, hx, wn0, hw, hrun⟩
                · as_aux_lemma =>
                    have hcc := HcK.out
                    obtain ⟨Q, eQ⟩ : ∃ Q, (dueW c L).map Prod.fst = Q := ⟨_, rfl⟩
                    have HQG := Lib.hid (show n2 ≠ 0 → Q = G from fun h => by rw [← eQ]; exact Hgot.out (by have := HK.out; omega))
                    have HG0 := Lib.hid (show n2 = 0 → G = [] from fun h => Hgot0.out (by have := HK.out; omega))
                    have hbad : badT 0 c = false := decide_eq_false (by unfold bigW; omega)
                    have HT := Lib.hid (mtick hF.out Z7 1 gb 0 L _ _ wr hO.out.tk.m rfl (by have := HnL.out; omega) c c 0 (leftW c L) Q ⟨hcc.1, by unfold topW; omega⟩ (by unfold tickC; rw [hbad]; rfl) (by unfold tickE; rw [hbad]; rfl) (by unfold tickA; rw [hbad]; rfl) (by unfold tickL; rw [hbad]; exact eQ) rfl)
                    clear hcc eQ hbad h0
                    go_wp2_with fail
                    refine HT.out.mono ?_
                    rintro e w8 ⟨vq, rfl, hvq, -, hmT, hbT⟩
                    have HO8 := Lib.hid (show OAt (fun k => Z7 k ∨ vq.ownBlock = some k) w b1 [(ga, c, M), (gb, c, leftW c L)] L (.slice At ng ct) G w8 from hO.out.called hmT hbT (fun k hk => .inl hk))
                    have Hvq := Lib.hid hvq
                    obtain ⟨Z8, eZ8⟩ : ∃ Z8 : Nat → Prop, (fun k => Z7 k ∨ vq.ownBlock = some k) = Z8 := ⟨_, rfl⟩
                    rw [eZ8] at HO8
                    obtain ⟨bz, ebz⟩ : ∃ bz, ((n2 : Int) == 0) = bz := ⟨_, rfl⟩
                    have Hbz := Lib.hid (show (bz = true → n2 = 0) ∧ (bz = false → n2 ≠ 0) from by
                      subst ebz
                      constructor
                      · intro h
                        have := eq_of_beq h
                        omega
                      · intro h e
                        subst e
                        cases h)
                    clear hmT hbT hvq HT hO hS hI eZ8
                    go_upto_if 238 with (fail)
                    clear ebz
                    go_cut [26] (fun s26 wx => ∃ v, v = s26 ∧ Hid (Sl w8 23 .u64 v G) ∧ w8 = wx)
                    case first =>
                      as_aux_lemma =>
                        cases bz with
                        | true =>
                          go_wp2_with fail
                          go_meet
                          case rel => exact ⟨_, rfl, Lib.hid (by rw [HG0.out (Hbz.out.1 (by first | rfl | trivial))]; exact Sl.nil _ _ _), rfl⟩
                        | false =>
                          go_wp2_with fail
                          go_meet
                          case rel => exact ⟨vq, rfl, Lib.hid (by rw [← HQG.out (Hbz.out.2 (by first | rfl | trivial))]; exact Hvq.out), rfl⟩
                    case rest =>
                      obtain ⟨v, rfl, hv, rfl⟩ := hcut
                      have HSm := Lib.hid (same12_any v (.slice At ng ct) G G true w8 hv.out HO8.out.ts (by have := Heng.out; have := Hlen.out; have := HnL.out; omega) (decide_eq_true rfl))
                      go_wp2_with fail
                      refine HSm.out.mono ?_
                      rintro e w9 ⟨rfl, m1, rfl⟩
                      obtain ⟨w9, ew9⟩ : ∃ w9, w8.drewN m1 = w9 := ⟨_, rfl⟩
                      have HO9 := Lib.hid (HO8.out.drewN m1)
                      rw [ew9] at HO9 ⊢
                      obtain ⟨nM, enM⟩ : ∃ nM, M.length = nM := ⟨_, rfl⟩
                      have HL := Lib.hid (mlen hF.out _ 0 ga c M _ w9 HO9.out.tk.m rfl HnM.out nM enM)
                      obtain ⟨nL, enL⟩ : ∃ nL, L.length = nL := ⟨_, rfl⟩
                      have hsub : IntKind.i64.wrap ((nL : Int) - (ng : Int)) = (nM : Int) := by rw [IntKind.wrap_i64]; have := Hlen.out; have := HnL.out; omega
                      have hmm : ((nM : Int) == (nM : Int)) = true := by simp
                      have HenL := Lib.hid enL
                      clear ew9 HSm hv enM enL
                      go_wp2_with fail
                      refine HL.out.mono ?_
                      rintro e w10 ⟨rfl, m2, rfl⟩
                      obtain ⟨w10, ew10⟩ : ∃ w10, w9.drewN m2 = w10 := ⟨_, rfl⟩
                      have HO10 := Lib.hid (HO9.out.drewN m2)
                      rw [ew10] at HO10 ⊢
                      have hll := HO10.out.lens HokL.out 3
                      rw [HenL.out] at hll
                      clear ew10 HL
                      go_wp2_with fail
                      refine (whwake_any hF.out w10).mono ?_
                      rintro e w11 ⟨rfl, hb⟩
                      have HB := Lib.hid (HO10.out.tk.b.trans (hb.mono HO10.out.tk.b.size))
                      clear hb hll
                      go_wp2_with fail
                      go_ret
                      exact ⟨rfl, HB.out⟩
                · as_aux_lemma =>
                    obtain ⟨hxe, hxb⟩ := _root_.Go.mem_left hx
                    have Hsh := Lib.hid (left_shrinks es seen x hx)
                    obtain ⟨e, hKe, hke, hve⟩ := hI.out.mn.ent x hxe
                    obtain ⟨t, het⟩ : ∃ t, atV e L = (t, true) := ⟨(atV e L).1, by unfold keyL at hKe; rw [← hKe]⟩
                    have hvt : valL L e = .int .u64 t := by unfold valL; rw [het]
                    have hnb : But (fun k => k = r) wr (setBlock wn0 r (.mapIter (some b1) clock (seen.push x.born) clock)) := by
                      rcases hw with rfl | rfl
                      · exact setU_but _ _ _
                      · exact (But.refl (fun k => k = r) wr).drew.trans (setU_but _ _ _)
                    have hrn : (setBlock wn0 r (.mapIter (some b1) clock (seen.push x.born) clock)).heap[r]? = some (.mapIter (some b1) clock (seen.push x.born) clock) := by
                      rcases hw with rfl | rfl
                      · exact setU_at _ hI.out.it
                      · exact setU_at (w := wr.drew) _ hI.out.it
                    obtain ⟨wn, ewn⟩ : ∃ wn, setBlock wn0 r (.mapIter (some b1) clock (seen.push x.born) clock) = wn := ⟨_, rfl⟩
                    rw [ewn] at hrun hnb hrn
                    obtain ⟨hon, hsn, hin⟩ := hI.out.step hO.out hS.out hnb hrn
                    have hent := run_entry_at (P := Try.prog) wn r b1 clock seen es clock x hrn hin.mn.at_ hxe hin.mn.st.2.1
                    rw [hke, hve, hvt] at hrun hent
                    have HOn := Lib.hid hon
                    have HSn := Lib.hid hsn
                    have HIn := Lib.hid hin
                    have Hbe := Lib.hid (HbL.out _ (atV_in het))
                    have hway := Hent.out e t het
                    obtain ⟨y, b, eat⟩ : ∃ y b, atV e M = (y, b) := ⟨_, _, rfl⟩
                    have HA := Lib.hid (mat hF.out Z7 0 ga c M _ wn HOn.out.tk.m rfl HnM.out e y b Hbe.out eat)
                    rw [eat] at hway
                    have Hway := Lib.hid hway
                    clear hx hxe hxb hKe hke hve het hvt hnb hrn ewn hw hon hsn hin eat hO hS hI hway
                    go_wp2_with fail
                    refine HA.out.mono ?_
                    rintro e2 w8 ⟨rfl, hmT, hbT⟩
                    have HO8 := Lib.hid (HOn.out.called hmT hbT (fun k hk => hk))
                    have HS8 := Lib.hid (HSn.out.called (Z' := Z7) hbT (fun k hk => hk))
                    have HI8 := Lib.hid (HIn.out.called (Z' := Z7) hbT HOn.out.z1.1)
                    clear hmT hbT HOn HSn HIn HA hrun hent
                    rcases Hway.out with ⟨h1, h2, h3, h4⟩ | ⟨h1, h2, h4⟩
                    · injection h4 with h4 h5
                      subst h4; subst h5
                      have hs := HS8.out.yes h1
                      have d0 : decide ((0 : Int) < (n2 : Int)) = true := decide_eq_true (by have := HK.out; omega)
                      have d0n : decide (0 < n2) = true := decide_eq_true (by have := HK.out; omega)
                      have d1 : decide (t ≤ c) = true := decide_eq_true h3
                      clear h1 h2 h3
                      go_wp2_with fail
                      go_roundg (leftOf es (seen.push x.born)).size
                      case measure => have := Hsh.out; have := hgk.out; omega
                      case rel => exact ⟨_, Lib.hid rfl, HO8, HS8, HI8⟩
                    · injection h4 with h4 h5
                      subst h4; subst h5
                      have hs := HS8.out.no h1
                      have hyy : (y != y) = false := by simp
                      by_cases hn2 : n2 = 0
                      · have d0 : decide ((0 : Int) < (n2 : Int)) = false := decide_eq_false (by omega)
                        have d0n : decide (0 < n2) = false := decide_eq_false (by omega)
                        clear h1 h2 hn2
                        go_wp2_with fail
                        go_roundg (leftOf es (seen.push x.born)).size
                        case measure => have := Hsh.out; have := hgk.out; omega
                        case rel => exact ⟨_, Lib.hid rfl, HO8, HS8, HI8⟩
                      · have d0 : decide ((0 : Int) < (n2 : Int)) = true := decide_eq_true (by omega)
                        have d0n : decide (0 < n2) = true := decide_eq_true (by omega)
                        have d1 : decide (y ≤ c) = false := decide_eq_false (by have := HK.out; omega)
                        clear h1 h2 hn2
                        go_wp2_with fail
                        go_roundg (leftOf es (seen.push x.born)).size
                        case measure => have := Hsh.out; have := hgk.out; omega
                        case rel => exact ⟨_, Lib.hid rfl, HO8, HS8, HI8⟩
theorem own : ownKnob Try.prog.godebug = none := by kernel_rfl
theorem laidOut : laidOutB Try.prog = true := by kernel_rfl

set_option maxRecDepth 100000 in
theorem lifted (os : Os) (started : os.Started) (H : Type) (enc : TypeId × Value → H) :
    ReturnsInHanded {} Try.checked os 4 .any (Rows.wheelOnceSpec.pre6 enc Try.prog Try.f4 Rows.wheelOnceRow.domain false) (Rows.wheelOnceSpec.post enc Try.prog Try.f4 false true false false) := by
  refine returnsInHanded_of_change (C := Try.checked) own started (by kernel_rfl) Try.func4
    (ChangeSpec.witness6 (enc := enc) (C := Try.checked) false ⟨#[], #[(.slice none 0 0), (.slice none 0 0), (.slice none 0 0)], []⟩ 8 (by kernel_rfl) (by kernel_rfl) (by kernel_rfl) (by kernel_rfl)) ?_
  intro W base args ds gs before hval0 hW hcnd _
  have hval : ∀ (j : Nat) t v, Try.f4.params[j]? = some t → args[j]? = some v → Value.okWide Try.prog W .any base t v := hval0
  have hW' := hW
  obtain ⟨p, q, hA0, hV, rfl, hfz, hnd⟩ := hW
  have hA : DataW.TrodAll enc Try.prog W 0 (fun _ => true) true Try.f4.params.toList args.toList ds p := hA0
  rw [Try.params4] at hA hval
  obtain ⟨v0, vs0, d0, ds0, p0, q0, hargs, rfl, rfl, h0, r0⟩ := trodAll_cons hA
  obtain ⟨v1, vs1, d1, ds1, p1, q1, rfl, rfl, rfl, h1, r1⟩ := trodAll_cons r0
  obtain ⟨v2, vs2, d2, ds2, p2, q2, rfl, rfl, rfl, h2, r2⟩ := trodAll_cons r1
  obtain ⟨rfl, rfl, rfl⟩ := trodAll_nil r2
  obtain rfl : args = #[v0, v1, v2] := by cases args; simp_all
  obtain ⟨rfl, rfl⟩ := trodVars_none hV
  have k0 := nums_open_u64 (hval 0 37 v0 rfl rfl) h0
  have lt0 : ∀ x ∈ p0, x.block < W.heap.size := by obtain ⟨m, hm⟩ := h0; exact DataW.trod_lt m _ _ _ hm
  have k1 := nums_open_u64 (hval 1 37 v1 rfl rfl) h1
  have lt1 : ∀ x ∈ p1, x.block < W.heap.size := by obtain ⟨m, hm⟩ := h1; exact DataW.trod_lt m _ _ _ hm
  have k2 := nums_open_u16 (hval 2 50 v2 rfl rfl) h2
  have lt2 : ∀ x ∈ p2, x.block < W.heap.size := by obtain ⟨m, hm⟩ := h2; exact DataW.trod_lt m _ _ _ hm
  clear hA0 hval0
  refine (walk W v0 k0 v1 k1 v2 k2).mono fun e W' ⟨he, bel⟩ => ?_
  subst he
  exact ⟨_, rfl, _, _, _, [], _, [], hW', trodAll_mk1 (shut_bool Try.underlying4 _), (trodAll_cons_mk (Below.trod laidOut (by kernel_rfl) (of_decide_eq_true (by kernel_rfl)) h0 bel lt0) (trodAll_cons_mk (Below.trod laidOut (by kernel_rfl) (of_decide_eq_true (by kernel_rfl)) h1 bel lt1) (trodAll_cons_mk (Below.trod laidOut (by kernel_rfl) (of_decide_eq_true (by kernel_rfl)) h2 bel lt2) trodAll_mk0))), rfl, bel.frame _, fun h => by cases h⟩

theorem over : Rows.wheelOnceRow.holds Try.pinned (OpenSpec.ofChange Rows.wheelOnceSpec) :=
  OpenClaim.holds_of_wide 4 Try.f4 rfl rfl rfl rfl rfl rfl rfl ⟨rfl, rfl, rfl, rfl, rfl⟩ rfl rfl rfl rfl rfl (by kernel_rfl) Try.func4 (by kernel_rfl)
    (of_decide_eq_true (by kernel_rfl)) (by unfold Func.isWrapper; first | (rw [if_pos (by decide +kernel)]; kernel_rfl) | (rw [if_neg (by decide +kernel)]; exact ⟨rfl, rfl⟩))
    (fun os started H enc _ => lifted os started H enc)

/-- The statement. -/
theorem proved : Rows.WheelOnceSaid := over
#print axioms proved
end Go.Proofs.Ytlpgabbnldalhaa.wheelOnce
