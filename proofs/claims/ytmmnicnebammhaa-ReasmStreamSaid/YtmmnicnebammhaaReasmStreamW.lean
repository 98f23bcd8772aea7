/-
  ReasmStream's walk, over the face.
-/
import Derived.Test.YtmmnicnebammhaaTk
import Derived.Test.YtmmnicnebammhaaRmStrP
import Derived.Test.YtmmnicnebammhaaRmStrQ
import Derived.Test.YtmmnicnebammhaaRmOpen
import Derived.Test.YtmmnicnebammhaaRmWakes
import Derived.Deep.DeepCutAuto
import Derived.Deep.LoopGhost
import Derived.Deep.CutRange
namespace Go.Proofs.Ytmmnicnebammhaa.reasmStreamW
set_option maxRecDepth 10000
open Go.RowKit
set_option linter.unusedVariables false
set_option linter.unusedSimpArgs false
variable {BAt : BA}

theorem wrap_num32 (x : Int) : IntKind.u32.wrap x = num32 x := by rw [IntKind.wrap_u32]; unfold num32; rfl
theorem w64 (x : Nat) (h : x ≤ 1000000) : wrap64 (x : Int) = x := IntWalk.wrap64_in _ (by omega)
theorem w64s (x : Nat) (h : x ≤ 1000000) : wrap64 ((x : Int) + 1) = (x : Int) + 1 := IntWalk.wrap64_in _ (by omega)
theorem w32 (x : Nat) (h : x ≤ 1000000) : IntKind.u32.wrap (x : Int) = x := by rw [IntKind.wrap_u32]; omega
theorem room_is (room : Int) (h : 0 ≤ room ∧ room < 65536) : ∃ m : Nat, m < 700 ∧ Int.tmod room 700 = m ∧ IntKind.u16.wrap (m : Int) = m ∧ wrap64 (m : Int) = m := by
  refine ⟨(room % 700).toNat, by omega, ?_, ?_, ?_⟩
  · rw [Int.tmod_eq_emod_of_nonneg h.1]; omega
  · simp [IntKind.wrap, IntKind.bits, IntKind.signed]; omega
  · exact IntWalk.wrap64_in _ (by omega)
theorem u16_w (x : Int) (h : 0 ≤ x ∧ x < 65536) : wrap64 x = x := IntWalk.wrap64_in _ (by omega)
theorem wsub (m t : Nat) (h : t ≤ m) (hm : m < 700) : wrap64 ((m : Int) - (t : Int)) = ((m - t : Nat) : Int) := by rw [IntWalk.wrap64_in _ (by omega)]; omega
/-- A piece's places. -/
theorem piece_is (fr lg : Int) (n : Nat) (hn : 0 < n) (hn6 : n ≤ 600) (hfr : 0 ≤ fr ∧ fr < 65536) (hlg : 0 ≤ lg ∧ lg < 65536) : ∃ (a b lg' : Nat), a < n ∧ a ≤ b ∧ b ≤ n ∧ Int.tmod fr (n : Int) = a ∧ Int.tmod lg 100 = lg' ∧ wrap64 ((a : Int) + (lg' : Int)) = (a : Int) + (lg' : Int) ∧ (if (a : Int) + (lg' : Int) < (n : Int) then (a : Int) + (lg' : Int) else (n : Int)) = (b : Int) := by
  have h1 := Int.emod_nonneg fr (show (n : Int) ≠ 0 by omega)
  have h2 := Int.emod_lt_of_pos fr (show (0 : Int) < n by omega)
  obtain ⟨x, hx⟩ : ∃ x, fr % (n : Int) = x := ⟨_, rfl⟩
  have ht : Int.tmod fr (n : Int) = x := by rw [Int.tmod_eq_emod_of_nonneg hfr.1]; exact hx
  rw [hx] at h1 h2
  clear hx
  obtain ⟨y, hy⟩ : ∃ y, lg % 100 = y := ⟨_, rfl⟩
  have ht2 : Int.tmod lg 100 = y := by rw [Int.tmod_eq_emod_of_nonneg hlg.1]; exact hy
  by_cases hc : x + y < (n : Int)
  · refine ⟨x.toNat, (x + y).toNat, y.toNat, by omega, by omega, by omega, by rw [ht]; omega, by rw [ht2]; omega, IntWalk.wrap64_in _ (by omega), ?_⟩
    rw [if_pos (by omega)]
    omega
  · refine ⟨x.toNat, n, y.toNat, by omega, by omega, by omega, by rw [ht]; omega, by rw [ht2]; omega, IntWalk.wrap64_in _ (by omega), ?_⟩
    rw [if_neg (by omega)]
theorem two16 (k : Nat) (h : k ≤ 16) : ¬ (16 : Int) < (k : Int) ∧ ¬ 16 < k := by omega
theorem str_eql (x : ByteArray) (W : World) : (binOp .eql 9 (.string x) (.string x)).run Try.prog W = .ok (.bool true) W := by
  go_simp
theorem mod_is (x : Int) (n : Nat) (h : 0 ≤ x) (hn : 0 < n) : ∃ a : Nat, a < n ∧ Int.tmod x (n : Int) = a := by
  have h1 := Int.emod_nonneg x (show (n : Int) ≠ 0 by omega)
  have h2 := Int.emod_lt_of_pos x (show (0 : Int) < n by omega)
  exact ⟨(x % (n : Int)).toNat, by omega, by rw [Int.tmod_eq_emod_of_nonneg h]; omega⟩
set_option maxHeartbeats 4000000 in
theorem walk (F : BFace BAt) (w : World) (A0 : Option Addr) (N c0 : Nat) (l0 : List Int) (hb : RdC w A0 N c0 l0) (f room : Int) (hf : 0 ≤ f ∧ f < 4294967296) (hroom : 0 ≤ room ∧ room < 65536) (Ap : Option Addr) (np cp : Nat) (hp : RdPc w Ap np) (hnp : np ≤ maxLen) :
    Calls Try.prog 4 #[.slice A0 N c0, .int .u32 f, .int .u16 room, .slice Ap np cp] w fun e w' => e = .returned (.bool true) ∧ Below w.heap.size w w' := by
  obtain ⟨n, hmin, hnN, hn6⟩ := min_nat 600 N (by omega)
  obtain ⟨hs1, hsr⟩ := hb.upto n hnN
  obtain ⟨s, es⟩ : ∃ s, l0.take n = s := ⟨_, rfl⟩
  rw [es] at hsr
  have hlen : s.length = n := hsr.rd.len
  have hn600 : n ≤ 600 := by omega
  have Hf0 := Lib.hid (show num32 (f + (0 : Nat)) = f by unfold num32; omega)
  obtain ⟨m, hm7, q1, q2, q3⟩ := room_is room hroom
  have HF := Lib.hid F
  have Hf := Lib.hid hf
  have Hsr := Lib.hid hsr
  have Hlen := Lib.hid hlen
  have Hn := Lib.hid hn600
  have Hm := Lib.hid hm7
  have Hpc := Lib.hid hp
  have HM := Lib.hid (snew F _ [] w w (At18.start w) f m hf (Nat.le_trans (Nat.le_of_lt hm7) (by decide)))
  have hmk := madeB_run n (Nat.le_trans hn600 (by decide))
  clear F hf hsr hlen hn600 hm7 hp hb es hroom hn6 hnN
  go_enter Try.func4, Try.ntmps4
  go_wp2_with fail
  refine HM.out.mono ?_
  rintro e w1 ⟨g, rfl, h1, h2⟩
  have HM := Lib.hid h1
  clear h1 h2
  unfold madeR
  go_upto_region 7 with (fail)
  obtain ⟨zp, hzp⟩ : ∃ z, w1.heap.size = z := ⟨_, rfl⟩
  obtain ⟨w2, ew2⟩ : ∃ v, w1.alloc (.cells (madeCells #[Value.bool false] n) 4) = v := ⟨_, rfl⟩
  have HS := Lib.hid (show Str BAt w zp n g (num32 (f + (0 : Nat))) (rowS s (fun _ => false) 0 m) (fun _ => false) none 0 0 (s.take 0) w2 from by
    have h1 := BoolAt.made w1 zp n hzp
    have hb2 : But (fun _ => False) w1 (w1.alloc (.cells (madeCells #[Value.bool false] n) 4)) := (But.refl _ _).alloc _
    have hs := HM.out.base.size
    rw [Hf0.out, ← rowS_none, ← ew2]
    refine ⟨HM.out.more HF.out hb2 (fun k hk => hk.elim) (fun k hk => hk.elim) (fun k hk => ?_) (fun k hk => .inl hk), h1, OwnB.nil _ _, by omega⟩
    have hsz : (w1.alloc (.cells (madeCells #[Value.bool false] n) 4)).heap.size = w1.heap.size + 1 := by simp
    rcases hk with hk | hk | hk
    · exact ⟨.inl hk, by omega⟩
    · exact ⟨.inr (by omega), by omega⟩
    · cases hk)
  have HI := Lib.hid (StrI.start s n m Hlen.out)
  have e1 : w1.alloc (.cells (madeCells #[Value.bool false] n) 4) = w2 := ew2
  rw [e1]
  try rw [hzp]
  clear ew2 e1 hzp hmk HM
  go_wp2_with fail
  clear q1 q2 q3
  go_loopg [13, 14] np (fun gk x13 x14 wr => ∃ (j t co : Nat) (A : Option Addr) (P : Nat → Bool), Hid (gk + j = np) ∧ Hid (j ≤ 60) ∧ x14 = .int .i64 (j : Int) ∧ x13 = .slice A t co ∧ Hid (StrI s n m t P) ∧ Hid (Str BAt w zp n g (num32 (f + (t : Nat))) (rowS s P t m) P A t co (s.take t) wr))
  case atStart => exact ⟨0, 0, 0, none, _, Lib.hid (by omega), Lib.hid (Nat.zero_le _), rfl, rfl, HI, HS⟩
  case round =>
    obtain ⟨j, t, co, A, P, hgk, hj60, rfl, rfl, HI, HS⟩ := hrel
    obtain rfl : gk = np - j := by have := hgk.out; omega
    clear hgk
    by_cases hjn : j < np ∧ j < 60
    · obtain ⟨b, pp, fr, lg, tk, hidx, hbl, hc0, hc1, hc2, hfr, hlg⟩ := Hpc.out.index (c := cp) hjn.1
      have HC := Lib.hid (fun W (hW : Below w.heap.size w W) => And.intro ((hW.cell (p := ⟨b, pp, none⟩) hbl).trans hc0) (And.intro ((hW.cell (p := ⟨b, pp + 1, none⟩) hbl).trans hc1) ((hW.cell (p := ⟨b, pp + 2, none⟩) hbl).trans hc2)))
      have i0 : (0 : Int) ≤ (j : Int) := by omega
      have i1 : (j : Int) < (np : Int) := by omega
      have i2 : (j : Int) < 60 := by omega
      clear hc0 hc1 hc2
      by_cases hn0 : n = 0
      · have g1 : ¬ 0 < n := by omega
        have g2 : ¬ (0 : Int) < (n : Int) := by omega
        clear hn0
        -- a Take, perhaps
        obtain ⟨hp0, hp1, hp2⟩ := HC.out _ HS.out.at18.base
        cases tk with
        | false =>
          clear hp0 hp1
          -- what is told behind a step
          obtain ⟨t1, et1⟩ : ∃ x, m - t = x := ⟨_, rfl⟩
          obtain ⟨hd, hhd, Hh⟩ := HS.out.held_ HF.out
          have Hroom := Lib.hid (fun W (h : Str BAt w zp n g (num32 (f + (t : Nat))) (rowS s P t m) P A t co (s.take t) W) => h.room_ HF.out t1 ((rowS_len s P t m).trans et1))
          have Hheld := Lib.hid (fun W (h : Str BAt w zp n g (num32 (f + (t : Nat))) (rowS s P t m) P A t co (s.take t) W) => h.held_ HF.out)
          have z1 := w32 t (Nat.le_trans HI.out.tn (Nat.le_trans Hn.out (by decide)))
          have z2 : IntKind.u32.wrap (f + (t : Int)) = num32 (f + (t : Nat)) := wrap_num32 _
          have z3 : wrap64 ((m : Int) - (t : Int)) = (t1 : Int) := by rw [wsub m t HI.out.tm Hm.out, et1]
          clear hd hhd Hh
          go_wp2_with fail
          refine (HS.out.next_ HF.out).mono ?_
          rintro e wn ⟨rfl, hs⟩
          have HSn := Lib.hid hs
          clear hs
          go_wp2_with fail
          refine (Hroom.out _ HSn.out).mono ?_
          rintro e wo ⟨rfl, hs⟩
          have HSo := Lib.hid hs
          clear hs z1 z2
          obtain ⟨hd, hhd, hh⟩ := Hheld.out _ HSo.out
          obtain ⟨hhd1, hhd2⟩ := two16 hd hhd
          go_wp2_with fail
          refine hh.mono ?_
          rintro e wq ⟨Aq, cq, rfl, hs⟩
          have HSq := Lib.hid hs
          clear hs hh z3
          go_wp2_with fail
          go_roundg (np - (j + 1))
          case measure => omega
          case rel => exact ⟨j + 1, t, co, A, P, Lib.hid (by omega), Lib.hid (by omega), by go_num, rfl, HI, HSq⟩
        | true =>
          obtain ⟨r, hr, htk, hlf, hI2, happ, hlr, -⟩ := str_take HI.out
          have Htk := Lib.hid (HS.out.take_ HF.out (num32 (f + ((t + r : Nat) : Int))) _ _ htk hlf (by rw [hr, num_num]; congr 1; omega))
          have HI3 := Lib.hid hI2
          have Happ := Lib.hid happ
          have Hlr := Lib.hid hlr
          clear hr htk hlf hI2 happ hlr hp0 hp1
          go_wp2_with fail
          refine Htk.out.mono ?_
          rintro e w6 ⟨Az, nz, cz, rfl, hnz, ho, hs⟩
          have hrd : Rd w6 Az nz ((s.drop t).take r) := OwnB.rd ho (fun x hx => Hsr.out.rd.byte x (List.mem_of_mem_drop (List.mem_of_mem_take hx)))
          have hnr : nz = r := by rw [← hnz]; exact Hlr.out
          have hle : t + nz ≤ 140737488355328 := by have := HI3.out.tn; have := Hn.out; omega
          obtain ⟨A6, c6, w7, hrun, hs7⟩ := Str.app (cz := cz) HF.out hs hrd hle 32
          clear hrd hle hnz ho
          subst hnr
          rw [Happ.out] at hs7
          have HS7 := Lib.hid hs7
          have Hrun := Lib.hid hrun
          clear hs hs7 hrun Htk hp2
          go_wp2_with (at_builtin; refine wpList_appX rfl (.tmp 127) (.tmp 129) _ _ rfl rfl _ _ _ w7 rfl rfl Hrun.out ?_)
          obtain ⟨tr, etr⟩ : ∃ x, t + nz = x := ⟨_, rfl⟩
          rw [etr] at HS7 HI3 ⊢
          -- what is told behind a step
          obtain ⟨t1, et1⟩ : ∃ x, m - tr = x := ⟨_, rfl⟩
          obtain ⟨hd, hhd, Hh⟩ := HS7.out.held_ HF.out
          have Hroom := Lib.hid (fun W (h : Str BAt w zp n g (num32 (f + (tr : Nat))) (rowS s P tr m) P A6 tr c6 (s.take tr) W) => h.room_ HF.out t1 ((rowS_len s P tr m).trans et1))
          have Hheld := Lib.hid (fun W (h : Str BAt w zp n g (num32 (f + (tr : Nat))) (rowS s P tr m) P A6 tr c6 (s.take tr) W) => h.held_ HF.out)
          have z1 := w32 tr (Nat.le_trans HI3.out.tn (Nat.le_trans Hn.out (by decide)))
          have z2 : IntKind.u32.wrap (f + (tr : Int)) = num32 (f + (tr : Nat)) := wrap_num32 _
          have z3 : wrap64 ((m : Int) - (tr : Int)) = (t1 : Int) := by rw [wsub m tr HI3.out.tm Hm.out, et1]
          clear hd hhd Hh
          go_wp2_with fail
          refine (HS7.out.next_ HF.out).mono ?_
          rintro e wn ⟨rfl, hs⟩
          have HSn := Lib.hid hs
          clear hs
          go_wp2_with fail
          refine (Hroom.out _ HSn.out).mono ?_
          rintro e wo ⟨rfl, hs⟩
          have HSo := Lib.hid hs
          clear hs z1 z2
          obtain ⟨hd, hhd, hh⟩ := Hheld.out _ HSo.out
          obtain ⟨hhd1, hhd2⟩ := two16 hd hhd
          go_wp2_with fail
          refine hh.mono ?_
          rintro e wq ⟨Aq, cq, rfl, hs⟩
          have HSq := Lib.hid hs
          clear hs hh z3
          go_wp2_with fail
          go_roundg (np - (j + 1))
          case measure => omega
          case rel => exact ⟨j + 1, tr, c6, A6, P, Lib.hid (by omega), Lib.hid (by omega), by go_num, rfl, HI3, HSq⟩
      · have g1 : 0 < n := Nat.pos_of_ne_zero hn0
        have g2 : (0 : Int) < (n : Int) := by omega
        have g5 : ¬ (n : Int) = 0 := by omega
        obtain ⟨a, b2, lg', ha, hab, hbn, p1, p2, p3, p4⟩ := piece_is fr lg n g1 Hn.out hfr hlg
        obtain ⟨nd, end_, hnd⟩ : ∃ x, b2 - a = x ∧ x ≤ 100000 := ⟨_, rfl, Nat.le_trans (Nat.sub_le _ _) (Nat.le_trans hbn (Nat.le_trans Hn.out (by decide)))⟩
        obtain ⟨Ad, hsl, hrd⟩ := Hsr.out.part a b2 hab hbn
        rw [end_] at hsl hrd
        obtain ⟨hi, ehi⟩ : ∃ y, max a (min b2 m) = y := ⟨_, rfl⟩
        obtain ⟨L', k, x, e1, e2, e3, hcase⟩ := str_put HI.out a b2 hab hbn _ rfl hi ehi.symm
        have Hhi := Lib.hid ehi
        have HP := Lib.hid (HS.out.put_ HF.out (num32 (f + (a : Nat))) Ad nd (c0 - a) _ ((a : Int) - (t : Nat)) L' k x (num_bd _) hrd hnd (diff_two f a t (Nat.lt_of_lt_of_le ha (Nat.le_trans Hn.out (by decide))) (Nat.lt_of_le_of_lt HI.out.tn (Nat.lt_of_le_of_lt Hn.out (by decide)))) e1 e2 e3)
        have z4 := w32 a (Nat.le_trans (Nat.le_of_lt ha) (Nat.le_trans Hn.out (by decide)))
        have z5 : IntKind.u32.wrap (f + (a : Int)) = num32 (f + (a : Nat)) := wrap_num32 _
        have g3 := u16_w fr hfr
        have g4 := u16_w lg hlg
        have Hab := Lib.hid (And.intro hab hbn)
        obtain ⟨hp0, hp1, hp2⟩ := HC.out _ HS.out.at18.base
        clear e1 e2 e3 ehi hfr hlg hn0 end_ hrd
        rcases hcase with ⟨rfl, rfl, rfl⟩ | ⟨rfl, rfl, hcnt⟩
        · have HP := Lib.hid (show Calls Try.prog _ _ _ (StrDo BAt w zp n g _ _ P A t co _ (.tuple #[.int .i64 0, .int .i64 7])) from HP.out)
          go_wp2_with fail
          refine HP.out.mono ?_
          rintro e w5 ⟨rfl, hs⟩
          have HS5 := Lib.hid hs
          clear hs z4 z5 g3 g4 p1 p2 p3 p4 hp0 hp1 hp2
          go_wp2_with fail
          go_roundg (np - (j + 1))
          case measure => omega
          case rel => exact ⟨j + 1, t, co, A, P, Lib.hid (by omega), Lib.hid (by omega), by go_num, rfl, HI, HS5⟩
        · have Hcnt := Lib.hid hcnt
          clear hcnt
          go_wp2_with fail
          refine HP.out.mono ?_
          rintro e w5 ⟨rfl, hs⟩
          have HS5 := Lib.hid hs
          clear hs z4 z5 g3 g4 p1 p2 p3 p4 hp0 hp1 hp2 HP
          go_wp2_with fail
          go_loopg [19, 20] (b2 - a) (fun gi x19 x20 wi => ∃ (kk fc : Nat), Hid (gi + kk = b2) ∧ Hid (a ≤ kk ∧ kk ≤ hi) ∧ x20 = .int .i64 (kk : Int) ∧ x19 = .int .i64 (fc : Int) ∧ Hid (fc + cntB P m = cntB (addP P a kk) m) ∧ Hid (Str BAt w zp n g (num32 (f + (t : Nat))) (rowS s (addP P a hi) t m) (addP P a kk) A t co (s.take t) wi))
          case atStart => exact ⟨a, 0, Lib.hid (by omega), Lib.hid ⟨Nat.le_refl _, by have := Hhi.out; omega⟩, rfl, rfl, Lib.hid (by rw [addP_same P a a (Nat.le_refl _), Nat.zero_add]), Lib.hid (by rw [addP_same P a a (Nat.le_refl _)]; exact HS5.out)⟩
          case round =>
            obtain ⟨kk, fc, hgi, hkk, rfl, rfl, hfc, HSi⟩ := hrel
            obtain rfl : gk = b2 - kk := by have := hgi.out; omega
            have hk2 : kk ≤ b2 := by have := hgi.out; omega
            clear hgi
            by_cases hkm : kk < b2 ∧ kk < m
            · obtain ⟨hx1, hx2⟩ := hkm
              have y1 : (kk : Int) < (b2 : Int) := by omega
              have y2 : (kk : Int) < (m : Int) := by omega
              have y3 : (0 : Int) ≤ (kk : Int) := by omega
              have y4 : kk < n := Nat.lt_of_lt_of_le hx1 Hab.out.2
              have y5 : (kk : Int) < 1000 := by have := Hm.out; omega
              have y6 : (fc : Int) < 1000 := by have := cnt_le (addP P a kk) m; have := Hm.out; have := hfc.out; omega
              obtain ⟨ix, cv, fz⟩ := HSi.out.put.index y4
              have hcs := cnt_step P a kk m hkk.out.1 hx2
              have hat := addP_at P a kk
              have HS9 := Lib.hid (show Str BAt w zp n g (num32 (f + (t : Nat))) (rowS s (addP P a hi) t m) (addP P a (kk + 1)) A t co (s.take t) (wr.setCell ⟨zp, kk, none⟩ (.bool true)) by rw [← addP_step P a kk hkk.out.1]; exact HSi.out.set_ HF.out y4)
              cases hq : P kk with
              | true =>
                rw [hat, hq] at cv
                rw [hq, if_pos rfl] at hcs
                have Hcs := Lib.hid hcs
                clear hcs hat hq
                go_wp2_with fail
                go_roundg (b2 - (kk + 1))
                case measure => omega
                case rel => exact ⟨kk + 1, fc, Lib.hid (by omega), Lib.hid ⟨by have := hkk.out; omega, by have := Hhi.out; omega⟩, by go_num, rfl, Lib.hid (by have := Hcs.out; have := hfc.out; omega), HS9⟩
              | false =>
                rw [hat, hq] at cv
                rw [hq, if_neg (by simp)] at hcs
                have Hcs := Lib.hid hcs
                clear hcs hat hq
                go_wp2_with fail
                go_roundg (b2 - (kk + 1))
                case measure => omega
                case rel => exact ⟨kk + 1, fc + 1, Lib.hid (by omega), Lib.hid ⟨by have := hkk.out; omega, by have := Hhi.out; omega⟩, by go_num, by go_num, Lib.hid (by have := Hcs.out; have := hfc.out; omega), HS9⟩
            · obtain rfl : kk = hi := by have := Hhi.out; have := hkk.out; have := Hab.out; omega
              obtain rfl : k = fc := by have := Hcnt.out; have := hfc.out; omega
              have HI2 := Lib.hid (HI.out.add (a := a) (b := kk) (by have := Hhi.out; have := Hab.out; omega) (by have := Hhi.out; omega))
              obtain ⟨PQ, ePQ⟩ : ∃ Q, addP P a kk = Q := ⟨_, rfl⟩
              rw [ePQ] at HSi HI2
              by_cases hx : kk < b2
              · have y1 : (kk : Int) < (b2 : Int) := by omega
                have y2 : ¬ (kk : Int) < (m : Int) := by omega
                clear hkm ePQ Hcnt hfc hkk
                -- a Take, perhaps
                obtain ⟨hp0, hp1, hp2⟩ := HC.out _ HSi.out.at18.base
                cases tk with
                | false =>
                  clear hp0 hp1
                  -- what is told behind a step
                  obtain ⟨t1, et1⟩ : ∃ x, m - t = x := ⟨_, rfl⟩
                  obtain ⟨hd, hhd, Hh⟩ := HSi.out.held_ HF.out
                  have Hroom := Lib.hid (fun W (h : Str BAt w zp n g (num32 (f + (t : Nat))) (rowS s PQ t m) PQ A t co (s.take t) W) => h.room_ HF.out t1 ((rowS_len s PQ t m).trans et1))
                  have Hheld := Lib.hid (fun W (h : Str BAt w zp n g (num32 (f + (t : Nat))) (rowS s PQ t m) PQ A t co (s.take t) W) => h.held_ HF.out)
                  have z1 := w32 t (Nat.le_trans HI2.out.tn (Nat.le_trans Hn.out (by decide)))
                  have z2 : IntKind.u32.wrap (f + (t : Int)) = num32 (f + (t : Nat)) := wrap_num32 _
                  have z3 : wrap64 ((m : Int) - (t : Int)) = (t1 : Int) := by rw [wsub m t HI2.out.tm Hm.out, et1]
                  clear hd hhd Hh
                  go_wp2_with fail
                  refine (HSi.out.next_ HF.out).mono ?_
                  rintro e wn ⟨rfl, hs⟩
                  have HSn := Lib.hid hs
                  clear hs
                  go_wp2_with fail
                  refine (Hroom.out _ HSn.out).mono ?_
                  rintro e wo ⟨rfl, hs⟩
                  have HSo := Lib.hid hs
                  clear hs z1 z2
                  obtain ⟨hd, hhd, hh⟩ := Hheld.out _ HSo.out
                  obtain ⟨hhd1, hhd2⟩ := two16 hd hhd
                  go_wp2_with fail
                  refine hh.mono ?_
                  rintro e wq ⟨Aq, cq, rfl, hs⟩
                  have HSq := Lib.hid hs
                  clear hs hh z3
                  go_wp2_with fail
                  go_roundg (np - (j + 1))
                  case measure => omega
                  case rel => exact ⟨j + 1, t, co, A, PQ, Lib.hid (by omega), Lib.hid (by omega), by go_num, rfl, HI2, HSq⟩
                | true =>
                  obtain ⟨r, hr, htk, hlf, hI2, happ, hlr, -⟩ := str_take HI2.out
                  have Htk := Lib.hid (HSi.out.take_ HF.out (num32 (f + ((t + r : Nat) : Int))) _ _ htk hlf (by rw [hr, num_num]; congr 1; omega))
                  have HI3 := Lib.hid hI2
                  have Happ := Lib.hid happ
                  have Hlr := Lib.hid hlr
                  clear hr htk hlf hI2 happ hlr hp0 hp1
                  go_wp2_with fail
                  refine Htk.out.mono ?_
                  rintro e w6 ⟨Az, nz, cz, rfl, hnz, ho, hs⟩
                  have hrd : Rd w6 Az nz ((s.drop t).take r) := OwnB.rd ho (fun x hx => Hsr.out.rd.byte x (List.mem_of_mem_drop (List.mem_of_mem_take hx)))
                  have hnr : nz = r := by rw [← hnz]; exact Hlr.out
                  have hle : t + nz ≤ 140737488355328 := by have := HI3.out.tn; have := Hn.out; omega
                  obtain ⟨A6, c6, w7, hrun, hs7⟩ := Str.app (cz := cz) HF.out hs hrd hle 32
                  clear hrd hle hnz ho
                  subst hnr
                  rw [Happ.out] at hs7
                  have HS7 := Lib.hid hs7
                  have Hrun := Lib.hid hrun
                  clear hs hs7 hrun Htk hp2
                  go_wp2_with (at_builtin; refine wpList_appX rfl (.tmp 127) (.tmp 129) _ _ rfl rfl _ _ _ w7 rfl rfl Hrun.out ?_)
                  obtain ⟨tr, etr⟩ : ∃ x, t + nz = x := ⟨_, rfl⟩
                  rw [etr] at HS7 HI3 ⊢
                  -- what is told behind a step
                  obtain ⟨t1, et1⟩ : ∃ x, m - tr = x := ⟨_, rfl⟩
                  obtain ⟨hd, hhd, Hh⟩ := HS7.out.held_ HF.out
                  have Hroom := Lib.hid (fun W (h : Str BAt w zp n g (num32 (f + (tr : Nat))) (rowS s PQ tr m) PQ A6 tr c6 (s.take tr) W) => h.room_ HF.out t1 ((rowS_len s PQ tr m).trans et1))
                  have Hheld := Lib.hid (fun W (h : Str BAt w zp n g (num32 (f + (tr : Nat))) (rowS s PQ tr m) PQ A6 tr c6 (s.take tr) W) => h.held_ HF.out)
                  have z1 := w32 tr (Nat.le_trans HI3.out.tn (Nat.le_trans Hn.out (by decide)))
                  have z2 : IntKind.u32.wrap (f + (tr : Int)) = num32 (f + (tr : Nat)) := wrap_num32 _
                  have z3 : wrap64 ((m : Int) - (tr : Int)) = (t1 : Int) := by rw [wsub m tr HI3.out.tm Hm.out, et1]
                  clear hd hhd Hh
                  go_wp2_with fail
                  refine (HS7.out.next_ HF.out).mono ?_
                  rintro e wn ⟨rfl, hs⟩
                  have HSn := Lib.hid hs
                  clear hs
                  go_wp2_with fail
                  refine (Hroom.out _ HSn.out).mono ?_
                  rintro e wo ⟨rfl, hs⟩
                  have HSo := Lib.hid hs
                  clear hs z1 z2
                  obtain ⟨hd, hhd, hh⟩ := Hheld.out _ HSo.out
                  obtain ⟨hhd1, hhd2⟩ := two16 hd hhd
                  go_wp2_with fail
                  refine hh.mono ?_
                  rintro e wq ⟨Aq, cq, rfl, hs⟩
                  have HSq := Lib.hid hs
                  clear hs hh z3
                  go_wp2_with fail
                  go_roundg (np - (j + 1))
                  case measure => omega
                  case rel => exact ⟨j + 1, tr, c6, A6, PQ, Lib.hid (by omega), Lib.hid (by omega), by go_num, rfl, HI3, HSq⟩
              · have y1 : ¬ (kk : Int) < (b2 : Int) := by omega
                clear hkm ePQ Hcnt hfc hkk
                -- a Take, perhaps
                obtain ⟨hp0, hp1, hp2⟩ := HC.out _ HSi.out.at18.base
                cases tk with
                | false =>
                  clear hp0 hp1
                  -- what is told behind a step
                  obtain ⟨t1, et1⟩ : ∃ x, m - t = x := ⟨_, rfl⟩
                  obtain ⟨hd, hhd, Hh⟩ := HSi.out.held_ HF.out
                  have Hroom := Lib.hid (fun W (h : Str BAt w zp n g (num32 (f + (t : Nat))) (rowS s PQ t m) PQ A t co (s.take t) W) => h.room_ HF.out t1 ((rowS_len s PQ t m).trans et1))
                  have Hheld := Lib.hid (fun W (h : Str BAt w zp n g (num32 (f + (t : Nat))) (rowS s PQ t m) PQ A t co (s.take t) W) => h.held_ HF.out)
                  have z1 := w32 t (Nat.le_trans HI2.out.tn (Nat.le_trans Hn.out (by decide)))
                  have z2 : IntKind.u32.wrap (f + (t : Int)) = num32 (f + (t : Nat)) := wrap_num32 _
                  have z3 : wrap64 ((m : Int) - (t : Int)) = (t1 : Int) := by rw [wsub m t HI2.out.tm Hm.out, et1]
                  clear hd hhd Hh
                  go_wp2_with fail
                  refine (HSi.out.next_ HF.out).mono ?_
                  rintro e wn ⟨rfl, hs⟩
                  have HSn := Lib.hid hs
                  clear hs
                  go_wp2_with fail
                  refine (Hroom.out _ HSn.out).mono ?_
                  rintro e wo ⟨rfl, hs⟩
                  have HSo := Lib.hid hs
                  clear hs z1 z2
                  obtain ⟨hd, hhd, hh⟩ := Hheld.out _ HSo.out
                  obtain ⟨hhd1, hhd2⟩ := two16 hd hhd
                  go_wp2_with fail
                  refine hh.mono ?_
                  rintro e wq ⟨Aq, cq, rfl, hs⟩
                  have HSq := Lib.hid hs
                  clear hs hh z3
                  go_wp2_with fail
                  go_roundg (np - (j + 1))
                  case measure => omega
                  case rel => exact ⟨j + 1, t, co, A, PQ, Lib.hid (by omega), Lib.hid (by omega), by go_num, rfl, HI2, HSq⟩
                | true =>
                  obtain ⟨r, hr, htk, hlf, hI2, happ, hlr, -⟩ := str_take HI2.out
                  have Htk := Lib.hid (HSi.out.take_ HF.out (num32 (f + ((t + r : Nat) : Int))) _ _ htk hlf (by rw [hr, num_num]; congr 1; omega))
                  have HI3 := Lib.hid hI2
                  have Happ := Lib.hid happ
                  have Hlr := Lib.hid hlr
                  clear hr htk hlf hI2 happ hlr hp0 hp1
                  go_wp2_with fail
                  refine Htk.out.mono ?_
                  rintro e w6 ⟨Az, nz, cz, rfl, hnz, ho, hs⟩
                  have hrd : Rd w6 Az nz ((s.drop t).take r) := OwnB.rd ho (fun x hx => Hsr.out.rd.byte x (List.mem_of_mem_drop (List.mem_of_mem_take hx)))
                  have hnr : nz = r := by rw [← hnz]; exact Hlr.out
                  have hle : t + nz ≤ 140737488355328 := by have := HI3.out.tn; have := Hn.out; omega
                  obtain ⟨A6, c6, w7, hrun, hs7⟩ := Str.app (cz := cz) HF.out hs hrd hle 32
                  clear hrd hle hnz ho
                  subst hnr
                  rw [Happ.out] at hs7
                  have HS7 := Lib.hid hs7
                  have Hrun := Lib.hid hrun
                  clear hs hs7 hrun Htk hp2
                  go_wp2_with (at_builtin; refine wpList_appX rfl (.tmp 127) (.tmp 129) _ _ rfl rfl _ _ _ w7 rfl rfl Hrun.out ?_)
                  obtain ⟨tr, etr⟩ : ∃ x, t + nz = x := ⟨_, rfl⟩
                  rw [etr] at HS7 HI3 ⊢
                  -- what is told behind a step
                  obtain ⟨t1, et1⟩ : ∃ x, m - tr = x := ⟨_, rfl⟩
                  obtain ⟨hd, hhd, Hh⟩ := HS7.out.held_ HF.out
                  have Hroom := Lib.hid (fun W (h : Str BAt w zp n g (num32 (f + (tr : Nat))) (rowS s PQ tr m) PQ A6 tr c6 (s.take tr) W) => h.room_ HF.out t1 ((rowS_len s PQ tr m).trans et1))
                  have Hheld := Lib.hid (fun W (h : Str BAt w zp n g (num32 (f + (tr : Nat))) (rowS s PQ tr m) PQ A6 tr c6 (s.take tr) W) => h.held_ HF.out)
                  have z1 := w32 tr (Nat.le_trans HI3.out.tn (Nat.le_trans Hn.out (by decide)))
                  have z2 : IntKind.u32.wrap (f + (tr : Int)) = num32 (f + (tr : Nat)) := wrap_num32 _
                  have z3 : wrap64 ((m : Int) - (tr : Int)) = (t1 : Int) := by rw [wsub m tr HI3.out.tm Hm.out, et1]
                  clear hd hhd Hh
                  go_wp2_with fail
                  refine (HS7.out.next_ HF.out).mono ?_
                  rintro e wn ⟨rfl, hs⟩
                  have HSn := Lib.hid hs
                  clear hs
                  go_wp2_with fail
                  refine (Hroom.out _ HSn.out).mono ?_
                  rintro e wo ⟨rfl, hs⟩
                  have HSo := Lib.hid hs
                  clear hs z1 z2
                  obtain ⟨hd, hhd, hh⟩ := Hheld.out _ HSo.out
                  obtain ⟨hhd1, hhd2⟩ := two16 hd hhd
                  go_wp2_with fail
                  refine hh.mono ?_
                  rintro e wq ⟨Aq, cq, rfl, hs⟩
                  have HSq := Lib.hid hs
                  clear hs hh z3
                  go_wp2_with fail
                  go_roundg (np - (j + 1))
                  case measure => omega
                  case rel => exact ⟨j + 1, tr, c6, A6, PQ, Lib.hid (by omega), Lib.hid (by omega), by go_num, rfl, HI3, HSq⟩
    · clear Hpc hnp
      obtain ⟨r, hr, htk, hlf, hI2, happ, hlr, hstop⟩ := str_take HI.out
      have Hrd := Lib.hid (HS.out.ready_ HF.out r hr)
      have Htk := Lib.hid (fun W (h : Str BAt w zp n g (num32 (f + (t : Nat))) (rowS s P t m) P A t co (s.take t) W) => h.take_ HF.out (num32 (f + ((t + r : Nat) : Int))) _ _ htk hlf (by rw [hr, num_num]; congr 1; omega))
      have HI3 := Lib.hid hI2
      have Happ := Lib.hid happ
      have Hlr := Lib.hid hlr
      have Hstop := Lib.hid hstop
      clear hr htk hlf hI2 happ hlr hstop
      by_cases h1 : (j : Int) < (np : Int)
      · have h2 : ¬ (j : Int) < 60 := by omega
        clear hjn
        go_wp2_with fail
        refine Hrd.out.mono ?_
        rintro e w5 ⟨rfl, hs⟩
        have HS5 := Lib.hid hs
        clear hs
        go_wp2_with fail
        refine (Htk.out _ HS5.out).mono ?_
        rintro e w6 ⟨Az, nz, cz, rfl, hnz, ho, hs⟩
        have hrd : Rd w6 Az nz ((s.drop t).take r) := OwnB.rd ho (fun x hx => Hsr.out.rd.byte x (List.mem_of_mem_drop (List.mem_of_mem_take hx)))
        have hnr : nz = r := by rw [← hnz]; exact Hlr.out
        have hle : t + nz ≤ 140737488355328 := by have := HI3.out.tn; have := Hn.out; omega
        obtain ⟨A6, c6, w7, hrun, hs7⟩ := Str.app (cz := cz) HF.out hs hrd hle 32
        clear hrd hle hnz ho
        subst hnr
        rw [Happ.out] at hs7
        have HS7 := Lib.hid hs7
        have Hrun := Lib.hid hrun
        clear hs hs7 hrun Htk Hrd
        go_wp2_with (at_builtin; refine wpList_appX rfl (.tmp 158) (.tmp 159) _ _ rfl rfl _ _ _ w7 rfl rfl Hrun.out ?_)
        obtain ⟨tr, etr⟩ : ∃ x, t + nz = x := ⟨_, rfl⟩
        rw [etr] at HS7 HI3 Hstop ⊢
        go_loopg [23] tr (fun gi x23 wi => ∃ x : Nat, Hid (gi + x = tr) ∧ x23 = .int .i64 (x : Int) ∧ wi = w7)
        case atStart => exact ⟨0, Lib.hid (by omega), rfl, rfl⟩
        case round =>
          obtain ⟨x, hgi, rfl, rfl⟩ := hrel
          obtain rfl : gk = tr - x := by have := hgi.out; omega
          have hx : x ≤ tr := by have := hgi.out; omega
          clear hgi
          have htn := HI3.out.tn
          have y3 : (0 : Int) ≤ (x : Int) := by omega
          by_cases hxt : x < tr
          · have y1 : (x : Int) < (n : Int) := by omega
            have y5 : (x : Int) < 1000 := by have := Hn.out; omega
            obtain ⟨ix, cv, fz⟩ := HS7.out.put.index (p := x) (by omega)
            rw [HI3.out.all x hxt] at cv
            go_wp2_with fail
            go_roundg (tr - (x + 1))
            case measure => omega
            case rel => exact ⟨x + 1, Lib.hid (by omega), by go_num, rfl⟩
          · obtain rfl : x = tr := by omega
            by_cases hxn : x < n
            · have y1 : (x : Int) < (n : Int) := by omega
              obtain ⟨ix, cv, fz⟩ := HS7.out.put.index (p := x) hxn
              rw [Hstop.out x rfl] at cv
              go_wp2_with fail
              clear ix cv fz hxt hx
              obtain ⟨hsu, hru⟩ := Hsr.out.upto x htn
              have Hru := Lib.hid hru
              obtain ⟨sx, esx⟩ : ∃ y, strOfNums (s.take x) = y := ⟨_, rfl⟩
              have HSS := Lib.hid (show ∀ (W : World) (Y : Int × BL × (Nat → Bool)), Str BAt w zp n g Y.1 Y.2.1 Y.2.2 A6 x c6 (s.take x) W → (convert 32 9 (.slice A6 x c6)).run Try.prog W = .ok (.string sx) W ∧ (convert 32 9 (.slice A0 x c0)).run Try.prog W = .ok (.string sx) W from fun W Y hS => by
                rw [← esx]
                exact ⟨conv_rd (OwnB.rd hS.out Hru.out.rd.byte) c6, conv_rd (Hru.out.rd.below hS.at18.base) c0⟩)
              obtain ⟨hr2, ht2⟩ := str_rest HI3.out (Hstop.out x rfl)
              have Hrd2 := Lib.hid (fun W (h : Str BAt w zp n g (num32 (f + (x : Nat))) (rowS s P x m) P A6 x c6 (s.take x) W) => h.ready_ HF.out 0 hr2)
              have Htk2 := Lib.hid (fun W (h : Str BAt w zp n g (num32 (f + (x : Nat))) (rowS s P x m) P A6 x c6 (s.take x) W) => h.take_ HF.out _ _ [] ht2 rfl rfl)
              clear hr2 ht2 esx hru
              have hq1 := str_eql sx
              go_upto_region 37 with (fail)
              refine wp_region_held_drew (S := fun w' => (convert 32 9 (.slice A6 x c6)).run Try.prog w' = .ok (.string sx) w' ∧ (convert 32 9 (.slice A0 x c0)).run Try.prog w' = .ok (.string sx) w') (by kernel_rfl) (HSS.out wr.drew (_, _, _) (HS7.out.below HF.out (Below.refl _ _).drew)) (fun hHeld => ?_)
              obtain ⟨w8, ew8⟩ : ∃ v, wr.drew = v := ⟨_, rfl⟩
              have HS8 := Lib.hid (show Str BAt w zp n g _ _ P A6 x c6 _ w8 by rw [← ew8]; exact HS7.out.below HF.out (Below.refl _ _).drew)
              rw [ew8] at hHeld ⊢
              clear ew8
              refine tk 0 ?_ rfl ?_ ?_
              rotate_left
              · intro w' hSw; (go_simp <;> (with_reducible rfl))
              try simp only [Act.put, putL]
              refine tk 1 ?_ rfl ?_ ?_
              rotate_left
              · intro w' hSw; (go_simp <;> (with_reducible rfl))
              try simp only [Act.put, putL]
              refine tk 2 ?_ rfl ?_ ?_
              rotate_left
              · intro w' hSw; (go_simp <;> (with_reducible rfl))
              try simp only [Act.put, putL]
              refine tk 3 ?_ rfl ?_ ?_
              rotate_left
              · intro w' hSw; (go_simp <;> (with_reducible rfl))
              try simp only [Act.put, putL]
              refine tk 4 ?_ rfl ?_ ?_
              rotate_left
              · intro w' hSw; (go_simp <;> (with_reducible rfl))
              try simp only [Act.put, putL]
              refine tk 5 ?_ rfl ?_ ?_
              rotate_left
              · intro w' hSw; (go_simp <;> (with_reducible rfl))
              try simp only [Act.put, putL]
              refine tk 6 ?_ rfl ?_ ?_
              rotate_left
              · intro w' hSw; (go_simp <;> (with_reducible rfl))
              try simp only [Act.put, putL]
              refine tk 7 ?_ rfl ?_ ?_
              rotate_left
              · intro w' hSw; (go_simp <;> (with_reducible rfl))
              try simp only [Act.put, putL]
              refine tk 8 ?_ rfl ?_ ?_
              rotate_left
              · intro w' hSw; (go_simp <;> (with_reducible rfl))
              try simp only [Act.put, putL]
              refine tk 9 ?_ rfl ?_ ?_
              rotate_left
              · intro w' hSw; (go_simp <;> (with_reducible rfl))
              try simp only [Act.put, putL]
              refine tk 10 ?_ rfl ?_ ?_
              rotate_left
              · intro w' hSw; (go_simp <;> (with_reducible rfl))
              try simp only [Act.put, putL]
              refine tk 11 ?_ rfl ?_ ?_
              rotate_left
              · intro w' hSw; (go_simp <;> (with_reducible rfl))
              try simp only [Act.put, putL]
              refine tk 12 (.string sx) rfl ?_ ?_
              · intro w' hSw; have hcv := hSw.1; (go_simp <;> (with_reducible rfl))
              try simp only [Act.put, putL]
              refine tk 13 ?_ rfl ?_ ?_
              rotate_left
              · intro w' hSw; (go_simp <;> (with_reducible rfl))
              try simp only [Act.put, putL]
              refine tk 14 ?_ rfl ?_ ?_
              rotate_left
              · intro w' hSw; (go_simp <;> (with_reducible rfl))
              try simp only [Act.put, putL]
              refine tk 15 ?_ rfl ?_ ?_
              rotate_left
              · intro w' hSw; (go_simp <;> (with_reducible rfl))
              try simp only [Act.put, putL]
              refine tk 16 (.string sx) rfl ?_ ?_
              · intro w' hSw; have hcv := hSw.2; (go_simp <;> (with_reducible rfl))
              try simp only [Act.put, putL]
              refine tk 17 ?_ rfl ?_ ?_
              rotate_left
              · intro w' hSw; (go_simp <;> (with_reducible rfl))
              try simp only [Act.put, putL]
              refine tk 18 ?_ rfl ?_ ?_
              rotate_left
              · intro w' hSw; (go_simp <;> (with_reducible rfl))
              try simp only [Act.put, putL]
              refine tk 19 ?_ rfl ?_ ?_
              rotate_left
              · intro w' hSw; (go_simp <;> (with_reducible rfl))
              try simp only [Act.put, putL]
              refine tk 20 ?_ rfl ?_ ?_
              rotate_left
              · intro w' hSw; (go_simp <;> (with_reducible rfl))
              try simp only [Act.put, putL]
              refine tkC 21 rfl (fun K hK => ?_)
              go_simp
              (refine (Hrd2.out _ HS8.out).mono ?_; rintro e w9 ⟨rfl, hs⟩; have HS9 := Lib.hid hs; clear hs)
              refine hK.out _ _ ?_ (fun hHeld => ?_)
              · exact HSS.out _ (_, _, _) HS9.out
              clear hK K
              try simp only [Act.put, putL]
              refine tk 22 ?_ rfl ?_ ?_
              rotate_left
              · intro w' hSw; (go_simp <;> (with_reducible rfl))
              try simp only [Act.put, putL]
              refine tk 23 ?_ rfl ?_ ?_
              rotate_left
              · intro w' hSw; (go_simp <;> (with_reducible rfl))
              try simp only [Act.put, putL]
              refine tk 24 ?_ rfl ?_ ?_
              rotate_left
              · intro w' hSw; (go_simp <;> (with_reducible rfl))
              try simp only [Act.put, putL]
              refine tk 25 ?_ rfl ?_ ?_
              rotate_left
              · intro w' hSw; (go_simp <;> (with_reducible rfl))
              try simp only [Act.put, putL]
              refine tkC 26 rfl (fun K hK => ?_)
              go_simp
              (refine (Htk2.out _ HS9.out).mono ?_; rintro e wa ⟨Ab, nb, cb, rfl, hnb, -, hs⟩; have HSa := Lib.hid hs; clear hs; obtain rfl : 0 = nb := hnb)
              refine hK.out _ _ ?_ (fun hHeld => ?_)
              · exact HSS.out _ (_, _, _) HSa.out
              clear hK K
              try simp only [Act.put, putL]
              refine tk 27 ?_ rfl ?_ ?_
              rotate_left
              · intro w' hSw; (go_simp <;> (with_reducible rfl))
              try simp only [Act.put, putL]
              refine tk 28 ?_ rfl ?_ ?_
              rotate_left
              · intro w' hSw; (go_simp <;> (with_reducible rfl))
              try simp only [Act.put, putL]
              refine tk 29 ?_ rfl ?_ ?_
              rotate_left
              · intro w' hSw; (go_simp <;> (with_reducible rfl))
              try simp only [Act.put, putL]
              refine tk 30 ?_ rfl ?_ ?_
              rotate_left
              · intro w' hSw; (go_simp <;> (with_reducible rfl))
              try simp only [Act.put, putL]
              refine tkC 31 rfl (fun K hK => ?_)
              go_simp
              (refine (rmwake_any HF.out _).mono ?_; rintro e wb ⟨rfl, hbb⟩; have HSb := Lib.hid (HSa.out.below HF.out hbb); clear hbb)
              refine hK.out _ _ ?_ (fun hHeld => ?_)
              · exact HSS.out _ (_, _, _) HSb.out
              clear hK K
              try simp only [Act.put, putL]
              refine tk 32 ?_ rfl ?_ ?_
              rotate_left
              · intro w' hSw; (go_simp <;> (with_reducible rfl))
              try simp only [Act.put, putL]
              refine tk 33 ?_ rfl ?_ ?_
              rotate_left
              · intro w' hSw; (go_simp <;> (with_reducible rfl))
              try simp only [Act.put, putL]
              refine wpAnyH_done (by kernel_rfl) ?_ _
              clear hHeld
              go_wp2_with fail
              go_ret
              exact ⟨rfl, HSb.out.at18.base⟩
            · have y1 : ¬ (x : Int) < (n : Int) := by omega
              go_wp2_with fail
              clear hxt hx
              obtain ⟨hsu, hru⟩ := Hsr.out.upto x htn
              have Hru := Lib.hid hru
              obtain ⟨sx, esx⟩ : ∃ y, strOfNums (s.take x) = y := ⟨_, rfl⟩
              have HSS := Lib.hid (show ∀ (W : World) (Y : Int × BL × (Nat → Bool)), Str BAt w zp n g Y.1 Y.2.1 Y.2.2 A6 x c6 (s.take x) W → (convert 32 9 (.slice A6 x c6)).run Try.prog W = .ok (.string sx) W ∧ (convert 32 9 (.slice A0 x c0)).run Try.prog W = .ok (.string sx) W from fun W Y hS => by
                rw [← esx]
                exact ⟨conv_rd (OwnB.rd hS.out Hru.out.rd.byte) c6, conv_rd (Hru.out.rd.below hS.at18.base) c0⟩)
              obtain ⟨hr2, ht2⟩ := str_rest HI3.out (Hstop.out x rfl)
              have Hrd2 := Lib.hid (fun W (h : Str BAt w zp n g (num32 (f + (x : Nat))) (rowS s P x m) P A6 x c6 (s.take x) W) => h.ready_ HF.out 0 hr2)
              have Htk2 := Lib.hid (fun W (h : Str BAt w zp n g (num32 (f + (x : Nat))) (rowS s P x m) P A6 x c6 (s.take x) W) => h.take_ HF.out _ _ [] ht2 rfl rfl)
              clear hr2 ht2 esx hru
              have hq1 := str_eql sx
              go_upto_region 37 with (fail)
              refine wp_region_held_drew (S := fun w' => (convert 32 9 (.slice A6 x c6)).run Try.prog w' = .ok (.string sx) w' ∧ (convert 32 9 (.slice A0 x c0)).run Try.prog w' = .ok (.string sx) w') (by kernel_rfl) (HSS.out wr.drew (_, _, _) (HS7.out.below HF.out (Below.refl _ _).drew)) (fun hHeld => ?_)
              obtain ⟨w8, ew8⟩ : ∃ v, wr.drew = v := ⟨_, rfl⟩
              have HS8 := Lib.hid (show Str BAt w zp n g _ _ P A6 x c6 _ w8 by rw [← ew8]; exact HS7.out.below HF.out (Below.refl _ _).drew)
              rw [ew8] at hHeld ⊢
              clear ew8
              refine tk 0 ?_ rfl ?_ ?_
              rotate_left
              · intro w' hSw; (go_simp <;> (with_reducible rfl))
              try simp only [Act.put, putL]
              refine tk 1 ?_ rfl ?_ ?_
              rotate_left
              · intro w' hSw; (go_simp <;> (with_reducible rfl))
              try simp only [Act.put, putL]
              refine tk 2 ?_ rfl ?_ ?_
              rotate_left
              · intro w' hSw; (go_simp <;> (with_reducible rfl))
              try simp only [Act.put, putL]
              refine tk 3 ?_ rfl ?_ ?_
              rotate_left
              · intro w' hSw; (go_simp <;> (with_reducible rfl))
              try simp only [Act.put, putL]
              refine tk 4 ?_ rfl ?_ ?_
              rotate_left
              · intro w' hSw; (go_simp <;> (with_reducible rfl))
              try simp only [Act.put, putL]
              refine tk 5 ?_ rfl ?_ ?_
              rotate_left
              · intro w' hSw; (go_simp <;> (with_reducible rfl))
              try simp only [Act.put, putL]
              refine tk 6 ?_ rfl ?_ ?_
              rotate_left
              · intro w' hSw; (go_simp <;> (with_reducible rfl))
              try simp only [Act.put, putL]
              refine tk 7 ?_ rfl ?_ ?_
              rotate_left
              · intro w' hSw; (go_simp <;> (with_reducible rfl))
              try simp only [Act.put, putL]
              refine tk 8 ?_ rfl ?_ ?_
              rotate_left
              · intro w' hSw; (go_simp <;> (with_reducible rfl))
              try simp only [Act.put, putL]
              refine tk 9 ?_ rfl ?_ ?_
              rotate_left
              · intro w' hSw; (go_simp <;> (with_reducible rfl))
              try simp only [Act.put, putL]
              refine tk 10 ?_ rfl ?_ ?_
              rotate_left
              · intro w' hSw; (go_simp <;> (with_reducible rfl))
              try simp only [Act.put, putL]
              refine tk 11 ?_ rfl ?_ ?_
              rotate_left
              · intro w' hSw; (go_simp <;> (with_reducible rfl))
              try simp only [Act.put, putL]
              refine tk 12 (.string sx) rfl ?_ ?_
              · intro w' hSw; have hcv := hSw.1; (go_simp <;> (with_reducible rfl))
              try simp only [Act.put, putL]
              refine tk 13 ?_ rfl ?_ ?_
              rotate_left
              · intro w' hSw; (go_simp <;> (with_reducible rfl))
              try simp only [Act.put, putL]
              refine tk 14 ?_ rfl ?_ ?_
              rotate_left
              · intro w' hSw; (go_simp <;> (with_reducible rfl))
              try simp only [Act.put, putL]
              refine tk 15 ?_ rfl ?_ ?_
              rotate_left
              · intro w' hSw; (go_simp <;> (with_reducible rfl))
              try simp only [Act.put, putL]
              refine tk 16 (.string sx) rfl ?_ ?_
              · intro w' hSw; have hcv := hSw.2; (go_simp <;> (with_reducible rfl))
              try simp only [Act.put, putL]
              refine tk 17 ?_ rfl ?_ ?_
              rotate_left
              · intro w' hSw; (go_simp <;> (with_reducible rfl))
              try simp only [Act.put, putL]
              refine tk 18 ?_ rfl ?_ ?_
              rotate_left
              · intro w' hSw; (go_simp <;> (with_reducible rfl))
              try simp only [Act.put, putL]
              refine tk 19 ?_ rfl ?_ ?_
              rotate_left
              · intro w' hSw; (go_simp <;> (with_reducible rfl))
              try simp only [Act.put, putL]
              refine tk 20 ?_ rfl ?_ ?_
              rotate_left
              · intro w' hSw; (go_simp <;> (with_reducible rfl))
              try simp only [Act.put, putL]
              refine tkC 21 rfl (fun K hK => ?_)
              go_simp
              (refine (Hrd2.out _ HS8.out).mono ?_; rintro e w9 ⟨rfl, hs⟩; have HS9 := Lib.hid hs; clear hs)
              refine hK.out _ _ ?_ (fun hHeld => ?_)
              · exact HSS.out _ (_, _, _) HS9.out
              clear hK K
              try simp only [Act.put, putL]
              refine tk 22 ?_ rfl ?_ ?_
              rotate_left
              · intro w' hSw; (go_simp <;> (with_reducible rfl))
              try simp only [Act.put, putL]
              refine tk 23 ?_ rfl ?_ ?_
              rotate_left
              · intro w' hSw; (go_simp <;> (with_reducible rfl))
              try simp only [Act.put, putL]
              refine tk 24 ?_ rfl ?_ ?_
              rotate_left
              · intro w' hSw; (go_simp <;> (with_reducible rfl))
              try simp only [Act.put, putL]
              refine tk 25 ?_ rfl ?_ ?_
              rotate_left
              · intro w' hSw; (go_simp <;> (with_reducible rfl))
              try simp only [Act.put, putL]
              refine tkC 26 rfl (fun K hK => ?_)
              go_simp
              (refine (Htk2.out _ HS9.out).mono ?_; rintro e wa ⟨Ab, nb, cb, rfl, hnb, -, hs⟩; have HSa := Lib.hid hs; clear hs; obtain rfl : 0 = nb := hnb)
              refine hK.out _ _ ?_ (fun hHeld => ?_)
              · exact HSS.out _ (_, _, _) HSa.out
              clear hK K
              try simp only [Act.put, putL]
              refine tk 27 ?_ rfl ?_ ?_
              rotate_left
              · intro w' hSw; (go_simp <;> (with_reducible rfl))
              try simp only [Act.put, putL]
              refine tk 28 ?_ rfl ?_ ?_
              rotate_left
              · intro w' hSw; (go_simp <;> (with_reducible rfl))
              try simp only [Act.put, putL]
              refine tk 29 ?_ rfl ?_ ?_
              rotate_left
              · intro w' hSw; (go_simp <;> (with_reducible rfl))
              try simp only [Act.put, putL]
              refine tk 30 ?_ rfl ?_ ?_
              rotate_left
              · intro w' hSw; (go_simp <;> (with_reducible rfl))
              try simp only [Act.put, putL]
              refine tkC 31 rfl (fun K hK => ?_)
              go_simp
              (refine (rmwake_any HF.out _).mono ?_; rintro e wb ⟨rfl, hbb⟩; have HSb := Lib.hid (HSa.out.below HF.out hbb); clear hbb)
              refine hK.out _ _ ?_ (fun hHeld => ?_)
              · exact HSS.out _ (_, _, _) HSb.out
              clear hK K
              try simp only [Act.put, putL]
              refine tk 32 ?_ rfl ?_ ?_
              rotate_left
              · intro w' hSw; (go_simp <;> (with_reducible rfl))
              try simp only [Act.put, putL]
              refine tk 33 ?_ rfl ?_ ?_
              rotate_left
              · intro w' hSw; (go_simp <;> (with_reducible rfl))
              try simp only [Act.put, putL]
              refine wpAnyH_done (by kernel_rfl) ?_ _
              clear hHeld
              go_wp2_with fail
              go_ret
              exact ⟨rfl, HSb.out.at18.base⟩
      · clear hjn
        go_wp2_with fail
        refine Hrd.out.mono ?_
        rintro e w5 ⟨rfl, hs⟩
        have HS5 := Lib.hid hs
        clear hs
        go_wp2_with fail
        refine (Htk.out _ HS5.out).mono ?_
        rintro e w6 ⟨Az, nz, cz, rfl, hnz, ho, hs⟩
        have hrd : Rd w6 Az nz ((s.drop t).take r) := OwnB.rd ho (fun x hx => Hsr.out.rd.byte x (List.mem_of_mem_drop (List.mem_of_mem_take hx)))
        have hnr : nz = r := by rw [← hnz]; exact Hlr.out
        have hle : t + nz ≤ 140737488355328 := by have := HI3.out.tn; have := Hn.out; omega
        obtain ⟨A6, c6, w7, hrun, hs7⟩ := Str.app (cz := cz) HF.out hs hrd hle 32
        clear hrd hle hnz ho
        subst hnr
        rw [Happ.out] at hs7
        have HS7 := Lib.hid hs7
        have Hrun := Lib.hid hrun
        clear hs hs7 hrun Htk Hrd
        go_wp2_with (at_builtin; refine wpList_appX rfl (.tmp 158) (.tmp 159) _ _ rfl rfl _ _ _ w7 rfl rfl Hrun.out ?_)
        obtain ⟨tr, etr⟩ : ∃ x, t + nz = x := ⟨_, rfl⟩
        rw [etr] at HS7 HI3 Hstop ⊢
        go_loopg [23] tr (fun gi x23 wi => ∃ x : Nat, Hid (gi + x = tr) ∧ x23 = .int .i64 (x : Int) ∧ wi = w7)
        case atStart => exact ⟨0, Lib.hid (by omega), rfl, rfl⟩
        case round =>
          obtain ⟨x, hgi, rfl, rfl⟩ := hrel
          obtain rfl : gk = tr - x := by have := hgi.out; omega
          have hx : x ≤ tr := by have := hgi.out; omega
          clear hgi
          have htn := HI3.out.tn
          have y3 : (0 : Int) ≤ (x : Int) := by omega
          by_cases hxt : x < tr
          · have y1 : (x : Int) < (n : Int) := by omega
            have y5 : (x : Int) < 1000 := by have := Hn.out; omega
            obtain ⟨ix, cv, fz⟩ := HS7.out.put.index (p := x) (by omega)
            rw [HI3.out.all x hxt] at cv
            go_wp2_with fail
            go_roundg (tr - (x + 1))
            case measure => omega
            case rel => exact ⟨x + 1, Lib.hid (by omega), by go_num, rfl⟩
          · obtain rfl : x = tr := by omega
            by_cases hxn : x < n
            · have y1 : (x : Int) < (n : Int) := by omega
              obtain ⟨ix, cv, fz⟩ := HS7.out.put.index (p := x) hxn
              rw [Hstop.out x rfl] at cv
              go_wp2_with fail
              clear ix cv fz hxt hx
              obtain ⟨hsu, hru⟩ := Hsr.out.upto x htn
              have Hru := Lib.hid hru
              obtain ⟨sx, esx⟩ : ∃ y, strOfNums (s.take x) = y := ⟨_, rfl⟩
              have HSS := Lib.hid (show ∀ (W : World) (Y : Int × BL × (Nat → Bool)), Str BAt w zp n g Y.1 Y.2.1 Y.2.2 A6 x c6 (s.take x) W → (convert 32 9 (.slice A6 x c6)).run Try.prog W = .ok (.string sx) W ∧ (convert 32 9 (.slice A0 x c0)).run Try.prog W = .ok (.string sx) W from fun W Y hS => by
                rw [← esx]
                exact ⟨conv_rd (OwnB.rd hS.out Hru.out.rd.byte) c6, conv_rd (Hru.out.rd.below hS.at18.base) c0⟩)
              obtain ⟨hr2, ht2⟩ := str_rest HI3.out (Hstop.out x rfl)
              have Hrd2 := Lib.hid (fun W (h : Str BAt w zp n g (num32 (f + (x : Nat))) (rowS s P x m) P A6 x c6 (s.take x) W) => h.ready_ HF.out 0 hr2)
              have Htk2 := Lib.hid (fun W (h : Str BAt w zp n g (num32 (f + (x : Nat))) (rowS s P x m) P A6 x c6 (s.take x) W) => h.take_ HF.out _ _ [] ht2 rfl rfl)
              clear hr2 ht2 esx hru
              have hq1 := str_eql sx
              go_upto_region 37 with (fail)
              refine wp_region_held_drew (S := fun w' => (convert 32 9 (.slice A6 x c6)).run Try.prog w' = .ok (.string sx) w' ∧ (convert 32 9 (.slice A0 x c0)).run Try.prog w' = .ok (.string sx) w') (by kernel_rfl) (HSS.out wr.drew (_, _, _) (HS7.out.below HF.out (Below.refl _ _).drew)) (fun hHeld => ?_)
              obtain ⟨w8, ew8⟩ : ∃ v, wr.drew = v := ⟨_, rfl⟩
              have HS8 := Lib.hid (show Str BAt w zp n g _ _ P A6 x c6 _ w8 by rw [← ew8]; exact HS7.out.below HF.out (Below.refl _ _).drew)
              rw [ew8] at hHeld ⊢
              clear ew8
              refine tk 0 ?_ rfl ?_ ?_
              rotate_left
              · intro w' hSw; (go_simp <;> (with_reducible rfl))
              try simp only [Act.put, putL]
              refine tk 1 ?_ rfl ?_ ?_
              rotate_left
              · intro w' hSw; (go_simp <;> (with_reducible rfl))
              try simp only [Act.put, putL]
              refine tk 2 ?_ rfl ?_ ?_
              rotate_left
              · intro w' hSw; (go_simp <;> (with_reducible rfl))
              try simp only [Act.put, putL]
              refine tk 3 ?_ rfl ?_ ?_
              rotate_left
              · intro w' hSw; (go_simp <;> (with_reducible rfl))
              try simp only [Act.put, putL]
              refine tk 4 ?_ rfl ?_ ?_
              rotate_left
              · intro w' hSw; (go_simp <;> (with_reducible rfl))
              try simp only [Act.put, putL]
              refine tk 5 ?_ rfl ?_ ?_
              rotate_left
              · intro w' hSw; (go_simp <;> (with_reducible rfl))
              try simp only [Act.put, putL]
              refine tk 6 ?_ rfl ?_ ?_
              rotate_left
              · intro w' hSw; (go_simp <;> (with_reducible rfl))
              try simp only [Act.put, putL]
              refine tk 7 ?_ rfl ?_ ?_
              rotate_left
              · intro w' hSw; (go_simp <;> (with_reducible rfl))
              try simp only [Act.put, putL]
              refine tk 8 ?_ rfl ?_ ?_
              rotate_left
              · intro w' hSw; (go_simp <;> (with_reducible rfl))
              try simp only [Act.put, putL]
              refine tk 9 ?_ rfl ?_ ?_
              rotate_left
              · intro w' hSw; (go_simp <;> (with_reducible rfl))
              try simp only [Act.put, putL]
              refine tk 10 ?_ rfl ?_ ?_
              rotate_left
              · intro w' hSw; (go_simp <;> (with_reducible rfl))
              try simp only [Act.put, putL]
              refine tk 11 ?_ rfl ?_ ?_
              rotate_left
              · intro w' hSw; (go_simp <;> (with_reducible rfl))
              try simp only [Act.put, putL]
              refine tk 12 (.string sx) rfl ?_ ?_
              · intro w' hSw; have hcv := hSw.1; (go_simp <;> (with_reducible rfl))
              try simp only [Act.put, putL]
              refine tk 13 ?_ rfl ?_ ?_
              rotate_left
              · intro w' hSw; (go_simp <;> (with_reducible rfl))
              try simp only [Act.put, putL]
              refine tk 14 ?_ rfl ?_ ?_
              rotate_left
              · intro w' hSw; (go_simp <;> (with_reducible rfl))
              try simp only [Act.put, putL]
              refine tk 15 ?_ rfl ?_ ?_
              rotate_left
              · intro w' hSw; (go_simp <;> (with_reducible rfl))
              try simp only [Act.put, putL]
              refine tk 16 (.string sx) rfl ?_ ?_
              · intro w' hSw; have hcv := hSw.2; (go_simp <;> (with_reducible rfl))
              try simp only [Act.put, putL]
              refine tk 17 ?_ rfl ?_ ?_
              rotate_left
              · intro w' hSw; (go_simp <;> (with_reducible rfl))
              try simp only [Act.put, putL]
              refine tk 18 ?_ rfl ?_ ?_
              rotate_left
              · intro w' hSw; (go_simp <;> (with_reducible rfl))
              try simp only [Act.put, putL]
              refine tk 19 ?_ rfl ?_ ?_
              rotate_left
              · intro w' hSw; (go_simp <;> (with_reducible rfl))
              try simp only [Act.put, putL]
              refine tk 20 ?_ rfl ?_ ?_
              rotate_left
              · intro w' hSw; (go_simp <;> (with_reducible rfl))
              try simp only [Act.put, putL]
              refine tkC 21 rfl (fun K hK => ?_)
              go_simp
              (refine (Hrd2.out _ HS8.out).mono ?_; rintro e w9 ⟨rfl, hs⟩; have HS9 := Lib.hid hs; clear hs)
              refine hK.out _ _ ?_ (fun hHeld => ?_)
              · exact HSS.out _ (_, _, _) HS9.out
              clear hK K
              try simp only [Act.put, putL]
              refine tk 22 ?_ rfl ?_ ?_
              rotate_left
              · intro w' hSw; (go_simp <;> (with_reducible rfl))
              try simp only [Act.put, putL]
              refine tk 23 ?_ rfl ?_ ?_
              rotate_left
              · intro w' hSw; (go_simp <;> (with_reducible rfl))
              try simp only [Act.put, putL]
              refine tk 24 ?_ rfl ?_ ?_
              rotate_left
              · intro w' hSw; (go_simp <;> (with_reducible rfl))
              try simp only [Act.put, putL]
              refine tk 25 ?_ rfl ?_ ?_
              rotate_left
              · intro w' hSw; (go_simp <;> (with_reducible rfl))
              try simp only [Act.put, putL]
              refine tkC 26 rfl (fun K hK => ?_)
              go_simp
              (refine (Htk2.out _ HS9.out).mono ?_; rintro e wa ⟨Ab, nb, cb, rfl, hnb, -, hs⟩; have HSa := Lib.hid hs; clear hs; obtain rfl : 0 = nb := hnb)
              refine hK.out _ _ ?_ (fun hHeld => ?_)
              · exact HSS.out _ (_, _, _) HSa.out
              clear hK K
              try simp only [Act.put, putL]
              refine tk 27 ?_ rfl ?_ ?_
              rotate_left
              · intro w' hSw; (go_simp <;> (with_reducible rfl))
              try simp only [Act.put, putL]
              refine tk 28 ?_ rfl ?_ ?_
              rotate_left
              · intro w' hSw; (go_simp <;> (with_reducible rfl))
              try simp only [Act.put, putL]
              refine tk 29 ?_ rfl ?_ ?_
              rotate_left
              · intro w' hSw; (go_simp <;> (with_reducible rfl))
              try simp only [Act.put, putL]
              refine tk 30 ?_ rfl ?_ ?_
              rotate_left
              · intro w' hSw; (go_simp <;> (with_reducible rfl))
              try simp only [Act.put, putL]
              refine tkC 31 rfl (fun K hK => ?_)
              go_simp
              (refine (rmwake_any HF.out _).mono ?_; rintro e wb ⟨rfl, hbb⟩; have HSb := Lib.hid (HSa.out.below HF.out hbb); clear hbb)
              refine hK.out _ _ ?_ (fun hHeld => ?_)
              · exact HSS.out _ (_, _, _) HSb.out
              clear hK K
              try simp only [Act.put, putL]
              refine tk 32 ?_ rfl ?_ ?_
              rotate_left
              · intro w' hSw; (go_simp <;> (with_reducible rfl))
              try simp only [Act.put, putL]
              refine tk 33 ?_ rfl ?_ ?_
              rotate_left
              · intro w' hSw; (go_simp <;> (with_reducible rfl))
              try simp only [Act.put, putL]
              refine wpAnyH_done (by kernel_rfl) ?_ _
              clear hHeld
              go_wp2_with fail
              go_ret
              exact ⟨rfl, HSb.out.at18.base⟩
            · have y1 : ¬ (x : Int) < (n : Int) := by omega
              go_wp2_with fail
              clear hxt hx
              obtain ⟨hsu, hru⟩ := Hsr.out.upto x htn
              have Hru := Lib.hid hru
              obtain ⟨sx, esx⟩ : ∃ y, strOfNums (s.take x) = y := ⟨_, rfl⟩
              have HSS := Lib.hid (show ∀ (W : World) (Y : Int × BL × (Nat → Bool)), Str BAt w zp n g Y.1 Y.2.1 Y.2.2 A6 x c6 (s.take x) W → (convert 32 9 (.slice A6 x c6)).run Try.prog W = .ok (.string sx) W ∧ (convert 32 9 (.slice A0 x c0)).run Try.prog W = .ok (.string sx) W from fun W Y hS => by
                rw [← esx]
                exact ⟨conv_rd (OwnB.rd hS.out Hru.out.rd.byte) c6, conv_rd (Hru.out.rd.below hS.at18.base) c0⟩)
              obtain ⟨hr2, ht2⟩ := str_rest HI3.out (Hstop.out x rfl)
              have Hrd2 := Lib.hid (fun W (h : Str BAt w zp n g (num32 (f + (x : Nat))) (rowS s P x m) P A6 x c6 (s.take x) W) => h.ready_ HF.out 0 hr2)
              have Htk2 := Lib.hid (fun W (h : Str BAt w zp n g (num32 (f + (x : Nat))) (rowS s P x m) P A6 x c6 (s.take x) W) => h.take_ HF.out _ _ [] ht2 rfl rfl)
              clear hr2 ht2 esx hru
              have hq1 := str_eql sx
              go_upto_region 37 with (fail)
              refine wp_region_held_drew (S := fun w' => (convert 32 9 (.slice A6 x c6)).run Try.prog w' = .ok (.string sx) w' ∧ (convert 32 9 (.slice A0 x c0)).run Try.prog w' = .ok (.string sx) w') (by kernel_rfl) (HSS.out wr.drew (_, _, _) (HS7.out.below HF.out (Below.refl _ _).drew)) (fun hHeld => ?_)
              obtain ⟨w8, ew8⟩ : ∃ v, wr.drew = v := ⟨_, rfl⟩
              have HS8 := Lib.hid (show Str BAt w zp n g _ _ P A6 x c6 _ w8 by rw [← ew8]; exact HS7.out.below HF.out (Below.refl _ _).drew)
              rw [ew8] at hHeld ⊢
              clear ew8
              refine tk 0 ?_ rfl ?_ ?_
              rotate_left
              · intro w' hSw; (go_simp <;> (with_reducible rfl))
              try simp only [Act.put, putL]
              refine tk 1 ?_ rfl ?_ ?_
              rotate_left
              · intro w' hSw; (go_simp <;> (with_reducible rfl))
              try simp only [Act.put, putL]
              refine tk 2 ?_ rfl ?_ ?_
              rotate_left
              · intro w' hSw; (go_simp <;> (with_reducible rfl))
              try simp only [Act.put, putL]
              refine tk 3 ?_ rfl ?_ ?_
              rotate_left
              · intro w' hSw; (go_simp <;> (with_reducible rfl))
              try simp only [Act.put, putL]
              refine tk 4 ?_ rfl ?_ ?_
              rotate_left
              · intro w' hSw; (go_simp <;> (with_reducible rfl))
              try simp only [Act.put, putL]
              refine tk 5 ?_ rfl ?_ ?_
              rotate_left
              · intro w' hSw; (go_simp <;> (with_reducible rfl))
              try simp only [Act.put, putL]
              refine tk 6 ?_ rfl ?_ ?_
              rotate_left
              · intro w' hSw; (go_simp <;> (with_reducible rfl))
              try simp only [Act.put, putL]
              refine tk 7 ?_ rfl ?_ ?_
              rotate_left
              · intro w' hSw; (go_simp <;> (with_reducible rfl))
              try simp only [Act.put, putL]
              refine tk 8 ?_ rfl ?_ ?_
              rotate_left
              · intro w' hSw; (go_simp <;> (with_reducible rfl))
              try simp only [Act.put, putL]
              refine tk 9 ?_ rfl ?_ ?_
              rotate_left
              · intro w' hSw; (go_simp <;> (with_reducible rfl))
              try simp only [Act.put, putL]
              refine tk 10 ?_ rfl ?_ ?_
              rotate_left
              · intro w' hSw; (go_simp <;> (with_reducible rfl))
              try simp only [Act.put, putL]
              refine tk 11 ?_ rfl ?_ ?_
              rotate_left
              · intro w' hSw; (go_simp <;> (with_reducible rfl))
              try simp only [Act.put, putL]
              refine tk 12 (.string sx) rfl ?_ ?_
              · intro w' hSw; have hcv := hSw.1; (go_simp <;> (with_reducible rfl))
              try simp only [Act.put, putL]
              refine tk 13 ?_ rfl ?_ ?_
              rotate_left
              · intro w' hSw; (go_simp <;> (with_reducible rfl))
              try simp only [Act.put, putL]
              refine tk 14 ?_ rfl ?_ ?_
              rotate_left
              · intro w' hSw; (go_simp <;> (with_reducible rfl))
              try simp only [Act.put, putL]
              refine tk 15 ?_ rfl ?_ ?_
              rotate_left
              · intro w' hSw; (go_simp <;> (with_reducible rfl))
              try simp only [Act.put, putL]
              refine tk 16 (.string sx) rfl ?_ ?_
              · intro w' hSw; have hcv := hSw.2; (go_simp <;> (with_reducible rfl))
              try simp only [Act.put, putL]
              refine tk 17 ?_ rfl ?_ ?_
              rotate_left
              · intro w' hSw; (go_simp <;> (with_reducible rfl))
              try simp only [Act.put, putL]
              refine tk 18 ?_ rfl ?_ ?_
              rotate_left
              · intro w' hSw; (go_simp <;> (with_reducible rfl))
              try simp only [Act.put, putL]
              refine tk 19 ?_ rfl ?_ ?_
              rotate_left
              · intro w' hSw; (go_simp <;> (with_reducible rfl))
              try simp only [Act.put, putL]
              refine tk 20 ?_ rfl ?_ ?_
              rotate_left
              · intro w' hSw; (go_simp <;> (with_reducible rfl))
              try simp only [Act.put, putL]
              refine tkC 21 rfl (fun K hK => ?_)
              go_simp
              (refine (Hrd2.out _ HS8.out).mono ?_; rintro e w9 ⟨rfl, hs⟩; have HS9 := Lib.hid hs; clear hs)
              refine hK.out _ _ ?_ (fun hHeld => ?_)
              · exact HSS.out _ (_, _, _) HS9.out
              clear hK K
              try simp only [Act.put, putL]
              refine tk 22 ?_ rfl ?_ ?_
              rotate_left
              · intro w' hSw; (go_simp <;> (with_reducible rfl))
              try simp only [Act.put, putL]
              refine tk 23 ?_ rfl ?_ ?_
              rotate_left
              · intro w' hSw; (go_simp <;> (with_reducible rfl))
              try simp only [Act.put, putL]
              refine tk 24 ?_ rfl ?_ ?_
              rotate_left
              · intro w' hSw; (go_simp <;> (with_reducible rfl))
              try simp only [Act.put, putL]
              refine tk 25 ?_ rfl ?_ ?_
              rotate_left
              · intro w' hSw; (go_simp <;> (with_reducible rfl))
              try simp only [Act.put, putL]
              refine tkC 26 rfl (fun K hK => ?_)
              go_simp
              (refine (Htk2.out _ HS9.out).mono ?_; rintro e wa ⟨Ab, nb, cb, rfl, hnb, -, hs⟩; have HSa := Lib.hid hs; clear hs; obtain rfl : 0 = nb := hnb)
              refine hK.out _ _ ?_ (fun hHeld => ?_)
              · exact HSS.out _ (_, _, _) HSa.out
              clear hK K
              try simp only [Act.put, putL]
              refine tk 27 ?_ rfl ?_ ?_
              rotate_left
              · intro w' hSw; (go_simp <;> (with_reducible rfl))
              try simp only [Act.put, putL]
              refine tk 28 ?_ rfl ?_ ?_
              rotate_left
              · intro w' hSw; (go_simp <;> (with_reducible rfl))
              try simp only [Act.put, putL]
              refine tk 29 ?_ rfl ?_ ?_
              rotate_left
              · intro w' hSw; (go_simp <;> (with_reducible rfl))
              try simp only [Act.put, putL]
              refine tk 30 ?_ rfl ?_ ?_
              rotate_left
              · intro w' hSw; (go_simp <;> (with_reducible rfl))
              try simp only [Act.put, putL]
              refine tkC 31 rfl (fun K hK => ?_)
              go_simp
              (refine (rmwake_any HF.out _).mono ?_; rintro e wb ⟨rfl, hbb⟩; have HSb := Lib.hid (HSa.out.below HF.out hbb); clear hbb)
              refine hK.out _ _ ?_ (fun hHeld => ?_)
              · exact HSS.out _ (_, _, _) HSb.out
              clear hK K
              try simp only [Act.put, putL]
              refine tk 32 ?_ rfl ?_ ?_
              rotate_left
              · intro w' hSw; (go_simp <;> (with_reducible rfl))
              try simp only [Act.put, putL]
              refine tk 33 ?_ rfl ?_ ?_
              rotate_left
              · intro w' hSw; (go_simp <;> (with_reducible rfl))
              try simp only [Act.put, putL]
              refine wpAnyH_done (by kernel_rfl) ?_ _
              clear hHeld
              go_wp2_with fail
              go_ret
              exact ⟨rfl, HSb.out.at18.base⟩
end Go.Proofs.Ytmmnicnebammhaa.reasmStreamW
