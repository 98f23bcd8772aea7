/-
  TableOne holds: what All tells is what Inner, Outer, Flow, Len tell, for any row of calls; ids are given upwards; who is ready stays.
-/
import Derived.Test.YtnhlbohdlnjaaaaTbOne
import Derived.Test.YtnhlbohdlnjaaaaTbOpen
import Derived.Test.YtnhlbohdlnjaaaaTbSame
import Derived.Deep.CutRange
import Derived.Deep.CutBlock
import Derived.Deep.DeepCutAuto
import Derived.BigQuiet
import Derived.Deep.RegionHeld3
import Derived.Deep.LoopGhost
import Derived.BigRegion
namespace Go.Proofs.Ytnhlbohdlnjaaaa.tableOne
set_option maxRecDepth 10000
open Go.ChangeShapes Go.WideShapes Go.ChangeAt Go.RowKit
set_option linter.unusedVariables false
set_option linter.unusedSimpArgs false

def ZM (B rm : Nat) : Nat → Prop := fun k => k < B ∨ k = rm
def ZR (B rm zA : Nat) : Nat → Prop := fun k => ZM B rm k ∨ k = zA
def one1 : Int → Value := fun _ => .int .i64 1
def oneT : Tu → Value := fun _ => .int .i64 1
theorem ac12 {w : World} {g : Nat} {T : TypeId} {fr : Nat × Nat} {u0 u1 u2 u3 u4 u5 u6 u7 u8 u9 ua ub : Value} (h : w.heap[g]? = some (.cells #[u0, u1, u2, u3, u4, u5, u6, u7, u8, u9, ua, ub] T fr)) :
    w.cell? ⟨g, 0, none⟩ = some u0 ∧ w.cell? ⟨g, 1, none⟩ = some u1 ∧ w.cell? ⟨g, 2, none⟩ = some u2 ∧ w.cell? ⟨g, 3, none⟩ = some u3 ∧ w.cell? ⟨g, 4, none⟩ = some u4 ∧ w.cell? ⟨g, 5, none⟩ = some u5 ∧ w.cell? ⟨g, 6, none⟩ = some u6 ∧ w.cell? ⟨g, 7, none⟩ = some u7 ∧ w.cell? ⟨g, 8, none⟩ = some u8 ∧ w.cell? ⟨g, 9, none⟩ = some u9 ∧ w.cell? ⟨g, 10, none⟩ = some ua ∧ w.cell? ⟨g, 11, none⟩ = some ub := by
  refine ⟨?_, ?_, ?_, ?_, ?_, ?_, ?_, ?_, ?_, ?_, ?_, ?_⟩ <;> (rw [blk_cell h]; rfl)
set_option maxHeartbeats 4000000 in
theorem walk0 (w : World) (most : Int) (h1 : 0 ≤ most ∧ most < 256) (vl : Value) (hl : AcsAt w vl) : Calls Try.prog 4 #[.int .u8 most, vl] w fun e w' => e = .returned (.bool true) ∧ Below w.heap.size w w' := by
  obtain ⟨A, n, c, rfl, hnc, hcm, hrd⟩ := hl
  have Hrd := Lib.hid hrd
  obtain ⟨B, eB⟩ : ∃ B, w.heap.size = B := ⟨_, rfl⟩
  obtain ⟨m, em⟩ : ∃ m : Nat, 1 + most % 30 = (m : Int) := ⟨(1 + most % 30).toNat, by omega⟩
  have hm : 1 ≤ m ∧ m ≤ 30 := by omega
  have Em := Lib.hid em
  have Hn := Lib.hid (new_own13 (m : Int) w (by omega))
  have Hm := Lib.hid hm
  clear em hm hrd hnc
  go_enter Try.func4, Try.ntmps4
  go_wp2_with fail
  rw [Em.out]
  refine Hn.out.mono ?_
  rintro e w1 ⟨g, rfl, hp, hb1⟩
  have HP := Lib.hid hp
  have HB := Lib.hid hb1
  clear hp hb1 Hn
  go_wp2_with fail
  refine (awake_any w1).mono ?_
  rintro e w2 ⟨rfl, hb⟩
  have HP2 := Lib.hid (HP.out.below hb)
  have HB2 := Lib.hid (below_trans HB.out hb)
  clear HP HB hb
  obtain ⟨rm, erm⟩ : ∃ z, w2.heap.size = z := ⟨_, rfl⟩
  obtain ⟨w3, ew3⟩ : ∃ v, w2.alloc (.map #[] 0) = v := ⟨_, rfl⟩
  have hmk := run_makeMap_plain (P := Try.prog) w2 64
  rw [erm, ew3] at hmk
  have hb3 : Below w2.heap.size w2 w3 := by rw [← ew3]; exact (Below.refl _ _).alloc (Nat.le_refl _) _
  have hs3 : w3.heap.size = rm + 1 := by rw [← ew3, ← erm]; simp
  have HrB := Lib.hid (show B ≤ rm by have := HB2.out.size; omega)
  have HT := Lib.hid (show TZ (ZM B rm) w3 g m 0 [] from ((HP2.out.z (by have := HB2.out.size; omega)).more hb3 (P := fun k => k = rm) (fun k hk => by omega)).sub (fun k hk => by
    rcases hk with e | e
    · exact .inl (by omega)
    · exact .inr e))
  have HM := Lib.hid (show MUP w3 rm (KR []) one1 from by rw [← ew3]; exact (MUP.made w2 one1 rm erm).congr (fun e => ⟨fun h => h.elim, fun ⟨_, h, _⟩ => by cases h⟩) (fun _ _ => rfl))
  have HB3 := Lib.hid (show Below B w w3 by rw [← eB]; exact below_trans HB2.out hb3)
  clear hb3 hs3 HP2 HB2
  go_upto_region 7 with (fail)
  try rw [ew3]
  try rw [erm]
  clear ew3 erm hmk
  go_wp2_with fail
  go_loopg [8, 49] n (fun gk s8 i wr => ∃ (j : Nat) (l : Int) (L : TL), Hid (gk + j = n) ∧ j ≤ n ∧ j ≤ 200 ∧ i = .int .i64 (j : Int) ∧ s8 = .int .u64 l ∧ Hid (TZ (ZM B rm) wr g m l L) ∧ Hid (MUP wr rm (KR L) one1) ∧ Hid (l ≤ (j : Int)) ∧ Hid (Below B w wr))
  case atStart => exact ⟨0, 0, [], rfl, Nat.zero_le _, by omega, rfl, rfl, HT, HM, Lib.hid (by omega), HB3⟩
  case round =>
    obtain ⟨j, l, L, hgk, hj, hj200, rfl, rfl, HT, HM, HL, HB⟩ := hrel
    by_cases hjn : j < n
    · obtain ⟨b, pp, kd, ido, ta, xb, hidx, hbl, hac, hido⟩ := (Hrd.out.below (by rw [eB]; exact HB.out)).index (c := c) hjn
      obtain ⟨q0, q1, q2, q3, q4, q5, q6, q7, q8, q9, qa, qb⟩ := hac
      have i0 : (0 : Int) ≤ (j : Int) := by omega
      have i1 : (j : Int) < (n : Int) := by omega
      obtain ⟨zA, ezA⟩ : ∃ zA, wr.heap.size = zA := ⟨_, rfl⟩
      obtain ⟨wa, ewa⟩ : ∃ wa, wr.alloc (.cells #[.int .i64 kd, .int .u64 ido, .int .u8 ta.pr, .int .u32 ta.sr, .int .u32 ta.ds, .int .u16 ta.sp, .int .u16 ta.dp, .int .u8 xb.pr, .int .u32 xb.sr, .int .u32 xb.ds, .int .u16 xb.sp, .int .u16 xb.dp] 39) = wa := ⟨_, rfl⟩
      have hba : Below wr.heap.size wr wa := by rw [← ewa]; exact (Below.refl _ _).alloc (Nat.le_refl _) _
      have HKa := Lib.hid (show wa.heap[zA]? = some (.cells #[.int .i64 kd, .int .u64 ido, .int .u8 ta.pr, .int .u32 ta.sr, .int .u32 ta.ds, .int .u16 ta.sp, .int .u16 ta.dp, .int .u8 xb.pr, .int .u32 xb.sr, .int .u32 xb.ds, .int .u16 xb.sp, .int .u16 xb.dp] 39 (0, 0)) by rw [← ewa, ← ezA]; exact heap_alloc_new wr _)
      have hBz : B ≤ wr.heap.size := by have := HB.out.size; omega
      have HzA := Lib.hid (show rm < zA by have := HM.out.lt; omega)
      have HTa := Lib.hid (show TZ (ZR B rm zA) wa g m l L from HT.out.more hba (P := fun k => k = zA) (fun k hk => ⟨by omega, by have := lt_of_block HKa.out; omega⟩))
      have HMa := Lib.hid (HM.out.but (S := fun _ => False) (But.of hba) (fun h => h))
      have HBa := Lib.hid (HB.out.trans (hba.mono hBz))
      have HSa := Lib.hid (show B ≤ wa.heap.size from Nat.le_trans hBz hba.size)
      have HOk := Lib.hid HT.out.ok
      have HzB := Lib.hid (show B ≤ zA by omega)
      have Hjn := Lib.hid hjn
      clear hba HT HB HM hjn hBz
      by_cases hj2 : j < 200
      · have i3 : ((j : Int) == 200) = false := by simp; omega
        have Hj2 := Lib.hid hj2
        obtain ⟨l3, el3⟩ : ∃ x, l + 3 = x := ⟨_, rfl⟩
        have hl3 : 3 ≤ l3 ∧ l3 < 1000 := by have := HOk.out.lb; have := HL.out; omega
        have w1' : IntKind.u64.wrap (l + 3) = l3 := by rw [el3]; simp [IntKind.wrap, IntKind.bits, IntKind.signed]; omega
        have w2' : (l3 == 0) = false := by simp; omega
        have w3' : ¬ l3 = 0 := by omega
        obtain ⟨ix, eix⟩ : ∃ x, ido % l3 = x := ⟨_, rfl⟩
        have hix : 0 ≤ ix ∧ ix < l3 := by have := Int.emod_nonneg ido w3'; have := Int.emod_lt_of_pos ido (show 0 < l3 by omega); omega
        have w4' : IntKind.u64.wrap (ido % l3) = ix := by rw [eix]; simp [IntKind.wrap, IntKind.bits, IntKind.signed]; omega
        have w5' : ido.tmod l3 = ido % l3 := Int.tmod_eq_emod_of_nonneg hido.1
        have w6' : IntKind.u64.wrap (ido.tmod l3) = ix := by rw [w5', w4']
        clear hj2
        go_upto_region 11 with (fail)
        try rw [ewa]
        try rw [ezA]
        clear ewa ezA hidx q0 q1 q2 q3 q4 q5 q6 q7 q8 q9 qa qb i0 i1 hbl i3
        obtain ⟨a0, a1, a2, a3, a4, a5, a6, a7, a8, a9, aa, ab⟩ := ac12 HKa.out
        have fz := fun i => blk_free HKa.out i
        obtain ⟨wb, ewb⟩ : ∃ v, wa.setCell ⟨zA, 1, none⟩ (.int .u64 ix) = v := ⟨_, rfl⟩
        have hbb : But (fun k => k = zA) wa wb := by rw [← ewb]; exact (But.refl (fun k => k = zA) wa).setCell (p := ⟨zA, 1, none⟩) rfl _
        have HTb := Lib.hid (HTa.out.but hbb (fun k hk => .inl (.inr hk)))
        have HMb := Lib.hid (HMa.out.but hbb (fun e => by have := HzA.out; omega))
        have HBb := Lib.hid (HBa.out.trans (hbb.below (fun k hk => by rw [hk]; exact HzB.out) HSa.out))
        have HSb := Lib.hid (Nat.le_trans HSa.out hbb.size)
        have HKb := Lib.hid (show wb.heap[zA]? = some (.cells #[.int .i64 kd, .int .u64 ix, .int .u8 ta.pr, .int .u32 ta.sr, .int .u32 ta.ds, .int .u16 ta.sp, .int .u16 ta.dp, .int .u8 xb.pr, .int .u32 xb.sr, .int .u32 xb.ds, .int .u16 xb.sp, .int .u16 xb.dp] 39 (0, 0)) by rw [← ewb]; have := heap_setCell_at HKa.out 1 (.int .u64 ix); simpa using this)
        clear hbb HTa HMa HBa HSa HKa
        go_upto_region 12 with (fail)
        try rw [ewb]
        clear ewb el3 hl3 w1' w2' w3' w4' w5' w6' eix hix fz hido
        clear a0 a1 a2 a3 a4 a5 a6 a7 a8 a9 aa ab
        obtain ⟨a0, a1, a2, a3, a4, a5, a6, a7, a8, a9, aa, ab⟩ := ac12 HKb.out
        go_upto_block 2 with (fail)
        go_cut [8] (fun s8 wx0 => ∃ (wx : World) (l' : Int) (L' : TL), wx = wx0 ∧ s8 = .int .u64 l' ∧ Hid (TZ (ZR B rm zA) wx g m l' L') ∧ Hid (MUP wx rm (KR L') one1) ∧ Hid (l' ≤ (j : Int) + 1) ∧ Hid (wx.heap[zA]? = some (.cells #[.int .i64 kd, .int .u64 ix, .int .u8 ta.pr, .int .u32 ta.sr, .int .u32 ta.ds, .int .u16 ta.sp, .int .u16 ta.dp, .int .u8 xb.pr, .int .u32 xb.sr, .int .u32 xb.ds, .int .u16 xb.sp, .int .u16 xb.dp] 39 (0, 0))) ∧ Hid (Below B w wx ∧ B ≤ wx.heap.size))
        case first =>
          by_cases hk0 : kd = 0
          · subst hk0
            as_aux_lemma =>
              obtain ⟨⟨⟨n0, wt, er⟩, L', l'⟩, ea⟩ : ∃ r, addF m l ta xb L = r := ⟨_, rfl⟩
              have Hs := Lib.hid (add_z (ZR B rm zA) g m l L wb HTb.out ta xb n0 wt er l' L' (by have := HL.out; omega) ea)
              have hone := add_one HOk.out ea
              clear ea
              go_wp2_with fail
              refine Hs.out.mono ?_
              rintro e wc ⟨rfl, hp, hb⟩
              have HTc := Lib.hid hp
              have HMc := Lib.hid (HMb.out.but hb (fun e => e (.inl (.inr rfl))))
              have HBc := Lib.hid (HBb.out.trans (belT hb (fun k hk => .inl (.inl hk)) HSb.out))
              have HSc := Lib.hid (Nat.le_trans HSb.out hb.size)
              have HKc := Lib.hid (hb.blk HKb.out (fun e => e (.inr rfl)))
              clear hp hb Hs
              clear a0 a1 a2 a3 a4 a5 a6 a7 a8 a9 aa ab
              rcases hone with ⟨rfl, h2, h3, h4, h5, h6⟩ | ⟨h1, rfl, rfl, rfl, rfl⟩
              · have lk := HMc.out.look_no_i (e := wt) (fun hk => h5 hk)
                have d1 : ¬ n0 ≤ l := by omega
                have d2 : (wt == n0) = false := by simpa using h4
                obtain rfl : l' = n0 := by omega
                have d3 : l < l' := by omega
                have HN := Lib.hid (show l' ≤ (j : Int) + 1 by have := HL.out; omega)
                have HMd := Lib.hid (HMc.out.congr (fun e => (h6 e).symm) (R' := one1) (fun _ _ => rfl))
                clear h2 h3 h4 h5 h6 HMc
                go_wp2_with fail
                go_meet
                case rel => exact ⟨_, l', L', rfl, rfl, HTc, HMd, HN, HKc, Lib.hid ⟨HBc.out, HSc.out⟩⟩
              · have d1 : (er == 0) = false := by simpa using h1
                have d2 : (er != 0) = true := by simpa using h1
                have d3 : ¬ l' < 0 := by have := HOk.out.lb; omega
                have HN := Lib.hid (show l' ≤ (j : Int) + 1 by have := HL.out; omega)
                clear h1
                go_wp2_with fail
                go_meet
                case rel => exact ⟨_, l', L', rfl, rfl, HTc, HMc, HN, HKc, Lib.hid ⟨HBc.out, HSc.out⟩⟩
          by_cases hk1 : kd = 1
          · subst hk1
            as_aux_lemma =>
              obtain ⟨⟨er, L'⟩, ea⟩ : ∃ r, leadR ix xb L = r := ⟨_, rfl⟩
              have Hs := Lib.hid (lead_z (ZR B rm zA) g m l L wb HTb.out ix er xb L' ea)
              have hone := lead_one HOk.out ea
              clear ea
              go_wp2_with fail
              refine Hs.out.mono ?_
              rintro e wc ⟨rfl, hp, hb⟩
              have HTc := Lib.hid hp
              have HMc := Lib.hid (HMb.out.but hb (fun e => e (.inl (.inr rfl))))
              have HBc := Lib.hid (HBb.out.trans (belT hb (fun k hk => .inl (.inl hk)) HSb.out))
              have HSc := Lib.hid (Nat.le_trans HSb.out hb.size)
              have HKc := Lib.hid (hb.blk HKb.out (fun e => e (.inr rfl)))
              clear hp hb Hs
              clear a0 a1 a2 a3 a4 a5 a6 a7 a8 a9 aa ab
              have HN := Lib.hid (show l ≤ (j : Int) + 1 by have := HL.out; omega)
              have HMd := Lib.hid (HMc.out.congr (fun e => (hone e).symm) (R' := one1) (fun _ _ => rfl))
              clear hone HMc
              go_wp2_with fail
              go_meet
              case rel => exact ⟨_, l, L', rfl, rfl, HTc, HMd, HN, HKc, Lib.hid ⟨HBc.out, HSc.out⟩⟩
          by_cases hk2 : kd = 2
          · subst hk2
            as_aux_lemma =>
              obtain ⟨⟨er, L'⟩, ea⟩ : ∃ r, touchR ix L = r := ⟨_, rfl⟩
              have Hs := Lib.hid (touch_z (ZR B rm zA) g m l L wb HTb.out ix er L' ea)
              have hone := touch_one HOk.out ea
              clear ea
              go_wp2_with fail
              refine Hs.out.mono ?_
              rintro e wc ⟨rfl, hp, hb⟩
              have HTc := Lib.hid hp
              have HMc := Lib.hid (HMb.out.but hb (fun e => e (.inl (.inr rfl))))
              have HBc := Lib.hid (HBb.out.trans (belT hb (fun k hk => .inl (.inl hk)) HSb.out))
              have HSc := Lib.hid (Nat.le_trans HSb.out hb.size)
              have HKc := Lib.hid (hb.blk HKb.out (fun e => e (.inr rfl)))
              clear hp hb Hs
              clear a0 a1 a2 a3 a4 a5 a6 a7 a8 a9 aa ab
              have HN := Lib.hid (show l ≤ (j : Int) + 1 by have := HL.out; omega)
              have HMd := Lib.hid (HMc.out.congr (fun e => (hone e).symm) (R' := one1) (fun _ _ => rfl))
              clear hone HMc
              go_wp2_with fail
              go_meet
              case rel => exact ⟨_, l, L', rfl, rfl, HTc, HMd, HN, HKc, Lib.hid ⟨HBc.out, HSc.out⟩⟩
          by_cases hk3 : kd = 3
          · subst hk3
            as_aux_lemma =>
              obtain ⟨⟨er, L'⟩, ea⟩ : ∃ r, readyR ix L = r := ⟨_, rfl⟩
              have Hs := Lib.hid (ready_z (ZR B rm zA) g m l L wb HTb.out ix er L' ea)
              have hone := ready_one HOk.out ea
              clear ea
              go_wp2_with fail
              refine Hs.out.mono ?_
              rintro e wc ⟨rfl, hp, hb⟩
              have HTc := Lib.hid hp
              have HMc := Lib.hid (HMb.out.but hb (fun e => e (.inl (.inr rfl))))
              have HBc := Lib.hid (HBb.out.trans (belT hb (fun k hk => .inl (.inl hk)) HSb.out))
              have HSc := Lib.hid (Nat.le_trans HSb.out hb.size)
              have HKc := Lib.hid (hb.blk HKb.out (fun e => e (.inr rfl)))
              clear hp hb Hs
              clear a0 a1 a2 a3 a4 a5 a6 a7 a8 a9 aa ab
              have HN := Lib.hid (show l ≤ (j : Int) + 1 by have := HL.out; omega)
              rcases hone with ⟨rfl, h6⟩ | ⟨h1, rfl⟩
              · obtain ⟨wd, hput, hmd, hbd⟩ := HMc.out.put_i ix (.int .i64 1)
                have HTd := Lib.hid (HTc.out.but hbd (fun k hk => .inl (.inl (.inr hk))))
                have hrB : B ≤ rm := HrB.out
                have HBd := Lib.hid (HBc.out.trans (hbd.below (fun k hk => by rw [hk]; exact hrB) HSc.out))
                have HSd := Lib.hid (Nat.le_trans HSc.out hbd.size)
                have HKd := Lib.hid (hbd.blk HKc.out (fun e => by have := HzA.out; omega))
                have HMd := Lib.hid (hmd.congr (fun e => (h6 e).symm) (R' := one1) (fun e _ => by first | rfl | (simp only [one1]; split <;> rfl)))
                obtain ⟨a0, a1, a2, a3, a4, a5, a6, a7, a8, a9, aa, ab⟩ := ac12 HKc.out
                clear h6 hmd hbd HMc HKc HTc HBc HSc hrB
                go_wp2_with fail
                clear a0 a1 a2 a3 a4 a5 a6 a7 a8 a9 aa ab
                clear hput
                go_meet
                case rel => exact ⟨_, l, L', rfl, rfl, HTd, HMd, HN, HKd, Lib.hid ⟨HBd.out, HSd.out⟩⟩
              · have d1 : (er == 0) = false := by simpa using h1
                clear h1
                go_wp2_with fail
                go_meet
                case rel => exact ⟨_, l, L', rfl, rfl, HTc, HMc, HN, HKc, Lib.hid ⟨HBc.out, HSc.out⟩⟩
          by_cases hk4 : kd = 4
          · subst hk4
            as_aux_lemma =>
              obtain ⟨⟨er, L'⟩, ea⟩ : ∃ r, dropR ix L = r := ⟨_, rfl⟩
              have Hs := Lib.hid (drop_z (ZR B rm zA) g m l L wb HTb.out ix er L' ea)
              have hone := drop_one HOk.out ea
              clear ea
              go_wp2_with fail
              refine Hs.out.mono ?_
              rintro e wc ⟨rfl, hp, hb⟩
              have HTc := Lib.hid hp
              have HMc := Lib.hid (HMb.out.but hb (fun e => e (.inl (.inr rfl))))
              have HBc := Lib.hid (HBb.out.trans (belT hb (fun k hk => .inl (.inl hk)) HSb.out))
              have HSc := Lib.hid (Nat.le_trans HSb.out hb.size)
              have HKc := Lib.hid (hb.blk HKb.out (fun e => e (.inr rfl)))
              clear hp hb Hs
              clear a0 a1 a2 a3 a4 a5 a6 a7 a8 a9 aa ab
              have HN := Lib.hid (show l ≤ (j : Int) + 1 by have := HL.out; omega)
              rcases hone with ⟨rfl, h6⟩ | ⟨h1, rfl⟩
              · obtain ⟨wd, hput, hmd, hbd⟩ := HMc.out.drop_i ix 0
                have HTd := Lib.hid (HTc.out.but hbd (fun k hk => .inl (.inl (.inr hk))))
                have hrB : B ≤ rm := HrB.out
                have HBd := Lib.hid (HBc.out.trans (hbd.below (fun k hk => by rw [hk]; exact hrB) HSc.out))
                have HSd := Lib.hid (Nat.le_trans HSc.out hbd.size)
                have HKd := Lib.hid (hbd.blk HKc.out (fun e => by have := HzA.out; omega))
                have HMd := Lib.hid (hmd.congr (fun e => (h6 e).symm) (R' := one1) (fun e _ => by first | rfl | (simp only [one1]; split <;> rfl)))
                obtain ⟨a0, a1, a2, a3, a4, a5, a6, a7, a8, a9, aa, ab⟩ := ac12 HKc.out
                clear h6 hmd hbd HMc HKc HTc HBc HSc hrB
                go_wp2_with fail
                clear a0 a1 a2 a3 a4 a5 a6 a7 a8 a9 aa ab
                clear hput
                go_meet
                case rel => exact ⟨_, l, L', rfl, rfl, HTd, HMd, HN, HKd, Lib.hid ⟨HBd.out, HSd.out⟩⟩
              · have d1 : (er == 0) = false := by simpa using h1
                clear h1
                go_wp2_with fail
                go_meet
                case rel => exact ⟨_, l, L', rfl, rfl, HTc, HMc, HN, HKc, Lib.hid ⟨HBc.out, HSc.out⟩⟩
          have kb0 : (kd == 0) = false := by simpa using hk0
          have kb1 : (kd == 1) = false := by simpa using hk1
          have kb2 : (kd == 2) = false := by simpa using hk2
          have kb3 : (kd == 3) = false := by simpa using hk3
          have kb4 : (kd == 4) = false := by simpa using hk4
          have HNz := Lib.hid (show l ≤ (j : Int) + 1 by have := HL.out; omega)
          clear hk0 hk1 hk2 hk3 hk4
          go_wp2_with fail
          go_meet
          case rel => exact ⟨_, l, L, rfl, rfl, HTb, HMb, HNz, HKb, Lib.hid ⟨HBb.out, HSb.out⟩⟩
        case rest =>
         as_aux_lemma =>
          obtain ⟨wx, l', L', hwx, rfl, HT, HM, HNx, HKx, HBS⟩ := hcut
          subst hwx
          clear a0 a1 a2 a3 a4 a5 a6 a7 a8 a9 aa ab
          clear HTb HMb HBb HSb HKb HL HOk
          have HOx := Lib.hid HT.out.ok
          obtain ⟨nl, enl⟩ : ∃ nl, L'.length = nl := ⟨_, rfl⟩
          have Enl := Lib.hid enl
          have Hnl := Lib.hid (show nl ≤ m ∧ nl ≤ 1024 by have := HOx.out.len; have := HOx.out.mb; omega)
          obtain ⟨N, eN⟩ : ∃ N, wx.heap.size = N := ⟨_, rfl⟩
          have HX := Lib.hid (show ∀ W, Below N wx W → TZ (ZR B rm zA) W g m l' L' ∧ MUP W rm (KR L') one1 ∧ W.heap[zA]? = some (.cells #[.int .i64 kd, .int .u64 ix, .int .u8 ta.pr, .int .u32 ta.sr, .int .u32 ta.ds, .int .u16 ta.sp, .int .u16 ta.dp, .int .u8 xb.pr, .int .u32 xb.sr, .int .u32 xb.ds, .int .u16 xb.sp, .int .u16 xb.dp] 39 (0, 0)) from fun W hW => by
            rw [← eN] at hW
            exact ⟨HT.out.below hW, HM.out.but (S := fun _ => False) (But.of hW) (fun h => h), blk_on HKx.out hW⟩)
          have HBx := Lib.hid HBS.out.1
          have HSx := Lib.hid (show B ≤ N by rw [← eN]; exact HBS.out.2)
          have Ha := Lib.hid (all_z (ZR B rm zA) g m l' L' wx HT.out)
          clear HT HM HKx HBS enl
          go_wp2_with fail
          refine Ha.out.mono ?_
          rintro e w4 ⟨Aa, ca, rfl, hs, ho, hb⟩
          rw [Enl.out] at hs ho ⊢
          have HSl := Lib.hid hs
          have HOw := Lib.hid (show ∀ b, (Value.slice Aa nl ca).ownBlock = some b → N ≤ b ∧ b < w4.heap.size by
            intro b hb'
            refine ⟨by rw [← eN]; exact ho b hb', ?_⟩
            rcases HSl.out with ⟨e, _, _⟩ | ⟨gu, o, c', e, hr⟩
            · rw [e] at hb'; cases hb'
            · rw [e] at hb'; injection hb' with hb'; subst hb'; exact hr.lt)
          have HB4 := Lib.hid (show Below N wx w4 by rw [← eN]; exact hb)
          have HN4 := Lib.hid (show N ≤ w4.heap.size by rw [← eN]; exact hb.size)
          clear hs ho hb Ha eN
          have d1 : ¬ (m : Int) < (nl : Int) := by have := Hnl.out; omega
          have d1n : ¬ m < nl := by have := Hnl.out; omega
          have d1b : decide (m < nl) = false := decide_eq_false d1n
          have Hl := Lib.hid (len_z (ZR B rm zA) g m l' L' w4 (HX.out w4 HB4.out).1 nl Enl.out)
          have r1 : ((nl : Int) != (nl : Int)) = false := by simp
          go_wp2_with fail
          refine Hl.out.mono ?_
          rintro e w5 ⟨rfl, rfl⟩
          have hlen : ∀ ty, (Builtin.len_ #[64] ty #[.map (some rm)]).run Try.prog w4 = .ok (.int .i64 ((cR L' : Nat) : Int)) w4 := fun ty => by
            have h := (HX.out w4 HB4.out).2.1.len_i (idR L') (idR_nodup HOx.out.pw) (KR_iff L') ty
            rw [idR_len] at h
            exact h
          obtain ⟨x0, ex0⟩ : ∃ x : Int, ((cR L' : Nat) : Int) = x := ⟨_, rfl⟩
          rw [ex0] at hlen
          obtain ⟨q1, eq1⟩ : ∃ q, w4.heap.size = q := ⟨_, rfl⟩
          obtain ⟨wq, ewq⟩ : ∃ v, w4.alloc (.map #[] 0) = v := ⟨_, rfl⟩
          obtain ⟨y, ey⟩ : ∃ v, wq.alloc (.map #[] 0) = v := ⟨_, rfl⟩
          have hm1 := run_makeMap_plain (P := Try.prog) w4 65
          have hm2 := run_makeMap_plain (P := Try.prog) wq 65
          have hsq : wq.heap.size = q1 + 1 := by rw [← ewq, ← eq1]; simp
          obtain ⟨q2, eq2⟩ : ∃ q, q1 + 1 = q := ⟨_, rfl⟩
          rw [eq2] at hsq
          rw [eq1, ewq] at hm1
          rw [hsq, ey] at hm2
          have hby : Below w4.heap.size w4 y := by rw [← ey, ← ewq]; exact ((Below.refl _ _).alloc (Nat.le_refl _) _).alloc (by simp) _
          have hqy : But (fun _ => False) wq y := by rw [← ey]; exact (But.refl _ _).alloc _
          have HBy := Lib.hid (HB4.out.trans (hby.mono HN4.out))
          have HSy := Lib.hid (HSl.out.but (S := fun _ => False) (But.of hby) (fun _ _ h => h))
          have HOy := Lib.hid (show ∀ b, (Value.slice Aa nl ca).ownBlock = some b → b < q1 from fun b hb => by have := (HOw.out b hb).2; omega)
          have HQN := Lib.hid (show N ≤ q1 ∧ q1 < q2 ∧ q2 < y.heap.size from ⟨by have := HN4.out; omega, by omega, by rw [← ey]; simp; omega⟩)
          have HQ1 := Lib.hid (show MTP y q1 (KI L' 0) oneT from (by rw [← ewq] at hqy; exact ((MTP.made w4 oneT q1 eq1).but hqy (fun h => h)).congr (fun a => ⟨fun h => h.elim, fun ⟨k, h, _⟩ => by omega⟩) (fun _ _ => rfl)))
          have HQ2 := Lib.hid (show MTP y q2 (KO L' 0) oneT from (by rw [← ey]; exact (MTP.made wq oneT q2 hsq).congr (fun a => ⟨fun h => h.elim, fun ⟨_, k, h, _⟩ => by omega⟩) (fun _ _ => rfl)))
          clear hby hqy HSl HOw HN4 Hl
          go_wp2_with fail
          clear hlen hm1 hm2 hsq eq1 eq2 ewq ey
          have HW := Lib.hid (show ∀ W, But (fun k => k = q1 ∨ k = q2) y W → TZ (ZR B rm zA) W g m l' L' ∧ MUP W rm (KR L') one1 ∧ W.heap[zA]? = some (.cells #[.int .i64 kd, .int .u64 ix, .int .u8 ta.pr, .int .u32 ta.sr, .int .u32 ta.ds, .int .u16 ta.sp, .int .u16 ta.dp, .int .u8 xb.pr, .int .u32 xb.sr, .int .u32 xb.ds, .int .u16 xb.sp, .int .u16 xb.dp] 39 (0, 0)) from fun W hW => HX.out W (HBy.out.trans (hW.below (fun k hk => by have := HQN.out; omega) (by have := HQN.out; omega))))
          go_loopg [16, 162] nl (fun gk2 s16 i wr => ∃ (t : Nat) (x : Int), Hid (gk2 + t = nl) ∧ t ≤ nl ∧ i = .int .i64 (t : Int) ∧ s16 = .int .i64 x ∧ Hid (x = ((cR (L'.drop t) : Nat) : Int)) ∧ Hid (But (fun k => k = q1 ∨ k = q2) y wr) ∧ Hid (MTP wr q1 (KI L' t) oneT) ∧ Hid (MTP wr q2 (KO L' t) oneT))
          case atStart => exact ⟨0, x0, rfl, Nat.zero_le _, rfl, rfl, Lib.hid (by rw [List.drop_zero]; exact ex0.symm), Lib.hid (But.refl _ _), HQ1, HQ2⟩
          case round =>
            obtain ⟨t, x, hgk2, ht, rfl, rfl, Hx, HI, HQ1, HQ2⟩ := hrel
            by_cases htn : t < nl
            · as_aux_lemma =>
                obtain ⟨f, ef⟩ : ∃ f, L'.getD t f0 = f := ⟨_, rfl⟩
                obtain ⟨em, eem⟩ : ∃ em, f.em = em := ⟨_, rfl⟩
                have htl : t < L'.length := by have := Enl.out; omega
                obtain ⟨gu, o, rfl, hidx, hfl, hlt⟩ := fl_index_t (HSy.out.but HI.out (fun b hb e => by have := HOy.out b hb; have := HQN.out; omega)) Enl.out htn
                obtain ⟨p, ep⟩ : ∃ p, o + t * 12 = p := ⟨_, rfl⟩
                rw [ep] at hidx hfl
                rw [ef] at hfl
                obtain ⟨c0, c1, c2, c3, c4, c5, c6, c7, c8, c9, cA, cB⟩ := hfl
                rw [eem] at cB
                have i0 : (0 : Int) ≤ (t : Int) := by omega
                have i1 : (t : Int) < (nl : Int) := by omega
                have hin := inn_at HOx.out htl
                rw [ef] at hin
                have hfw := flow_one HOx.out htl
                rw [ef] at hfw
                have hf1 := fl_self f
                rw [eem] at hf1
                have kI := KI_no HOx.out htl
                rw [ef] at kI
                have kO := KO_no HOx.out htl
                rw [ef] at kO
                have kR := KR_at HOx.out htl
                rw [ef, eem] at kR
                have hcd := cR_drop htl
                rw [ef, eem] at hcd
                have Hcd := Lib.hid hcd
                clear hcd
                have Hi := Lib.hid (show ∀ a, (a = f.i ∨ KI L' t a) ↔ KI L' (t + 1) a by rw [← ef]; exact KI_succ htl)
                have Hk2 := Lib.hid hgk2.out
                have Htn := Lib.hid htn
                have ht9 : t < 1024 := by have := Hnl.out; omega
                have Ho1 := Lib.hid (show f.o ≠ zT → ∀ a, (a = f.o ∨ KO L' t a) ↔ KO L' (t + 1) a by rw [← ef]; exact KO_succ htl)
                have Ho0 := Lib.hid (show f.o = zT → ∀ a, KO L' t a ↔ KO L' (t + 1) a by rw [← ef]; exact KO_none)
                have Hoa := Lib.hid (show f.o ≠ zT → idOf (outF f.o L') = f.id ∧ isOf (outF f.o L') = true by rw [← ef]; exact out_at HOx.out htl)
                have X1 := Lib.hid (fun W hW => inner_z (ZR B rm zA) g m l' L' W (HW.out W hW).1 f.i f.id true hin.1 hin.2)
                have X2 := Lib.hid (show ∀ W, But (fun k => k = q1 ∨ k = q2) y W → Calls Try.prog 27 #[.pointer (some ⟨g, 0, none⟩), .int .u64 f.id] W (TellsT (.tuple #[.agg #[.int .u64 f.id, .int .u8 f.i.pr, .int .u32 f.i.sr, .int .u32 f.i.ds, .int .u16 f.i.sp, .int .u16 f.i.dp, .int .u8 f.o.pr, .int .u32 f.o.sr, .int .u32 f.o.ds, .int .u16 f.o.sp, .int .u16 f.o.dp, .bool em], .bool true]) W) from fun W hW => by
                  have h := flow_z (ZR B rm zA) g m l' L' W (HW.out W hW).1 f.id f true hfw
                  rw [fl_arr, eem] at h
                  exact h)
                have X3 := Lib.hid (fun (ho : f.o ≠ zT) W hW => outer_z (ZR B rm zA) g m l' L' W (HW.out W hW).1 f.o f.id true (Hoa.out ho).1 (Hoa.out ho).2)
                obtain ⟨z1, ez1⟩ : ∃ z, wr.heap.size = z := ⟨_, rfl⟩
                obtain ⟨v1, ev1⟩ : ∃ v, wr.alloc (.cells #[.int .u64 f.id, .int .u8 f.i.pr, .int .u32 f.i.sr, .int .u32 f.i.ds, .int .u16 f.i.sp, .int .u16 f.i.dp, .int .u8 f.o.pr, .int .u32 f.o.sr, .int .u32 f.o.ds, .int .u16 f.o.sp, .int .u16 f.o.dp, .bool em] 51) = v := ⟨_, rfl⟩
                have hb : Below wr.heap.size wr v1 := by rw [← ev1]; exact (Below.refl _ _).alloc (Nat.le_refl _) _
                have HI1 := Lib.hid (HI.out.trans (But.of hb))
                have HZ1 := Lib.hid (show v1.heap[z1]? = some (.cells #[.int .u64 f.id, .int .u8 f.i.pr, .int .u32 f.i.sr, .int .u32 f.i.ds, .int .u16 f.i.sp, .int .u16 f.i.dp, .int .u8 f.o.pr, .int .u32 f.o.sr, .int .u32 f.o.ds, .int .u16 f.o.sp, .int .u16 f.o.dp, .bool em] 51 (0, 0)) by rw [← ev1, ← ez1]; exact heap_alloc_new wr _)
                have Hzq := Lib.hid (show q1 < z1 ∧ q2 < z1 by have := HI.out.size; have := HQN.out; omega)
                have HQa := Lib.hid (HQ1.out.but (S := fun _ => False) (But.of hb) (fun h => h))
                have HQb := Lib.hid (HQ2.out.but (S := fun _ => False) (But.of hb) (fun h => h))
                clear hb HI HQ1 HQ2 hgk2 hin hfw Hoa ef htl
                go_upto_region 36 with (fail)
                try rw [ev1]
                try rw [ez1]
                clear ev1 ez1 hidx c0 c1 c2 c3 c4 c5 c6 c7 c8 c9 cA cB i0 i1 ep hlt htn
                obtain ⟨f1, f2, f3, f4, f5, f6, f7, f8, f9, fa, fb, fc⟩ := ac12 HZ1.out
                go_wp2_with fail
                refine (X1.out v1 HI1.out).mono ?_
                rintro e v2 ⟨rfl, hb⟩
                have HI2 := Lib.hid (HI1.out.trans (But.of hb))
                have HZ2 := Lib.hid (blk_on HZ1.out hb)
                have HQ3 := Lib.hid (HQa.out.but (S := fun _ => False) (But.of hb) (fun h => h))
                have HQ4 := Lib.hid (HQb.out.but (S := fun _ => False) (But.of hb) (fun h => h))
                clear HI1 HZ1 HQa HQb
                have HI1 := HI2
                have HZ1 := HZ2
                have HQa := HQ3
                have HQb := HQ4
                clear HI2 HZ2 HQ3 HQ4 hb
                clear f1 f2 f3 f4 f5 f6 f7 f8 f9 fa fb fc
                obtain ⟨f1, f2, f3, f4, f5, f6, f7, f8, f9, fa, fb, fc⟩ := ac12 HZ1.out
                go_wp2_with fail
                refine (X2.out v2 HI1.out).mono ?_
                rintro e v3 ⟨rfl, hb⟩
                have HI2 := Lib.hid (HI1.out.trans (But.of hb))
                have HZ2 := Lib.hid (blk_on HZ1.out hb)
                have HQ3 := Lib.hid (HQa.out.but (S := fun _ => False) (But.of hb) (fun h => h))
                have HQ4 := Lib.hid (HQb.out.but (S := fun _ => False) (But.of hb) (fun h => h))
                clear HI1 HZ1 HQa HQb
                have HI1 := HI2
                have HZ1 := HZ2
                have HQa := HQ3
                have HQb := HQ4
                clear HI2 HZ2 HQ3 HQ4 hb
                clear f1 f2 f3 f4 f5 f6 f7 f8 f9 fa fb fc
                obtain ⟨f1, f2, f3, f4, f5, f6, f7, f8, f9, fa, fb, fc⟩ := ac12 HZ1.out
                obtain ⟨z2, ez2⟩ : ∃ z, v3.heap.size = z := ⟨_, rfl⟩
                obtain ⟨v4, ev4⟩ : ∃ v, v3.alloc (.cells #[.int .u64 f.id, .int .u8 f.i.pr, .int .u32 f.i.sr, .int .u32 f.i.ds, .int .u16 f.i.sp, .int .u16 f.i.dp, .int .u8 f.o.pr, .int .u32 f.o.sr, .int .u32 f.o.ds, .int .u16 f.o.sp, .int .u16 f.o.dp, .bool em] 51) = v := ⟨_, rfl⟩
                have hb : Below v3.heap.size v3 v4 := by rw [← ev4]; exact (Below.refl _ _).alloc (Nat.le_refl _) _
                have HZb := Lib.hid (show v4.heap[z2]? = some (.cells #[.int .u64 f.id, .int .u8 f.i.pr, .int .u32 f.i.sr, .int .u32 f.i.ds, .int .u16 f.i.sp, .int .u16 f.i.dp, .int .u8 f.o.pr, .int .u32 f.o.sr, .int .u32 f.o.ds, .int .u16 f.o.sp, .int .u16 f.o.dp, .bool em] 51 (0, 0)) by rw [← ev4, ← ez2]; exact heap_alloc_new v3 _)
                have HI2 := Lib.hid (HI1.out.trans (But.of hb))
                have HZ2 := Lib.hid (blk_on HZ1.out hb)
                have HQ3 := Lib.hid (HQa.out.but (S := fun _ => False) (But.of hb) (fun h => h))
                have HQ4 := Lib.hid (HQb.out.but (S := fun _ => False) (But.of hb) (fun h => h))
                clear HI1 HZ1 HQa HQb
                have HI1 := HI2
                have HZ1 := HZ2
                have HQa := HQ3
                have HQb := HQ4
                clear HI2 HZ2 HQ3 HQ4 hb
                clear f1 f2 f3 f4 f5 f6 f7 f8 f9 fa fb fc
                obtain ⟨f1, f2, f3, f4, f5, f6, f7, f8, f9, fa, fb, fc⟩ := ac12 HZ1.out
                go_upto_region 38 with (fail)
                try rw [ev4]
                try rw [ez2]
                clear ev4 ez2
                obtain ⟨g1, g2, g3, g4, g5, g6, g7, g8, g9, ga, gb, gc⟩ := ac12 HZb.out
                have lkI := HQa.out.look_no_i (t := f.i) kI
                have lkO := HQb.out.look_no_i (t := f.o) kO
                have r2 : (f.id != f.id) = false := by simp
                obtain ⟨v5, hput, hmq, hbq⟩ := HQa.out.put_i f.i (.int .i64 1)
                have HI5 := Lib.hid (HI1.out.trans (hbq.mono (fun k _ e => .inl e)))
                have HZ5 := Lib.hid (hbq.blk HZ1.out (fun e => by have := Hzq.out; omega))
                have HQc := Lib.hid (HQb.out.but hbq (fun e => by have := HQN.out; omega))
                have HQd := Lib.hid (hmq.congr Hi.out (R' := oneT) (fun e _ => by simp only [oneT]; split <;> rfl))
                clear hmq hbq kI kO Hi X1 X2 HZb
                cases em with
                | true =>
                  have lkR := (HW.out v4 HI1.out).2.1.look_no_i (e := f.id) (fun hk => by have := kR.1 hk; cases this)
                  have Hxe := Lib.hid (show x = ((cR (L'.drop (t + 1)) : Nat) : Int) by have hcd := Hcd.out; have hx := Hx.out; simp at hcd; omega)
                  have kN := Lib.hid (show ¬ KR L' f.id from fun hk => by have := kR.1 hk; cases this)
                  clear kR Hcd Hx
                  go_upto_region 41 with (fail)
                  clear f1 f2 f3 f4 f5 f6 f7 f8 f9 fa fb fc
                  clear lkI lkO lkR g1 g2 g3 g4 g5 g6 g7 g8 g9 ga gb gc hput HI1 HZ1 HQa HQb
                  obtain ⟨v6, ev6⟩ : ∃ v, v5.drew = v := ⟨_, rfl⟩
                  have hb6 : But (fun _ => False) v5 v6 := by rw [← ev6]; exact (But.refl _ _).drew
                  have HI6 := Lib.hid (HI5.out.trans (hb6.mono (fun _ _ h => h.elim)))
                  have HZ6 := Lib.hid (hb6.blk HZ5.out (fun h => h))
                  have HQe := Lib.hid (HQc.out.but hb6 (fun h => h))
                  have HQf := Lib.hid (HQd.out.but hb6 (fun h => h))
                  have HST := Lib.hid (show ∀ w', Below v6.heap.size v6 w' → (w'.cell? ⟨z1, 6, none⟩ = some (.int .u8 f.o.pr) ∧ w'.cell? ⟨z1, 7, none⟩ = some (.int .u32 f.o.sr) ∧ w'.cell? ⟨z1, 8, none⟩ = some (.int .u32 f.o.ds) ∧ w'.cell? ⟨z1, 9, none⟩ = some (.int .u16 f.o.sp) ∧ w'.cell? ⟨z1, 10, none⟩ = some (.int .u16 f.o.dp)) from fun w' hW => by
                    obtain ⟨_, _, _, _, _, _, h7, h8, h9, ha, hb, _⟩ := ac12 (blk_on HZ6.out hW)
                    exact ⟨h7, h8, h9, ha, hb⟩)
                  clear hb6 HI5 HZ5 HQc HQd
                  by_cases ho : f.o = zT
                  · have hne : ∀ W, (binOp .neq 37 (.agg #[.int .u8 f.o.pr, .int .u32 f.o.sr, .int .u32 f.o.ds, .int .u16 f.o.sp, .int .u16 f.o.dp]) (.agg #[.int .u8 0, .int .u32 0, .int .u32 0, .int .u16 0, .int .u16 0])).run Try.prog W = .ok (.bool false) W := fun W => by
                      have h := tu_neq f.o zT W
                      rw [(tuSame_iff _ _).2 ho] at h
                      exact h
                    have HQg := Lib.hid (HQe.out.congr (Ho0.out ho) (R' := oneT) (fun _ _ => rfl))
                    clear ho HQe
                    refine wp_region_noPanic ?_
                    refine wp_region_held_drew (S := fun w' => (w'.cell? ⟨z1, 6, none⟩ = some (.int .u8 f.o.pr) ∧ w'.cell? ⟨z1, 7, none⟩ = some (.int .u32 f.o.sr) ∧ w'.cell? ⟨z1, 8, none⟩ = some (.int .u32 f.o.ds) ∧ w'.cell? ⟨z1, 9, none⟩ = some (.int .u16 f.o.sp) ∧ w'.cell? ⟨z1, 10, none⟩ = some (.int .u16 f.o.dp))) (by kernel_rfl) (by rw [ev6]; exact HST.out _ (Below.refl _ _)) (fun hHeld => ?_)
                    rw [ev6] at hHeld ⊢
                    clear ev6
                    refine wpAnyH_take (i := 0) (oi := { dst := some 224, op := Go.Op.fieldAddr 51 (Go.Operand.tmp 20) 2, type := 0, pos := "outright.go:57", after := #[], guard := none }) (v := ?_) rfl (by kernel_rfl) (by kernel_rfl) (by kernel_rfl) (fun _ _ _ h => h) (Or.inl ⟨by rfl, ?_⟩) (by assumption) ?_
                    rotate_left 1
                    · intro w' hSw; (go_simp <;> (with_reducible rfl))
                    (try simp only [Act.put, List.setIfInBounds_toArray, List.set_cons_zero, List.set_cons_succ])
                    refine wpAnyH_take (i := 1) (oi := { dst := some 225, op := Go.Op.load 37 (Go.Operand.tmp 224), type := 37, pos := "outright.go:57", after := #[{ on := 0, ground := Go.Ground.data }], guard := none }) (v := ?_) rfl (by kernel_rfl) (by kernel_rfl) (by kernel_rfl) (fun _ _ _ h => h) (Or.inl ⟨by rfl, ?_⟩) (by assumption) ?_
                    rotate_left 1
                    · intro w' hSw; (go_simp <;> (with_reducible rfl))
                    (try simp only [Act.put, List.setIfInBounds_toArray, List.set_cons_zero, List.set_cons_succ])
                    refine wpAnyH_ready (rs := [2]) (by kernel_rfl) (by simp) ?_
                    refine AllReadyH.cons (o := { dst := some 226, op := Go.Op.call { callee := Go.Callee.value (Go.Operand.func 31), args := #[Go.Operand.const (Go.Value.int Go.IntKind.u32 0)], argTypes := #[34] }, type := 37, pos := "outright.go:57", after := #[], guard := none }) rfl (fun K hK => ?_) AllReadyH.nil
                    go_simp
                    (refine (of_any 0 v6).mono ?_; rintro e v7 ⟨rfl, hb⟩; have Hb7 := Lib.hid hb; clear hb)
                    refine hK.out _ _ ?_ (fun hHeld => ?_)
                    · exact HST.out _ Hb7.out
                    clear hK K
                    (try simp only [Act.put, List.setIfInBounds_toArray, List.set_cons_zero, List.set_cons_succ])
                    refine wpAnyH_take (i := 3) (oi := { dst := some 227, op := Go.Op.binOp Go.BinOp.neq 37 (Go.Operand.tmp 225) (Go.Operand.tmp 226) 37, type := 4, pos := "outright.go:57", after := #[{ on := 1, ground := Go.Ground.data }, { on := 2, ground := Go.Ground.data }], guard := none }) (v := ?_) rfl (by kernel_rfl) (by kernel_rfl) (by kernel_rfl) (fun _ _ _ h => h) (Or.inl ⟨by rfl, ?_⟩) (by assumption) ?_
                    rotate_left 1
                    · intro w' hSw; (go_simp <;> (with_reducible rfl))
                    (try simp only [Act.put, List.setIfInBounds_toArray, List.set_cons_zero, List.set_cons_succ])
                    refine wpAnyH_done (by kernel_rfl) ?_ _
                    refine NoPanic.normal ?_
                    clear hHeld hne
                    have hbm := But.of (S := fun _ => False) Hb7.out
                    have HI8 := Lib.hid (HI6.out.trans (hbm.mono (fun _ _ h => h.elim)))
                    have HQh := Lib.hid (HQg.out.but hbm (fun h => h))
                    have HQi := Lib.hid (HQf.out.but hbm (fun h => h))
                    have HZ8 := Lib.hid (blk_on HZ6.out Hb7.out)
                    have lkS := (HW.out v7 HI8.out).2.1.look_no_i (e := f.id) kN.out
                    skip
                    clear hbm HI6 HQf HQg HZ6
                    obtain ⟨f1, f2, f3, f4, f5, f6, f7, f8, f9, fa, fb, fc⟩ := ac12 HZ8.out
                    go_wp2_with fail
                    clear f1 f2 f3 f4 f5 f6 f7 f8 f9 fa fb fc
                    go_roundg (gk - 1)
                    case measure => have := Hk2.out; have := Htn.out; omega
                    case rel => exact ⟨t + 1, x, by have := Hk2.out; have := Htn.out; show gk - 1 + (t + 1) = _; omega, by have := Htn.out; omega, by have := Htn.out; have := Hnl.out; go_num, rfl, Hxe, HI8, HQi, HQh⟩
                  · have hne : ∀ W, (binOp .neq 37 (.agg #[.int .u8 f.o.pr, .int .u32 f.o.sr, .int .u32 f.o.ds, .int .u16 f.o.sp, .int .u16 f.o.dp]) (.agg #[.int .u8 0, .int .u32 0, .int .u32 0, .int .u16 0, .int .u16 0])).run Try.prog W = .ok (.bool true) W := fun W => by
                      have h := tu_neq f.o zT W
                      rw [show tuSame f.o zT = false from by cases hq : tuSame f.o zT; rfl; exact absurd ((tuSame_iff _ _).1 hq) ho] at h
                      exact h
                    have Hno := Lib.hid ho
                    clear ho
                    refine wp_region_noPanic ?_
                    refine wp_region_held_drew (S := fun w' => (w'.cell? ⟨z1, 6, none⟩ = some (.int .u8 f.o.pr) ∧ w'.cell? ⟨z1, 7, none⟩ = some (.int .u32 f.o.sr) ∧ w'.cell? ⟨z1, 8, none⟩ = some (.int .u32 f.o.ds) ∧ w'.cell? ⟨z1, 9, none⟩ = some (.int .u16 f.o.sp) ∧ w'.cell? ⟨z1, 10, none⟩ = some (.int .u16 f.o.dp))) (by kernel_rfl) (by rw [ev6]; exact HST.out _ (Below.refl _ _)) (fun hHeld => ?_)
                    rw [ev6] at hHeld ⊢
                    clear ev6
                    refine wpAnyH_take (i := 0) (oi := { dst := some 224, op := Go.Op.fieldAddr 51 (Go.Operand.tmp 20) 2, type := 0, pos := "outright.go:57", after := #[], guard := none }) (v := ?_) rfl (by kernel_rfl) (by kernel_rfl) (by kernel_rfl) (fun _ _ _ h => h) (Or.inl ⟨by rfl, ?_⟩) (by assumption) ?_
                    rotate_left 1
                    · intro w' hSw; (go_simp <;> (with_reducible rfl))
                    (try simp only [Act.put, List.setIfInBounds_toArray, List.set_cons_zero, List.set_cons_succ])
                    refine wpAnyH_take (i := 1) (oi := { dst := some 225, op := Go.Op.load 37 (Go.Operand.tmp 224), type := 37, pos := "outright.go:57", after := #[{ on := 0, ground := Go.Ground.data }], guard := none }) (v := ?_) rfl (by kernel_rfl) (by kernel_rfl) (by kernel_rfl) (fun _ _ _ h => h) (Or.inl ⟨by rfl, ?_⟩) (by assumption) ?_
                    rotate_left 1
                    · intro w' hSw; (go_simp <;> (with_reducible rfl))
                    (try simp only [Act.put, List.setIfInBounds_toArray, List.set_cons_zero, List.set_cons_succ])
                    refine wpAnyH_ready (rs := [2]) (by kernel_rfl) (by simp) ?_
                    refine AllReadyH.cons (o := { dst := some 226, op := Go.Op.call { callee := Go.Callee.value (Go.Operand.func 31), args := #[Go.Operand.const (Go.Value.int Go.IntKind.u32 0)], argTypes := #[34] }, type := 37, pos := "outright.go:57", after := #[], guard := none }) rfl (fun K hK => ?_) AllReadyH.nil
                    go_simp
                    (refine (of_any 0 v6).mono ?_; rintro e v7 ⟨rfl, hb⟩; have Hb7 := Lib.hid hb; clear hb)
                    refine hK.out _ _ ?_ (fun hHeld => ?_)
                    · exact HST.out _ Hb7.out
                    clear hK K
                    (try simp only [Act.put, List.setIfInBounds_toArray, List.set_cons_zero, List.set_cons_succ])
                    refine wpAnyH_take (i := 3) (oi := { dst := some 227, op := Go.Op.binOp Go.BinOp.neq 37 (Go.Operand.tmp 225) (Go.Operand.tmp 226) 37, type := 4, pos := "outright.go:57", after := #[{ on := 1, ground := Go.Ground.data }, { on := 2, ground := Go.Ground.data }], guard := none }) (v := ?_) rfl (by kernel_rfl) (by kernel_rfl) (by kernel_rfl) (fun _ _ _ h => h) (Or.inl ⟨by rfl, ?_⟩) (by assumption) ?_
                    rotate_left 1
                    · intro w' hSw; (go_simp <;> (with_reducible rfl))
                    (try simp only [Act.put, List.setIfInBounds_toArray, List.set_cons_zero, List.set_cons_succ])
                    refine wpAnyH_done (by kernel_rfl) ?_ _
                    refine NoPanic.normal ?_
                    clear hHeld hne
                    have hbm := But.of (S := fun _ => False) Hb7.out
                    obtain ⟨v8, hput, hmq, hbq⟩ := (HQe.out.but hbm (fun h => h)).put_i f.o (.int .i64 1)
                    have HI8 := Lib.hid ((HI6.out.trans (hbm.mono (fun _ _ h => h.elim))).trans (hbq.mono (fun k _ e => .inr e)))
                    have HZ7 := Lib.hid (blk_on HZ6.out Hb7.out)
                    have HZ8 := Lib.hid (hbq.blk HZ7.out (fun e => by have := Hzq.out; omega))
                    have HQi := Lib.hid ((HQf.out.but hbm (fun h => h)).but hbq (fun e => by have := HQN.out; omega))
                    have HQh := Lib.hid (hmq.congr (Ho1.out Hno.out) (R' := oneT) (fun e _ => by simp only [oneT]; split <;> rfl))
                    clear hbm hmq hbq HI6 HQe HQf HZ6
                    obtain ⟨f1, f2, f3, f4, f5, f6, f7, f8, f9, fa, fb, fc⟩ := ac12 HZ7.out
                    go_upto_region 43 with (fail)
                    clear hput HZ7
                    clear f1 f2 f3 f4 f5 f6 f7 f8 f9 fa fb fc
                    obtain ⟨f1, f2, f3, f4, f5, f6, f7, f8, f9, fa, fb, fc⟩ := ac12 HZ8.out
                    go_wp2_with fail
                    refine (X3.out Hno.out v8 HI8.out).mono ?_
                    rintro e v9 ⟨rfl, hb⟩
                    have HI9 := Lib.hid (HI8.out.trans (But.of hb))
                    have HZ9 := Lib.hid (blk_on HZ8.out hb)
                    have HQj := Lib.hid (HQh.out.but (S := fun _ => False) (But.of hb) (fun h => h))
                    have HQk := Lib.hid (HQi.out.but (S := fun _ => False) (But.of hb) (fun h => h))
                    clear hb HI8 HZ8 HQh HQi
                    have HI8 := HI9
                    have HQh := HQj
                    have HQi := HQk
                    have lkS := (HW.out v9 HI8.out).2.1.look_no_i (e := f.id) kN.out
                    skip
                    clear f1 f2 f3 f4 f5 f6 f7 f8 f9 fa fb fc
                    obtain ⟨f1, f2, f3, f4, f5, f6, f7, f8, f9, fa, fb, fc⟩ := ac12 HZ9.out
                    go_wp2_with fail
                    clear f1 f2 f3 f4 f5 f6 f7 f8 f9 fa fb fc
                    go_roundg (gk - 1)
                    case measure => have := Hk2.out; have := Htn.out; omega
                    case rel => exact ⟨t + 1, x, by have := Hk2.out; have := Htn.out; show gk - 1 + (t + 1) = _; omega, by have := Htn.out; omega, by have := Htn.out; have := Hnl.out; go_num, rfl, Hxe, HI8, HQi, HQh⟩
                | false =>
                  have lkR := (HW.out v4 HI1.out).2.1.look_i (e := f.id) (kR.2 rfl)
                  rw [show one1 f.id = Value.int .i64 1 from rfl] at lkR
                  have hcl : cR (L'.drop (t + 1)) ≤ 1024 := by have h1 := Hnl.out.2; have h2 := Enl.out; unfold cR; refine Nat.le_trans (List.length_filter_le _ _) ?_; rw [List.length_drop]; omega
                  have hxw : IntKind.i64.wrap (x - 1) = ((cR (L'.drop (t + 1)) : Nat) : Int) := by have hcd := Hcd.out; have hx := Hx.out; rw [IntKind.wrap_i64]; simp at hcd; omega
                  have kN := Lib.hid (show KR L' f.id from kR.2 rfl)
                  clear kR Hcd Hx hcl
                  go_upto_region 41 with (fail)
                  clear f1 f2 f3 f4 f5 f6 f7 f8 f9 fa fb fc
                  clear lkI lkO lkR g1 g2 g3 g4 g5 g6 g7 g8 g9 ga gb gc hput HI1 HZ1 HQa HQb
                  obtain ⟨v6, ev6⟩ : ∃ v, v5.drew = v := ⟨_, rfl⟩
                  have hb6 : But (fun _ => False) v5 v6 := by rw [← ev6]; exact (But.refl _ _).drew
                  have HI6 := Lib.hid (HI5.out.trans (hb6.mono (fun _ _ h => h.elim)))
                  have HZ6 := Lib.hid (hb6.blk HZ5.out (fun h => h))
                  have HQe := Lib.hid (HQc.out.but hb6 (fun h => h))
                  have HQf := Lib.hid (HQd.out.but hb6 (fun h => h))
                  have HST := Lib.hid (show ∀ w', Below v6.heap.size v6 w' → (w'.cell? ⟨z1, 6, none⟩ = some (.int .u8 f.o.pr) ∧ w'.cell? ⟨z1, 7, none⟩ = some (.int .u32 f.o.sr) ∧ w'.cell? ⟨z1, 8, none⟩ = some (.int .u32 f.o.ds) ∧ w'.cell? ⟨z1, 9, none⟩ = some (.int .u16 f.o.sp) ∧ w'.cell? ⟨z1, 10, none⟩ = some (.int .u16 f.o.dp)) from fun w' hW => by
                    obtain ⟨_, _, _, _, _, _, h7, h8, h9, ha, hb, _⟩ := ac12 (blk_on HZ6.out hW)
                    exact ⟨h7, h8, h9, ha, hb⟩)
                  clear hb6 HI5 HZ5 HQc HQd
                  by_cases ho : f.o = zT
                  · have hne : ∀ W, (binOp .neq 37 (.agg #[.int .u8 f.o.pr, .int .u32 f.o.sr, .int .u32 f.o.ds, .int .u16 f.o.sp, .int .u16 f.o.dp]) (.agg #[.int .u8 0, .int .u32 0, .int .u32 0, .int .u16 0, .int .u16 0])).run Try.prog W = .ok (.bool false) W := fun W => by
                      have h := tu_neq f.o zT W
                      rw [(tuSame_iff _ _).2 ho] at h
                      exact h
                    have HQg := Lib.hid (HQe.out.congr (Ho0.out ho) (R' := oneT) (fun _ _ => rfl))
                    clear ho HQe
                    refine wp_region_noPanic ?_
                    refine wp_region_held_drew (S := fun w' => (w'.cell? ⟨z1, 6, none⟩ = some (.int .u8 f.o.pr) ∧ w'.cell? ⟨z1, 7, none⟩ = some (.int .u32 f.o.sr) ∧ w'.cell? ⟨z1, 8, none⟩ = some (.int .u32 f.o.ds) ∧ w'.cell? ⟨z1, 9, none⟩ = some (.int .u16 f.o.sp) ∧ w'.cell? ⟨z1, 10, none⟩ = some (.int .u16 f.o.dp))) (by kernel_rfl) (by rw [ev6]; exact HST.out _ (Below.refl _ _)) (fun hHeld => ?_)
                    rw [ev6] at hHeld ⊢
                    clear ev6
                    refine wpAnyH_take (i := 0) (oi := { dst := some 224, op := Go.Op.fieldAddr 51 (Go.Operand.tmp 20) 2, type := 0, pos := "outright.go:57", after := #[], guard := none }) (v := ?_) rfl (by kernel_rfl) (by kernel_rfl) (by kernel_rfl) (fun _ _ _ h => h) (Or.inl ⟨by rfl, ?_⟩) (by assumption) ?_
                    rotate_left 1
                    · intro w' hSw; (go_simp <;> (with_reducible rfl))
                    (try simp only [Act.put, List.setIfInBounds_toArray, List.set_cons_zero, List.set_cons_succ])
                    refine wpAnyH_take (i := 1) (oi := { dst := some 225, op := Go.Op.load 37 (Go.Operand.tmp 224), type := 37, pos := "outright.go:57", after := #[{ on := 0, ground := Go.Ground.data }], guard := none }) (v := ?_) rfl (by kernel_rfl) (by kernel_rfl) (by kernel_rfl) (fun _ _ _ h => h) (Or.inl ⟨by rfl, ?_⟩) (by assumption) ?_
                    rotate_left 1
                    · intro w' hSw; (go_simp <;> (with_reducible rfl))
                    (try simp only [Act.put, List.setIfInBounds_toArray, List.set_cons_zero, List.set_cons_succ])
                    refine wpAnyH_ready (rs := [2]) (by kernel_rfl) (by simp) ?_
                    refine AllReadyH.cons (o := { dst := some 226, op := Go.Op.call { callee := Go.Callee.value (Go.Operand.func 31), args := #[Go.Operand.const (Go.Value.int Go.IntKind.u32 0)], argTypes := #[34] }, type := 37, pos := "outright.go:57", after := #[], guard := none }) rfl (fun K hK => ?_) AllReadyH.nil
                    go_simp
                    (refine (of_any 0 v6).mono ?_; rintro e v7 ⟨rfl, hb⟩; have Hb7 := Lib.hid hb; clear hb)
                    refine hK.out _ _ ?_ (fun hHeld => ?_)
                    · exact HST.out _ Hb7.out
                    clear hK K
                    (try simp only [Act.put, List.setIfInBounds_toArray, List.set_cons_zero, List.set_cons_succ])
                    refine wpAnyH_take (i := 3) (oi := { dst := some 227, op := Go.Op.binOp Go.BinOp.neq 37 (Go.Operand.tmp 225) (Go.Operand.tmp 226) 37, type := 4, pos := "outright.go:57", after := #[{ on := 1, ground := Go.Ground.data }, { on := 2, ground := Go.Ground.data }], guard := none }) (v := ?_) rfl (by kernel_rfl) (by kernel_rfl) (by kernel_rfl) (fun _ _ _ h => h) (Or.inl ⟨by rfl, ?_⟩) (by assumption) ?_
                    rotate_left 1
                    · intro w' hSw; (go_simp <;> (with_reducible rfl))
                    (try simp only [Act.put, List.setIfInBounds_toArray, List.set_cons_zero, List.set_cons_succ])
                    refine wpAnyH_done (by kernel_rfl) ?_ _
                    refine NoPanic.normal ?_
                    clear hHeld hne
                    have hbm := But.of (S := fun _ => False) Hb7.out
                    have HI8 := Lib.hid (HI6.out.trans (hbm.mono (fun _ _ h => h.elim)))
                    have HQh := Lib.hid (HQg.out.but hbm (fun h => h))
                    have HQi := Lib.hid (HQf.out.but hbm (fun h => h))
                    have HZ8 := Lib.hid (blk_on HZ6.out Hb7.out)
                    have lkS := (HW.out v7 HI8.out).2.1.look_i (e := f.id) kN.out
                    rw [show one1 f.id = Value.int .i64 1 from rfl] at lkS
                    clear hbm HI6 HQf HQg HZ6
                    obtain ⟨f1, f2, f3, f4, f5, f6, f7, f8, f9, fa, fb, fc⟩ := ac12 HZ8.out
                    go_wp2_with fail
                    clear f1 f2 f3 f4 f5 f6 f7 f8 f9 fa fb fc
                    go_roundg (gk - 1)
                    case measure => have := Hk2.out; have := Htn.out; omega
                    case rel => exact ⟨t + 1, ((cR (L'.drop (t + 1)) : Nat) : Int), by have := Hk2.out; have := Htn.out; show gk - 1 + (t + 1) = _; omega, by have := Htn.out; omega, by have := Htn.out; have := Hnl.out; go_num, rfl, (Lib.hid rfl), HI8, HQi, HQh⟩
                  · have hne : ∀ W, (binOp .neq 37 (.agg #[.int .u8 f.o.pr, .int .u32 f.o.sr, .int .u32 f.o.ds, .int .u16 f.o.sp, .int .u16 f.o.dp]) (.agg #[.int .u8 0, .int .u32 0, .int .u32 0, .int .u16 0, .int .u16 0])).run Try.prog W = .ok (.bool true) W := fun W => by
                      have h := tu_neq f.o zT W
                      rw [show tuSame f.o zT = false from by cases hq : tuSame f.o zT; rfl; exact absurd ((tuSame_iff _ _).1 hq) ho] at h
                      exact h
                    have Hno := Lib.hid ho
                    clear ho
                    refine wp_region_noPanic ?_
                    refine wp_region_held_drew (S := fun w' => (w'.cell? ⟨z1, 6, none⟩ = some (.int .u8 f.o.pr) ∧ w'.cell? ⟨z1, 7, none⟩ = some (.int .u32 f.o.sr) ∧ w'.cell? ⟨z1, 8, none⟩ = some (.int .u32 f.o.ds) ∧ w'.cell? ⟨z1, 9, none⟩ = some (.int .u16 f.o.sp) ∧ w'.cell? ⟨z1, 10, none⟩ = some (.int .u16 f.o.dp))) (by kernel_rfl) (by rw [ev6]; exact HST.out _ (Below.refl _ _)) (fun hHeld => ?_)
                    rw [ev6] at hHeld ⊢
                    clear ev6
                    refine wpAnyH_take (i := 0) (oi := { dst := some 224, op := Go.Op.fieldAddr 51 (Go.Operand.tmp 20) 2, type := 0, pos := "outright.go:57", after := #[], guard := none }) (v := ?_) rfl (by kernel_rfl) (by kernel_rfl) (by kernel_rfl) (fun _ _ _ h => h) (Or.inl ⟨by rfl, ?_⟩) (by assumption) ?_
                    rotate_left 1
                    · intro w' hSw; (go_simp <;> (with_reducible rfl))
                    (try simp only [Act.put, List.setIfInBounds_toArray, List.set_cons_zero, List.set_cons_succ])
                    refine wpAnyH_take (i := 1) (oi := { dst := some 225, op := Go.Op.load 37 (Go.Operand.tmp 224), type := 37, pos := "outright.go:57", after := #[{ on := 0, ground := Go.Ground.data }], guard := none }) (v := ?_) rfl (by kernel_rfl) (by kernel_rfl) (by kernel_rfl) (fun _ _ _ h => h) (Or.inl ⟨by rfl, ?_⟩) (by assumption) ?_
                    rotate_left 1
                    · intro w' hSw; (go_simp <;> (with_reducible rfl))
                    (try simp only [Act.put, List.setIfInBounds_toArray, List.set_cons_zero, List.set_cons_succ])
                    refine wpAnyH_ready (rs := [2]) (by kernel_rfl) (by simp) ?_
                    refine AllReadyH.cons (o := { dst := some 226, op := Go.Op.call { callee := Go.Callee.value (Go.Operand.func 31), args := #[Go.Operand.const (Go.Value.int Go.IntKind.u32 0)], argTypes := #[34] }, type := 37, pos := "outright.go:57", after := #[], guard := none }) rfl (fun K hK => ?_) AllReadyH.nil
                    go_simp
                    (refine (of_any 0 v6).mono ?_; rintro e v7 ⟨rfl, hb⟩; have Hb7 := Lib.hid hb; clear hb)
                    refine hK.out _ _ ?_ (fun hHeld => ?_)
                    · exact HST.out _ Hb7.out
                    clear hK K
                    (try simp only [Act.put, List.setIfInBounds_toArray, List.set_cons_zero, List.set_cons_succ])
                    refine wpAnyH_take (i := 3) (oi := { dst := some 227, op := Go.Op.binOp Go.BinOp.neq 37 (Go.Operand.tmp 225) (Go.Operand.tmp 226) 37, type := 4, pos := "outright.go:57", after := #[{ on := 1, ground := Go.Ground.data }, { on := 2, ground := Go.Ground.data }], guard := none }) (v := ?_) rfl (by kernel_rfl) (by kernel_rfl) (by kernel_rfl) (fun _ _ _ h => h) (Or.inl ⟨by rfl, ?_⟩) (by assumption) ?_
                    rotate_left 1
                    · intro w' hSw; (go_simp <;> (with_reducible rfl))
                    (try simp only [Act.put, List.setIfInBounds_toArray, List.set_cons_zero, List.set_cons_succ])
                    refine wpAnyH_done (by kernel_rfl) ?_ _
                    refine NoPanic.normal ?_
                    clear hHeld hne
                    have hbm := But.of (S := fun _ => False) Hb7.out
                    obtain ⟨v8, hput, hmq, hbq⟩ := (HQe.out.but hbm (fun h => h)).put_i f.o (.int .i64 1)
                    have HI8 := Lib.hid ((HI6.out.trans (hbm.mono (fun _ _ h => h.elim))).trans (hbq.mono (fun k _ e => .inr e)))
                    have HZ7 := Lib.hid (blk_on HZ6.out Hb7.out)
                    have HZ8 := Lib.hid (hbq.blk HZ7.out (fun e => by have := Hzq.out; omega))
                    have HQi := Lib.hid ((HQf.out.but hbm (fun h => h)).but hbq (fun e => by have := HQN.out; omega))
                    have HQh := Lib.hid (hmq.congr (Ho1.out Hno.out) (R' := oneT) (fun e _ => by simp only [oneT]; split <;> rfl))
                    clear hbm hmq hbq HI6 HQe HQf HZ6
                    obtain ⟨f1, f2, f3, f4, f5, f6, f7, f8, f9, fa, fb, fc⟩ := ac12 HZ7.out
                    go_upto_region 43 with (fail)
                    clear hput HZ7
                    clear f1 f2 f3 f4 f5 f6 f7 f8 f9 fa fb fc
                    obtain ⟨f1, f2, f3, f4, f5, f6, f7, f8, f9, fa, fb, fc⟩ := ac12 HZ8.out
                    go_wp2_with fail
                    refine (X3.out Hno.out v8 HI8.out).mono ?_
                    rintro e v9 ⟨rfl, hb⟩
                    have HI9 := Lib.hid (HI8.out.trans (But.of hb))
                    have HZ9 := Lib.hid (blk_on HZ8.out hb)
                    have HQj := Lib.hid (HQh.out.but (S := fun _ => False) (But.of hb) (fun h => h))
                    have HQk := Lib.hid (HQi.out.but (S := fun _ => False) (But.of hb) (fun h => h))
                    clear hb HI8 HZ8 HQh HQi
                    have HI8 := HI9
                    have HQh := HQj
                    have HQi := HQk
                    have lkS := (HW.out v9 HI8.out).2.1.look_i (e := f.id) kN.out
                    rw [show one1 f.id = Value.int .i64 1 from rfl] at lkS
                    clear f1 f2 f3 f4 f5 f6 f7 f8 f9 fa fb fc
                    obtain ⟨f1, f2, f3, f4, f5, f6, f7, f8, f9, fa, fb, fc⟩ := ac12 HZ9.out
                    go_wp2_with fail
                    clear f1 f2 f3 f4 f5 f6 f7 f8 f9 fa fb fc
                    go_roundg (gk - 1)
                    case measure => have := Hk2.out; have := Htn.out; omega
                    case rel => exact ⟨t + 1, ((cR (L'.drop (t + 1)) : Nat) : Int), by have := Hk2.out; have := Htn.out; show gk - 1 + (t + 1) = _; omega, by have := Htn.out; omega, by have := Htn.out; have := Hnl.out; go_num, rfl, (Lib.hid rfl), HI8, HQi, HQh⟩
            · as_aux_lemma =>
                obtain rfl : nl = t := by omega
                obtain rfl : x = 0 := by rw [Hx.out, ← Enl.out, cR_end]; rfl
                obtain ⟨x1, e1⟩ : ∃ y, idOf (innF ta L') = y := ⟨_, rfl⟩
                obtain ⟨b1, d1⟩ : ∃ y, isOf (innF ta L') = y := ⟨_, rfl⟩
                obtain ⟨x2, e2⟩ : ∃ y, idOf (outF xb L') = y := ⟨_, rfl⟩
                obtain ⟨b2, d2⟩ : ∃ y, isOf (outF xb L') = y := ⟨_, rfl⟩
                have Y1 := Lib.hid (fun W hW => inner_z (ZR B rm zA) g m l' L' W (HW.out W hW).1 ta x1 b1 e1 d1)
                have Y2 := Lib.hid (fun W hW => outer_z (ZR B rm zA) g m l' L' W (HW.out W hW).1 xb x2 b2 e2 d2)
                have Hb1 := Lib.hid (show KI L' nl ta ↔ b1 = true by rw [← d1, ← Enl.out]; exact KI_all L' ta)
                have Hb2 := Lib.hid (show KO L' nl xb ↔ b2 = true by rw [← d2, ← Enl.out]; exact KO_all L' xb)
                clear e1 d1 e2 d2 Hx htn
                obtain ⟨a0, a1, a2, a3, a4, a5, a6, a7, a8, a9, aa, ab⟩ := ac12 (HW.out wr HI.out).2.2
                go_wp2_with fail
                refine (Y1.out wr HI.out).mono ?_
                rintro e u1 ⟨rfl, hb⟩
                have HI1 := Lib.hid (HI.out.trans (But.of hb))
                have HQa := Lib.hid (HQ1.out.but (S := fun _ => False) (But.of hb) (fun h => h))
                have HQb := Lib.hid (HQ2.out.but (S := fun _ => False) (But.of hb) (fun h => h))
                clear hb HI HQ1 HQ2
                clear a0 a1 a2 a3 a4 a5 a6 a7 a8 a9 aa ab
                obtain ⟨a0, a1, a2, a3, a4, a5, a6, a7, a8, a9, aa, ab⟩ := ac12 (HW.out u1 HI1.out).2.2
                go_wp2_with fail
                refine (Y2.out u1 HI1.out).mono ?_
                rintro e u2 ⟨rfl, hb⟩
                have HI2 := Lib.hid (HI1.out.trans (But.of hb))
                have lk1 := (HQa.out.but (S := fun _ => False) (But.of hb) (fun h => h)).val (fun _ => rfl) ta b1 Hb1.out
                have lk2 := (HQb.out.but (S := fun _ => False) (But.of hb) (fun h => h)).val (fun _ => rfl) xb b2 Hb2.out
                clear hb HI1 HQa HQb Hb1 Hb2
                clear a0 a1 a2 a3 a4 a5 a6 a7 a8 a9 aa ab
                obtain ⟨a0, a1, a2, a3, a4, a5, a6, a7, a8, a9, aa, ab⟩ := ac12 (HW.out u2 HI2.out).2.2
                have HBu := Lib.hid (show Below N wx u2 from HBy.out.trans (HI2.out.below (fun k hk => by have := HQN.out; omega) (by have := HQN.out; omega)))
                have HTu := Lib.hid ((HW.out u2 HI2.out).1.sub (Z' := ZM B rm) (fun k hk => .inl hk))
                have HMu := Lib.hid (HW.out u2 HI2.out).2.1
                have HBw := Lib.hid (HBx.out.trans (HBu.out.mono HSx.out))
                cases b1 <;> cases b2
                all_goals
                  simp only [if_true, Bool.false_eq_true, if_false] at lk1 lk2
                  go_wp2_with fail
                  go_roundg (n - (j + 1))
                  case measure => have := hgk.out; have := Hjn.out; omega
                  case rel => exact ⟨j + 1, l', L', by have := hgk.out; have := Hjn.out; show n - (j + 1) + (j + 1) = _; omega, by have := Hjn.out; omega, by have := Hj2.out; omega, by have := Hj2.out; go_num, rfl, HTu, HMu, Lib.hid (by have := HNx.out; omega), HBw⟩
      · have i3 : ((j : Int) == 200) = true := by simp; omega
        clear hj2
        go_wp2_with fail
        try rw [ewa]
        go_ret
        exact ⟨rfl, by rw [eB]; exact HBa.out⟩
    · obtain rfl : n = j := by omega
      go_wp2_with fail
      go_ret
      exact ⟨rfl, by rw [eB]; exact HB.out⟩
theorem walk (w : World) (most : Int) (h1 : (Lit.int .u8 most).wf = true) (vl : Value) (hl : AcsAt w vl) : Calls Try.prog 4 #[.int .u8 most, vl] w fun e w' => e = .returned (.bool true) ∧ Below w.heap.size w w' :=
  walk0 w most (by have := bounds_u8 h1; omega) vl hl
theorem own : ownKnob Try.prog.godebug = none := by kernel_rfl
theorem laidOut : laidOutB Try.prog = true := by kernel_rfl

set_option maxRecDepth 100000 in
theorem lifted (os : Os) (started : os.Started) (H : Type) (enc : TypeId × Value → H) :
    ReturnsInHanded {} Try.checked os 4 .any (Rows.tableOneSpec.pre6 enc Try.prog Try.f4 Rows.tableOneRow.domain false) (Rows.tableOneSpec.post enc Try.prog Try.f4 false true false false) := by
  refine returnsInHanded_of_change (C := Try.checked) own started (by kernel_rfl) Try.func4
    (ChangeSpec.witness6 (enc := enc) (C := Try.checked) false ⟨#[], #[.int .u8 0, (.slice none 0 0)], []⟩ 8 (by kernel_rfl) (by kernel_rfl) (by kernel_rfl) (by kernel_rfl)) ?_
  intro W base args ds gs before hval0 hW hcnd _
  have hval : ∀ (j : Nat) t v, Try.f4.params[j]? = some t → args[j]? = some v → Value.okWide Try.prog W .any base t v := hval0
  have hW' := hW
  obtain ⟨p, q, hA0, hV, rfl, hfz, hnd⟩ := hW
  have hA : DataW.TrodAll enc Try.prog W 0 (fun _ => true) true Try.f4.params.toList args.toList ds p := hA0
  rw [Try.params4] at hA hval
  obtain ⟨v0, vs0, d0, ds0, p0, q0, hargs, rfl, rfl, h0, r0⟩ := trodAll_cons hA
  obtain ⟨v1, vs1, d1, ds1, p1, q1, rfl, rfl, rfl, h1, r1⟩ := trodAll_cons r0
  obtain ⟨rfl, rfl, rfl⟩ := trodAll_nil r1
  obtain rfl : args = #[v0, v1] := by cases args; simp_all
  obtain ⟨rfl, rfl⟩ := trodVars_none hV
  obtain ⟨a0, rfl, rfl, rfl, w0⟩ := open_int Try.underlying5 (hval 0 5 v0 rfl rfl) h0
  have k1 := acs_open (hval 1 22 v1 rfl rfl) h1
  have lt1 : ∀ x ∈ p1, x.block < W.heap.size := by obtain ⟨m, hm⟩ := h1; exact DataW.trod_lt m _ _ _ hm
  clear hA0 hval0
  refine (walk W a0 w0 v1 k1).mono fun e W' ⟨he, bel⟩ => ?_
  subst he
  exact ⟨_, rfl, _, _, _, [], _, [], hW', trodAll_mk1 (shut_bool Try.underlying4 _), (trodAll_cons_mk (shut_int Try.underlying5 w0) (trodAll_cons_mk (Below.trod laidOut (by kernel_rfl) (of_decide_eq_true (by kernel_rfl)) h1 bel lt1) trodAll_mk0)), rfl, bel.frame _, fun h => by cases h⟩

theorem over : Rows.tableOneRow.holds Try.pinned (OpenSpec.ofChange Rows.tableOneSpec) :=
  OpenClaim.holds_of_wide 4 Try.f4 rfl rfl rfl rfl rfl rfl rfl ⟨rfl, rfl, rfl, rfl, rfl⟩ rfl rfl rfl rfl rfl (by kernel_rfl) Try.func4 (by kernel_rfl)
    (of_decide_eq_true (by kernel_rfl)) (by unfold Func.isWrapper; first | (rw [if_pos (by decide +kernel)]; kernel_rfl) | (rw [if_neg (by decide +kernel)]; exact ⟨rfl, rfl⟩))
    (fun os started H enc _ => lifted os started H enc)

/-- The statement. -/
theorem proved : Rows.TableOneSaid := over
#print axioms proved
end Go.Proofs.Ytnhlbohdlnjaaaa.tableOne
