/-
  TablePlays holds: any calls tell what the document's table tells; copies live apart.
-/
import Derived.Test.YtnhlbohdlnjaaaaTbPair
import Derived.Test.YtnhlbohdlnjaaaaTbOpen
import Derived.Test.YtnhlbohdlnjaaaaTbNone
import Derived.Deep.CutRange
import Derived.Deep.CutBlock
import Derived.Deep.DeepCutAuto
import Derived.BigQuiet
import Derived.Deep.RegionHeld3
import Derived.Deep.LoopGhost
import Derived.BigRegion
namespace Go.Proofs.Ytnhlbohdlnjaaaa.tablePlays
set_option maxRecDepth 10000
open Go.ChangeShapes Go.WideShapes Go.ChangeAt Go.RowKit
set_option linter.unusedVariables false
set_option linter.unusedSimpArgs false

theorem addF_last {M l : Int} {t x : Tu} {L L' : TL} {r : Int × Int × Int} {l' : Int} (h : addF M l t x L = (r, L', l')) : l' ≤ l + 1 := by
  unfold addF at h
  repeat' split at h
  all_goals (simp only [Prod.mk.injEq] at h; omega)
def ZB (B zA : Nat) : Nat → Prop := fun k => k < B ∨ k = zA
theorem ac12 {w : World} {g : Nat} {T : TypeId} {fr : Nat × Nat} {u0 u1 u2 u3 u4 u5 u6 u7 u8 u9 ua ub : Value} (h : w.heap[g]? = some (.cells #[u0, u1, u2, u3, u4, u5, u6, u7, u8, u9, ua, ub] T fr)) :
    w.cell? ⟨g, 0, none⟩ = some u0 ∧ w.cell? ⟨g, 1, none⟩ = some u1 ∧ w.cell? ⟨g, 2, none⟩ = some u2 ∧ w.cell? ⟨g, 3, none⟩ = some u3 ∧ w.cell? ⟨g, 4, none⟩ = some u4 ∧ w.cell? ⟨g, 5, none⟩ = some u5 ∧ w.cell? ⟨g, 6, none⟩ = some u6 ∧ w.cell? ⟨g, 7, none⟩ = some u7 ∧ w.cell? ⟨g, 8, none⟩ = some u8 ∧ w.cell? ⟨g, 9, none⟩ = some u9 ∧ w.cell? ⟨g, 10, none⟩ = some ua ∧ w.cell? ⟨g, 11, none⟩ = some ub := by
  refine ⟨?_, ?_, ?_, ?_, ?_, ?_, ?_, ?_, ?_, ?_, ?_, ?_⟩ <;> (rw [blk_cell h]; rfl)
theorem op_cells {w : World} {g : Nat} {T : TypeId} {fr : Nat × Nat} {u0 u1 u2 u3 u4 u5 u6 u7 u8 u9 ua ub : Value} (h : w.heap[g]? = some (.cells #[u0, u1, u2, u3, u4, u5, u6, u7, u8, u9, ua, ub] T fr)) :
    w.cell? ⟨g, 1, none⟩ = some u1 ∧ w.cell? ⟨g, 7, none⟩ = some u7 ∧ w.cell? ⟨g, 8, none⟩ = some u8 ∧ w.cell? ⟨g, 9, none⟩ = some u9 ∧ w.cell? ⟨g, 10, none⟩ = some ua ∧ w.cell? ⟨g, 11, none⟩ = some ub := by
  obtain ⟨_, h1, _, _, _, _, _, h7, h8, h9, ha, hb⟩ := ac12 h
  exact ⟨h1, h7, h8, h9, ha, hb⟩
theorem bad (w : World) (M : Int) (v : Value) (hb : M < 1 ∨ 1024 < M) :
    Calls Try.prog 3 #[.int .i64 M, v] w fun e w' => e = .returned (.bool true) ∧ Below w.heap.size w w' := by
  have H1 := Lib.hid (new_bad M w hb)
  have H2 := Lib.hid (rnew_bad M w hb)
  clear hb
  go_enter Try.func3, Try.ntmps3
  go_wp2_with fail
  refine H1.out.mono ?_
  rintro e w1 ⟨rfl, rfl⟩
  go_wp2_with fail
  refine H2.out.mono ?_
  rintro e w1 ⟨rfl, rfl⟩
  go_wp2_with fail
  refine (awake_any _).mono ?_
  rintro e w1 ⟨rfl, hb1⟩
  have Hb1 := Lib.hid hb1
  clear hb1
  go_wp2_with fail
  refine (touch_nil 1 w1).mono ?_
  rintro e w2 ⟨rfl, hb2⟩
  have Hb2 := Lib.hid (below_trans Hb1.out hb2)
  clear hb2
  go_wp2_with fail
  refine (len_nil w2).mono ?_
  rintro e w3 ⟨rfl, rfl⟩
  go_wp2_with fail
  go_ret
  exact ⟨rfl, Hb2.out⟩
set_option maxHeartbeats 4000000 in
theorem good (w : World) (M : Int) (hM : 1 ≤ M ∧ M ≤ 1024) (vl : Value) (hl : AcsAt w vl) :
    Calls Try.prog 3 #[.int .i64 M, vl] w fun e w' => e = .returned (.bool true) ∧ Below w.heap.size w w' := by
  obtain ⟨A, n, c, rfl, hnc, hcm, hrd⟩ := hl
  have Hrd := Lib.hid hrd
  have Hn := Lib.hid (new_t M w hM)
  have HnR := Lib.hid (fun W => rnew_any M W hM)
  obtain ⟨B, eB⟩ : ∃ B, w.heap.size = B := ⟨_, rfl⟩
  clear hrd hnc hM
  go_enter Try.func3, Try.ntmps3
  go_wp2_with fail
  refine Hn.out.mono ?_
  rintro e w1 ⟨g, S, rfl, hp, hb, hS⟩
  have HT := Lib.hid hp
  have HB1 := Lib.hid hb
  have HS1 := Lib.hid hS
  clear hp hb hS Hn
  go_wp2_with fail
  refine (HnR.out w1).mono ?_
  rintro e w2 ⟨gr, SR, rfl, hp, hb, hS⟩
  have HP := Lib.hid (PairT.new HT.out HS1.out HB1.out hp hS hb)
  have HB2 := Lib.hid (below_trans HB1.out hb)
  clear hp hb hS HT HB1 HS1 HnR
  go_wp2_with fail
  refine (awake_any w2).mono ?_
  rintro e w3 ⟨rfl, hb⟩
  have HP3 := Lib.hid (HP.out.below hb)
  have HB3 := Lib.hid (below_trans HB2.out hb)
  clear HP HB2 hb
  have HP := HP3
  have HB := HB3
  clear HP3 HB3
  rw [eB] at HP
  go_wp2_with fail
  go_loopg [5, 66] n (fun gk s5 i wr => ∃ (j gq : Nat) (l : Int) (L : TL), Hid (gk + j = n) ∧ j ≤ n ∧ j ≤ 300 ∧ i = .int .i64 (j : Int) ∧ s5 = .pointer (some ⟨gq, 0, none⟩) ∧ Hid (PairT (fun k => k < B) wr gq M l L gr l L) ∧ Hid (l ≤ (j : Int)) ∧ Hid (Below w.heap.size w wr))
  case atStart => exact ⟨0, g, 0, [], rfl, Nat.zero_le _, by omega, rfl, rfl, HP, Lib.hid (by omega), HB⟩
  case round =>
    obtain ⟨j, gq, l, L, hgk, hj, hj300, rfl, rfl, HP, HL, HB⟩ := hrel
    by_cases hjn : j < n
    · obtain ⟨b, pp, kd, ido, ta, xb, hidx, hbl, hac, -⟩ := (Hrd.out.below HB.out).index (c := c) hjn
      obtain ⟨q0, q1, q2, q3, q4, q5, q6, q7, q8, q9, qa, qb⟩ := hac
      have i0 : (0 : Int) ≤ (j : Int) := by omega
      have i1 : (j : Int) < (n : Int) := by omega
      obtain ⟨zA, ezA⟩ : ∃ zA, wr.heap.size = zA := ⟨_, rfl⟩
      obtain ⟨wa, ewa⟩ : ∃ wa, wr.alloc (.cells #[.int .i64 kd, .int .u64 ido, .int .u8 ta.pr, .int .u32 ta.sr, .int .u32 ta.ds, .int .u16 ta.sp, .int .u16 ta.dp, .int .u8 xb.pr, .int .u32 xb.sr, .int .u32 xb.ds, .int .u16 xb.sp, .int .u16 xb.dp] 39) = wa := ⟨_, rfl⟩
      have hba : Below wr.heap.size wr wa := by rw [← ewa]; exact (Below.refl _ _).alloc (Nat.le_refl _) _
      have HKa := Lib.hid (show wa.heap[zA]? = some (.cells #[.int .i64 kd, .int .u64 ido, .int .u8 ta.pr, .int .u32 ta.sr, .int .u32 ta.ds, .int .u16 ta.sp, .int .u16 ta.dp, .int .u8 xb.pr, .int .u32 xb.sr, .int .u32 xb.ds, .int .u16 xb.sp, .int .u16 xb.dp] 39 (0, 0)) by rw [← ewa, ← ezA]; exact heap_alloc_new wr _)
      have HPa := Lib.hid (show PairT (ZB B zA) wa gq M l L gr l L from HP.out.more hba (P := fun k => k = zA) (fun k hk => ⟨by omega, by have := lt_of_block HKa.out; omega⟩))
      have HBa := Lib.hid (HB.out.trans (hba.mono HB.out.size))
      have HSa := Lib.hid (show B ≤ wa.heap.size by rw [← eB]; exact HBa.out.size)
      have HOk := Lib.hid HP.out.ok
      rw [eB] at HBa
      have Hjn := Lib.hid hjn
      clear hba HP HB hjn
      by_cases hj3 : j < 300
      · have i3 : ((j : Int) == 300) = false := by simp; omega
        have Hj3 := Lib.hid hj3
        clear hj3
        go_upto_region 11 with (fail)
        try rw [ewa]
        try rw [ezA]
        clear ewa ezA hidx q0 q1 q2 q3 q4 q5 q6 q7 q8 q9 qa qb i0 i1 hbl i3
        obtain ⟨a0, a1, a2, a3, a4, a5, a6, a7, a8, a9, aa, ab⟩ := ac12 HKa.out
        go_upto_block 2 with (fail)
        go_cut [5] (fun s5 wx => ∃ (g' : Nat) (l' : Int) (L' : TL), s5 = .pointer (some ⟨g', 0, none⟩) ∧ Hid (PairT (ZB B zA) wx g' M l' L' gr l' L') ∧ Hid (l' ≤ (j : Int) + 1) ∧ Hid (wx.heap[zA]? = some (.cells #[.int .i64 kd, .int .u64 ido, .int .u8 ta.pr, .int .u32 ta.sr, .int .u32 ta.ds, .int .u16 ta.sp, .int .u16 ta.dp, .int .u8 xb.pr, .int .u32 xb.sr, .int .u32 xb.ds, .int .u16 xb.sp, .int .u16 xb.dp] 39 (0, 0))) ∧ Hid (Below B w wx ∧ B ≤ wx.heap.size))
        case first =>
          by_cases hk0 : kd = 0
          · subst hk0
            as_aux_lemma =>
              obtain ⟨⟨⟨n0, wt, er⟩, L', l'⟩, ea⟩ : ∃ r, addF M l ta xb L = r := ⟨_, rfl⟩
              have hl' := addF_last ea
              have Hs := Lib.hid (qadd (ZB B zA) gq gr M l l L L wa HPa.out ta xb n0 wt er l' L' (by have := HL.out; omega) ea)
              have Hr := Lib.hid (fun W (h : PairT (ZB B zA) W gq M l' L' gr l L) => qradd (ZB B zA) gq gr M l' l L' L W h ta xb n0 wt er l' L' HOk.out.n HOk.out.lb ea)
              have HN := Lib.hid (show l' ≤ (j : Int) + 1 by have := HL.out; omega)
              have r1 : (n0 != n0) = false := by simp
              have r2 : (wt != wt) = false := by simp
              have r3 : (er != er) = false := by simp
              clear ea hl'
              go_wp2_with fail
              refine Hs.out.mono ?_
              rintro e wb ⟨rfl, hp, hb⟩
              have HPb := Lib.hid hp
              have HBb := Lib.hid (HBa.out.trans (belT hb (fun k hk => .inl hk) HSa.out))
              have HKb := Lib.hid (hb.blk HKa.out (fun e => e (.inr rfl)))
              have HSb := Lib.hid (Nat.le_trans HSa.out hb.size)
              clear hp hb
              clear a0 a1 a2 a3 a4 a5 a6 a7 a8 a9 aa ab
              obtain ⟨a0, a1, a2, a3, a4, a5, a6, a7, a8, a9, aa, ab⟩ := ac12 HKb.out
              go_wp2_with fail
              refine (Hr.out _ HPb.out).mono ?_
              rintro e wc ⟨rfl, hp, hb⟩
              have HPc := Lib.hid hp
              have HBc := Lib.hid (HBb.out.trans (belT hb (fun k hk => .inl hk) HSb.out))
              have HKc := Lib.hid (hb.blk HKb.out (fun e => e (.inr rfl)))
              clear hp hb
              clear a0 a1 a2 a3 a4 a5 a6 a7 a8 a9 aa ab
              go_wp2_with fail
              go_meet
              case rel => exact ⟨gq, l', L', rfl, HPc, HN, HKc, Lib.hid ⟨HBc.out, by have h := HBc.out.size; rw [eB] at h; exact h⟩⟩
          by_cases hk1 : kd = 1
          · subst hk1
            as_aux_lemma =>
              obtain ⟨⟨er, L'⟩, ea⟩ : ∃ r, leadR ido xb L = r := ⟨_, rfl⟩
              go_upto_region 18 with (fail)
              have HPd := Lib.hid (HPa.out.drewN 1)
              have HKd := Lib.hid (((But.refl (fun _ => False) wa).drewN 1).blk HKa.out (fun h => h))
              have HBd := Lib.hid (HBa.out.trans (((But.refl (fun _ => False) wa).drewN 1).below (fun _ h => h.elim) HSa.out))
              obtain ⟨wd, ewd⟩ : ∃ wd, wa.drew = wd := ⟨_, rfl⟩
              have ewd1 : wa.drewN 1 = wd := ewd
              rw [ewd1] at HPd HKd HBd
              have HSd := Lib.hid (show B ≤ wd.heap.size by rw [← ewd]; exact HSa.out)
              clear a0 a1 a2 a3 a4 a5 a6 a7 a8 a9 aa ab
              refine wp_region_noPanic ?_
              refine wp_region_held_drew (S := fun w' => (w'.cell? ⟨zA, 1, none⟩ = some (.int .u64 ido) ∧ w'.cell? ⟨zA, 7, none⟩ = some (.int .u8 xb.pr) ∧ w'.cell? ⟨zA, 8, none⟩ = some (.int .u32 xb.sr) ∧ w'.cell? ⟨zA, 9, none⟩ = some (.int .u32 xb.ds) ∧ w'.cell? ⟨zA, 10, none⟩ = some (.int .u16 xb.sp) ∧ w'.cell? ⟨zA, 11, none⟩ = some (.int .u16 xb.dp))) (by kernel_rfl) (by rw [ewd]; exact op_cells HKd.out) (fun hHeld => ?_)
              rw [ewd] at hHeld ⊢
              clear ewd ewd1 HPa HKa HBa HSa
              have Hs := Lib.hid (qlead (ZB B zA) gq gr M l l L L wd HPd.out ido er xb L' ea)
              have Hr := Lib.hid (fun W (h : PairT (ZB B zA) W gq M l L' gr l L) => qrlead (ZB B zA) gq gr M l l L' L W h ido er xb L' HOk.out.n ea)
              have HN := Lib.hid (show l ≤ (j : Int) + 1 by have := HL.out; omega)
              have r1 : (er != er) = false := by simp
              clear ea
              refine wpAnyH_take (i := 0) (oi := { dst := some 112, op := Go.Op.move (Go.Operand.tmp 5), type := 23, pos := "law.go:71", after := #[], guard := none }) (v := ?_) rfl (by kernel_rfl) (by kernel_rfl) (by kernel_rfl) (fun _ _ _ h => h) (Or.inl ⟨by rfl, ?_⟩) (by assumption) ?_
              rotate_left 1
              · intro w' hSw; (go_simp <;> (with_reducible rfl))
              (try simp only [Act.put, List.setIfInBounds_toArray, List.set_cons_zero, List.set_cons_succ])
              refine wpAnyH_take (i := 1) (oi := { dst := some 113, op := Go.Op.fieldAddr 39 (Go.Operand.tmp 10) 1, type := 0, pos := "law.go:71", after := #[], guard := none }) (v := ?_) rfl (by kernel_rfl) (by kernel_rfl) (by kernel_rfl) (fun _ _ _ h => h) (Or.inl ⟨by rfl, ?_⟩) (by assumption) ?_
              rotate_left 1
              · intro w' hSw; (go_simp <;> (with_reducible rfl))
              (try simp only [Act.put, List.setIfInBounds_toArray, List.set_cons_zero, List.set_cons_succ])
              refine wpAnyH_take (i := 2) (oi := { dst := some 114, op := Go.Op.load 32 (Go.Operand.tmp 113), type := 32, pos := "law.go:71", after := #[{ on := 1, ground := Go.Ground.data }], guard := none }) (v := ?_) rfl (by kernel_rfl) (by kernel_rfl) (by kernel_rfl) (fun _ _ _ h => h) (Or.inl ⟨by rfl, ?_⟩) (by assumption) ?_
              rotate_left 1
              · intro w' hSw; (go_simp <;> (with_reducible rfl))
              (try simp only [Act.put, List.setIfInBounds_toArray, List.set_cons_zero, List.set_cons_succ])
              refine wpAnyH_take (i := 3) (oi := { dst := some 115, op := Go.Op.fieldAddr 39 (Go.Operand.tmp 10) 3, type := 0, pos := "law.go:71", after := #[], guard := none }) (v := ?_) rfl (by kernel_rfl) (by kernel_rfl) (by kernel_rfl) (fun _ _ _ h => h) (Or.inl ⟨by rfl, ?_⟩) (by assumption) ?_
              rotate_left 1
              · intro w' hSw; (go_simp <;> (with_reducible rfl))
              (try simp only [Act.put, List.setIfInBounds_toArray, List.set_cons_zero, List.set_cons_succ])
              refine wpAnyH_take (i := 4) (oi := { dst := some 116, op := Go.Op.load 37 (Go.Operand.tmp 115), type := 37, pos := "law.go:71", after := #[{ on := 3, ground := Go.Ground.data }], guard := none }) (v := ?_) rfl (by kernel_rfl) (by kernel_rfl) (by kernel_rfl) (fun _ _ _ h => h) (Or.inl ⟨by rfl, ?_⟩) (by assumption) ?_
              rotate_left 1
              · intro w' hSw; (go_simp <;> (with_reducible rfl))
              (try simp only [Act.put, List.setIfInBounds_toArray, List.set_cons_zero, List.set_cons_succ])
              refine wpAnyH_take (i := 6) (oi := { dst := some 118, op := Go.Op.move (Go.Operand.tmp 7), type := 27, pos := "law.go:71", after := #[], guard := none }) (v := ?_) rfl (by kernel_rfl) (by kernel_rfl) (by kernel_rfl) (fun _ _ _ h => h) (Or.inl ⟨by rfl, ?_⟩) (by assumption) ?_
              rotate_left 1
              · intro w' hSw; (go_simp <;> (with_reducible rfl))
              (try simp only [Act.put, List.setIfInBounds_toArray, List.set_cons_zero, List.set_cons_succ])
              refine wpAnyH_take (i := 7) (oi := { dst := some 119, op := Go.Op.fieldAddr 39 (Go.Operand.tmp 10) 1, type := 0, pos := "law.go:71", after := #[], guard := none }) (v := ?_) rfl (by kernel_rfl) (by kernel_rfl) (by kernel_rfl) (fun _ _ _ h => h) (Or.inl ⟨by rfl, ?_⟩) (by assumption) ?_
              rotate_left 1
              · intro w' hSw; (go_simp <;> (with_reducible rfl))
              (try simp only [Act.put, List.setIfInBounds_toArray, List.set_cons_zero, List.set_cons_succ])
              refine wpAnyH_take (i := 8) (oi := { dst := some 120, op := Go.Op.load 32 (Go.Operand.tmp 119), type := 32, pos := "law.go:71", after := #[{ on := 7, ground := Go.Ground.data }], guard := none }) (v := ?_) rfl (by kernel_rfl) (by kernel_rfl) (by kernel_rfl) (fun _ _ _ h => h) (Or.inl ⟨by rfl, ?_⟩) (by assumption) ?_
              rotate_left 1
              · intro w' hSw; (go_simp <;> (with_reducible rfl))
              (try simp only [Act.put, List.setIfInBounds_toArray, List.set_cons_zero, List.set_cons_succ])
              refine wpAnyH_take (i := 9) (oi := { dst := some 121, op := Go.Op.fieldAddr 39 (Go.Operand.tmp 10) 3, type := 0, pos := "law.go:71", after := #[], guard := none }) (v := ?_) rfl (by kernel_rfl) (by kernel_rfl) (by kernel_rfl) (fun _ _ _ h => h) (Or.inl ⟨by rfl, ?_⟩) (by assumption) ?_
              rotate_left 1
              · intro w' hSw; (go_simp <;> (with_reducible rfl))
              (try simp only [Act.put, List.setIfInBounds_toArray, List.set_cons_zero, List.set_cons_succ])
              refine wpAnyH_take (i := 10) (oi := { dst := some 122, op := Go.Op.load 37 (Go.Operand.tmp 121), type := 37, pos := "law.go:71", after := #[{ on := 9, ground := Go.Ground.data }], guard := none }) (v := ?_) rfl (by kernel_rfl) (by kernel_rfl) (by kernel_rfl) (fun _ _ _ h => h) (Or.inl ⟨by rfl, ?_⟩) (by assumption) ?_
              rotate_left 1
              · intro w' hSw; (go_simp <;> (with_reducible rfl))
              (try simp only [Act.put, List.setIfInBounds_toArray, List.set_cons_zero, List.set_cons_succ])
              refine wpAnyH_ready (rs := [5]) (by kernel_rfl) (by simp) ?_
              refine AllReadyH.cons (o := { dst := some 117, op := Go.Op.call { callee := Go.Callee.value (Go.Operand.func 15), args := #[Go.Operand.tmp 112, Go.Operand.tmp 114, Go.Operand.tmp 116], argTypes := #[23, 32, 37] }, type := 24, pos := "law.go:71", after := #[{ on := 0, ground := Go.Ground.data }, { on := 2, ground := Go.Ground.data }, { on := 4, ground := Go.Ground.data }], guard := none }) rfl (fun K hK => ?_) AllReadyH.nil
              go_simp
              (refine Hs.out.mono ?_; rintro e wb ⟨rfl, hp, hb⟩; have HPb := Lib.hid hp; have HBb := Lib.hid (HBd.out.trans (belT hb (fun k hk => .inl hk) HSd.out)); have HKb := Lib.hid (hb.blk HKd.out (fun e => e (.inr rfl))); have HSb := Lib.hid (Nat.le_trans HSd.out hb.size); clear hp hb)
              refine hK.out _ _ ?_ (fun hHeld => ?_)
              · exact op_cells HKb.out
              clear hK K
              (try simp only [Act.put, List.setIfInBounds_toArray, List.set_cons_zero, List.set_cons_succ])
              refine wpAnyH_ready (rs := [11]) (by kernel_rfl) (by simp) ?_
              refine AllReadyH.cons (o := { dst := some 123, op := Go.Op.call { callee := Go.Callee.value (Go.Operand.func 16), args := #[Go.Operand.tmp 118, Go.Operand.tmp 120, Go.Operand.tmp 122], argTypes := #[27, 32, 37] }, type := 3, pos := "law.go:71", after := #[{ on := 6, ground := Go.Ground.data }, { on := 8, ground := Go.Ground.data }, { on := 10, ground := Go.Ground.data }, { on := 5, ground := Go.Ground.chain }], guard := none }) rfl (fun K hK => ?_) AllReadyH.nil
              go_simp
              (refine (Hr.out _ HPb.out).mono ?_; rintro e wc ⟨rfl, hp, hb⟩; have HPc := Lib.hid hp; have HBc := Lib.hid (HBb.out.trans (belT hb (fun k hk => .inl hk) HSb.out)); have HKc := Lib.hid (hb.blk HKb.out (fun e => e (.inr rfl))); clear hp hb)
              refine hK.out _ _ ?_ (fun hHeld => ?_)
              · exact op_cells HKc.out
              clear hK K
              (try simp only [Act.put, List.setIfInBounds_toArray, List.set_cons_zero, List.set_cons_succ])
              refine wpAnyH_take (i := 12) (oi := { dst := some 124, op := Go.Op.binOp Go.BinOp.neq 3 (Go.Operand.tmp 117) (Go.Operand.tmp 123) 3, type := 4, pos := "law.go:71", after := #[{ on := 5, ground := Go.Ground.data }, { on := 11, ground := Go.Ground.data }], guard := none }) (v := ?_) rfl (by kernel_rfl) (by kernel_rfl) (by kernel_rfl) (fun _ _ _ h => h) (Or.inl ⟨by rfl, ?_⟩) (by assumption) ?_
              rotate_left 1
              · intro w' hSw; (go_simp <;> (with_reducible rfl))
              (try simp only [Act.put, List.setIfInBounds_toArray, List.set_cons_zero, List.set_cons_succ])
              refine wpAnyH_done (by kernel_rfl) ?_ _
              refine NoPanic.normal ?_
              clear hHeld
              go_wp2_with fail
              go_meet
              case rel => exact ⟨gq, l, L', rfl, HPc, HN, HKc, Lib.hid ⟨HBc.out, by have h := HBc.out.size; rw [eB] at h; exact h⟩⟩
          by_cases hk2 : kd = 2
          · subst hk2
            as_aux_lemma =>
              obtain ⟨⟨er, L'⟩, ea⟩ : ∃ r, touchR ido L = r := ⟨_, rfl⟩
              go_upto_region 21 with (fail)
              have HPd := Lib.hid (HPa.out.drewN 1)
              have HKd := Lib.hid (((But.refl (fun _ => False) wa).drewN 1).blk HKa.out (fun h => h))
              have HBd := Lib.hid (HBa.out.trans (((But.refl (fun _ => False) wa).drewN 1).below (fun _ h => h.elim) HSa.out))
              obtain ⟨wd, ewd⟩ : ∃ wd, wa.drew = wd := ⟨_, rfl⟩
              have ewd1 : wa.drewN 1 = wd := ewd
              rw [ewd1] at HPd HKd HBd
              have HSd := Lib.hid (show B ≤ wd.heap.size by rw [← ewd]; exact HSa.out)
              clear a0 a1 a2 a3 a4 a5 a6 a7 a8 a9 aa ab
              refine wp_region_noPanic ?_
              refine wp_region_held_drew (S := fun w' => (w'.cell? ⟨zA, 1, none⟩ = some (.int .u64 ido) ∧ w'.cell? ⟨zA, 7, none⟩ = some (.int .u8 xb.pr) ∧ w'.cell? ⟨zA, 8, none⟩ = some (.int .u32 xb.sr) ∧ w'.cell? ⟨zA, 9, none⟩ = some (.int .u32 xb.ds) ∧ w'.cell? ⟨zA, 10, none⟩ = some (.int .u16 xb.sp) ∧ w'.cell? ⟨zA, 11, none⟩ = some (.int .u16 xb.dp))) (by kernel_rfl) (by rw [ewd]; exact op_cells HKd.out) (fun hHeld => ?_)
              rw [ewd] at hHeld ⊢
              clear ewd ewd1 HPa HKa HBa HSa
              have Hs := Lib.hid (qtouch (ZB B zA) gq gr M l l L L wd HPd.out ido er L' ea)
              have Hr := Lib.hid (fun W (h : PairT (ZB B zA) W gq M l L' gr l L) => qrtouch (ZB B zA) gq gr M l l L' L W h ido er L' HOk.out.n ea)
              have HN := Lib.hid (show l ≤ (j : Int) + 1 by have := HL.out; omega)
              have r1 : (er != er) = false := by simp
              clear ea
              refine wpAnyH_take (i := 0) (oi := { dst := some 127, op := Go.Op.move (Go.Operand.tmp 5), type := 23, pos := "law.go:75", after := #[], guard := none }) (v := ?_) rfl (by kernel_rfl) (by kernel_rfl) (by kernel_rfl) (fun _ _ _ h => h) (Or.inl ⟨by rfl, ?_⟩) (by assumption) ?_
              rotate_left 1
              · intro w' hSw; (go_simp <;> (with_reducible rfl))
              (try simp only [Act.put, List.setIfInBounds_toArray, List.set_cons_zero, List.set_cons_succ])
              refine wpAnyH_take (i := 1) (oi := { dst := some 128, op := Go.Op.fieldAddr 39 (Go.Operand.tmp 10) 1, type := 0, pos := "law.go:75", after := #[], guard := none }) (v := ?_) rfl (by kernel_rfl) (by kernel_rfl) (by kernel_rfl) (fun _ _ _ h => h) (Or.inl ⟨by rfl, ?_⟩) (by assumption) ?_
              rotate_left 1
              · intro w' hSw; (go_simp <;> (with_reducible rfl))
              (try simp only [Act.put, List.setIfInBounds_toArray, List.set_cons_zero, List.set_cons_succ])
              refine wpAnyH_take (i := 2) (oi := { dst := some 129, op := Go.Op.load 32 (Go.Operand.tmp 128), type := 32, pos := "law.go:75", after := #[{ on := 1, ground := Go.Ground.data }], guard := none }) (v := ?_) rfl (by kernel_rfl) (by kernel_rfl) (by kernel_rfl) (fun _ _ _ h => h) (Or.inl ⟨by rfl, ?_⟩) (by assumption) ?_
              rotate_left 1
              · intro w' hSw; (go_simp <;> (with_reducible rfl))
              (try simp only [Act.put, List.setIfInBounds_toArray, List.set_cons_zero, List.set_cons_succ])
              refine wpAnyH_take (i := 4) (oi := { dst := some 131, op := Go.Op.move (Go.Operand.tmp 7), type := 27, pos := "law.go:75", after := #[], guard := none }) (v := ?_) rfl (by kernel_rfl) (by kernel_rfl) (by kernel_rfl) (fun _ _ _ h => h) (Or.inl ⟨by rfl, ?_⟩) (by assumption) ?_
              rotate_left 1
              · intro w' hSw; (go_simp <;> (with_reducible rfl))
              (try simp only [Act.put, List.setIfInBounds_toArray, List.set_cons_zero, List.set_cons_succ])
              refine wpAnyH_take (i := 5) (oi := { dst := some 132, op := Go.Op.fieldAddr 39 (Go.Operand.tmp 10) 1, type := 0, pos := "law.go:75", after := #[], guard := none }) (v := ?_) rfl (by kernel_rfl) (by kernel_rfl) (by kernel_rfl) (fun _ _ _ h => h) (Or.inl ⟨by rfl, ?_⟩) (by assumption) ?_
              rotate_left 1
              · intro w' hSw; (go_simp <;> (with_reducible rfl))
              (try simp only [Act.put, List.setIfInBounds_toArray, List.set_cons_zero, List.set_cons_succ])
              refine wpAnyH_take (i := 6) (oi := { dst := some 133, op := Go.Op.load 32 (Go.Operand.tmp 132), type := 32, pos := "law.go:75", after := #[{ on := 5, ground := Go.Ground.data }], guard := none }) (v := ?_) rfl (by kernel_rfl) (by kernel_rfl) (by kernel_rfl) (fun _ _ _ h => h) (Or.inl ⟨by rfl, ?_⟩) (by assumption) ?_
              rotate_left 1
              · intro w' hSw; (go_simp <;> (with_reducible rfl))
              (try simp only [Act.put, List.setIfInBounds_toArray, List.set_cons_zero, List.set_cons_succ])
              refine wpAnyH_ready (rs := [3]) (by kernel_rfl) (by simp) ?_
              refine AllReadyH.cons (o := { dst := some 130, op := Go.Op.call { callee := Go.Callee.value (Go.Operand.func 11), args := #[Go.Operand.tmp 127, Go.Operand.tmp 129], argTypes := #[23, 32] }, type := 24, pos := "law.go:75", after := #[{ on := 0, ground := Go.Ground.data }, { on := 2, ground := Go.Ground.data }], guard := none }) rfl (fun K hK => ?_) AllReadyH.nil
              go_simp
              (refine Hs.out.mono ?_; rintro e wb ⟨rfl, hp, hb⟩; have HPb := Lib.hid hp; have HBb := Lib.hid (HBd.out.trans (belT hb (fun k hk => .inl hk) HSd.out)); have HKb := Lib.hid (hb.blk HKd.out (fun e => e (.inr rfl))); have HSb := Lib.hid (Nat.le_trans HSd.out hb.size); clear hp hb)
              refine hK.out _ _ ?_ (fun hHeld => ?_)
              · exact op_cells HKb.out
              clear hK K
              (try simp only [Act.put, List.setIfInBounds_toArray, List.set_cons_zero, List.set_cons_succ])
              refine wpAnyH_ready (rs := [7]) (by kernel_rfl) (by simp) ?_
              refine AllReadyH.cons (o := { dst := some 134, op := Go.Op.call { callee := Go.Callee.value (Go.Operand.func 17), args := #[Go.Operand.tmp 131, Go.Operand.tmp 133], argTypes := #[27, 32] }, type := 3, pos := "law.go:75", after := #[{ on := 4, ground := Go.Ground.data }, { on := 6, ground := Go.Ground.data }, { on := 3, ground := Go.Ground.chain }], guard := none }) rfl (fun K hK => ?_) AllReadyH.nil
              go_simp
              (refine (Hr.out _ HPb.out).mono ?_; rintro e wc ⟨rfl, hp, hb⟩; have HPc := Lib.hid hp; have HBc := Lib.hid (HBb.out.trans (belT hb (fun k hk => .inl hk) HSb.out)); have HKc := Lib.hid (hb.blk HKb.out (fun e => e (.inr rfl))); clear hp hb)
              refine hK.out _ _ ?_ (fun hHeld => ?_)
              · exact op_cells HKc.out
              clear hK K
              (try simp only [Act.put, List.setIfInBounds_toArray, List.set_cons_zero, List.set_cons_succ])
              refine wpAnyH_take (i := 8) (oi := { dst := some 135, op := Go.Op.binOp Go.BinOp.neq 3 (Go.Operand.tmp 130) (Go.Operand.tmp 134) 3, type := 4, pos := "law.go:75", after := #[{ on := 3, ground := Go.Ground.data }, { on := 7, ground := Go.Ground.data }], guard := none }) (v := ?_) rfl (by kernel_rfl) (by kernel_rfl) (by kernel_rfl) (fun _ _ _ h => h) (Or.inl ⟨by rfl, ?_⟩) (by assumption) ?_
              rotate_left 1
              · intro w' hSw; (go_simp <;> (with_reducible rfl))
              (try simp only [Act.put, List.setIfInBounds_toArray, List.set_cons_zero, List.set_cons_succ])
              refine wpAnyH_done (by kernel_rfl) ?_ _
              refine NoPanic.normal ?_
              clear hHeld
              go_wp2_with fail
              go_meet
              case rel => exact ⟨gq, l, L', rfl, HPc, HN, HKc, Lib.hid ⟨HBc.out, by have h := HBc.out.size; rw [eB] at h; exact h⟩⟩
          by_cases hk3 : kd = 3
          · subst hk3
            as_aux_lemma =>
              obtain ⟨⟨er, L'⟩, ea⟩ : ∃ r, readyR ido L = r := ⟨_, rfl⟩
              go_upto_region 24 with (fail)
              have HPd := Lib.hid (HPa.out.drewN 1)
              have HKd := Lib.hid (((But.refl (fun _ => False) wa).drewN 1).blk HKa.out (fun h => h))
              have HBd := Lib.hid (HBa.out.trans (((But.refl (fun _ => False) wa).drewN 1).below (fun _ h => h.elim) HSa.out))
              obtain ⟨wd, ewd⟩ : ∃ wd, wa.drew = wd := ⟨_, rfl⟩
              have ewd1 : wa.drewN 1 = wd := ewd
              rw [ewd1] at HPd HKd HBd
              have HSd := Lib.hid (show B ≤ wd.heap.size by rw [← ewd]; exact HSa.out)
              clear a0 a1 a2 a3 a4 a5 a6 a7 a8 a9 aa ab
              refine wp_region_noPanic ?_
              refine wp_region_held_drew (S := fun w' => (w'.cell? ⟨zA, 1, none⟩ = some (.int .u64 ido) ∧ w'.cell? ⟨zA, 7, none⟩ = some (.int .u8 xb.pr) ∧ w'.cell? ⟨zA, 8, none⟩ = some (.int .u32 xb.sr) ∧ w'.cell? ⟨zA, 9, none⟩ = some (.int .u32 xb.ds) ∧ w'.cell? ⟨zA, 10, none⟩ = some (.int .u16 xb.sp) ∧ w'.cell? ⟨zA, 11, none⟩ = some (.int .u16 xb.dp))) (by kernel_rfl) (by rw [ewd]; exact op_cells HKd.out) (fun hHeld => ?_)
              rw [ewd] at hHeld ⊢
              clear ewd ewd1 HPa HKa HBa HSa
              have Hs := Lib.hid (qready (ZB B zA) gq gr M l l L L wd HPd.out ido er L' ea)
              have Hr := Lib.hid (fun W (h : PairT (ZB B zA) W gq M l L' gr l L) => qrready (ZB B zA) gq gr M l l L' L W h ido er L' HOk.out.n ea)
              have HN := Lib.hid (show l ≤ (j : Int) + 1 by have := HL.out; omega)
              have r1 : (er != er) = false := by simp
              clear ea
              refine wpAnyH_take (i := 0) (oi := { dst := some 138, op := Go.Op.move (Go.Operand.tmp 5), type := 23, pos := "law.go:79", after := #[], guard := none }) (v := ?_) rfl (by kernel_rfl) (by kernel_rfl) (by kernel_rfl) (fun _ _ _ h => h) (Or.inl ⟨by rfl, ?_⟩) (by assumption) ?_
              rotate_left 1
              · intro w' hSw; (go_simp <;> (with_reducible rfl))
              (try simp only [Act.put, List.setIfInBounds_toArray, List.set_cons_zero, List.set_cons_succ])
              refine wpAnyH_take (i := 1) (oi := { dst := some 139, op := Go.Op.fieldAddr 39 (Go.Operand.tmp 10) 1, type := 0, pos := "law.go:79", after := #[], guard := none }) (v := ?_) rfl (by kernel_rfl) (by kernel_rfl) (by kernel_rfl) (fun _ _ _ h => h) (Or.inl ⟨by rfl, ?_⟩) (by assumption) ?_
              rotate_left 1
              · intro w' hSw; (go_simp <;> (with_reducible rfl))
              (try simp only [Act.put, List.setIfInBounds_toArray, List.set_cons_zero, List.set_cons_succ])
              refine wpAnyH_take (i := 2) (oi := { dst := some 140, op := Go.Op.load 32 (Go.Operand.tmp 139), type := 32, pos := "law.go:79", after := #[{ on := 1, ground := Go.Ground.data }], guard := none }) (v := ?_) rfl (by kernel_rfl) (by kernel_rfl) (by kernel_rfl) (fun _ _ _ h => h) (Or.inl ⟨by rfl, ?_⟩) (by assumption) ?_
              rotate_left 1
              · intro w' hSw; (go_simp <;> (with_reducible rfl))
              (try simp only [Act.put, List.setIfInBounds_toArray, List.set_cons_zero, List.set_cons_succ])
              refine wpAnyH_take (i := 4) (oi := { dst := some 142, op := Go.Op.move (Go.Operand.tmp 7), type := 27, pos := "law.go:79", after := #[], guard := none }) (v := ?_) rfl (by kernel_rfl) (by kernel_rfl) (by kernel_rfl) (fun _ _ _ h => h) (Or.inl ⟨by rfl, ?_⟩) (by assumption) ?_
              rotate_left 1
              · intro w' hSw; (go_simp <;> (with_reducible rfl))
              (try simp only [Act.put, List.setIfInBounds_toArray, List.set_cons_zero, List.set_cons_succ])
              refine wpAnyH_take (i := 5) (oi := { dst := some 143, op := Go.Op.fieldAddr 39 (Go.Operand.tmp 10) 1, type := 0, pos := "law.go:79", after := #[], guard := none }) (v := ?_) rfl (by kernel_rfl) (by kernel_rfl) (by kernel_rfl) (fun _ _ _ h => h) (Or.inl ⟨by rfl, ?_⟩) (by assumption) ?_
              rotate_left 1
              · intro w' hSw; (go_simp <;> (with_reducible rfl))
              (try simp only [Act.put, List.setIfInBounds_toArray, List.set_cons_zero, List.set_cons_succ])
              refine wpAnyH_take (i := 6) (oi := { dst := some 144, op := Go.Op.load 32 (Go.Operand.tmp 143), type := 32, pos := "law.go:79", after := #[{ on := 5, ground := Go.Ground.data }], guard := none }) (v := ?_) rfl (by kernel_rfl) (by kernel_rfl) (by kernel_rfl) (fun _ _ _ h => h) (Or.inl ⟨by rfl, ?_⟩) (by assumption) ?_
              rotate_left 1
              · intro w' hSw; (go_simp <;> (with_reducible rfl))
              (try simp only [Act.put, List.setIfInBounds_toArray, List.set_cons_zero, List.set_cons_succ])
              refine wpAnyH_ready (rs := [3]) (by kernel_rfl) (by simp) ?_
              refine AllReadyH.cons (o := { dst := some 141, op := Go.Op.call { callee := Go.Callee.value (Go.Operand.func 18), args := #[Go.Operand.tmp 138, Go.Operand.tmp 140], argTypes := #[23, 32] }, type := 24, pos := "law.go:79", after := #[{ on := 0, ground := Go.Ground.data }, { on := 2, ground := Go.Ground.data }], guard := none }) rfl (fun K hK => ?_) AllReadyH.nil
              go_simp
              (refine Hs.out.mono ?_; rintro e wb ⟨rfl, hp, hb⟩; have HPb := Lib.hid hp; have HBb := Lib.hid (HBd.out.trans (belT hb (fun k hk => .inl hk) HSd.out)); have HKb := Lib.hid (hb.blk HKd.out (fun e => e (.inr rfl))); have HSb := Lib.hid (Nat.le_trans HSd.out hb.size); clear hp hb)
              refine hK.out _ _ ?_ (fun hHeld => ?_)
              · exact op_cells HKb.out
              clear hK K
              (try simp only [Act.put, List.setIfInBounds_toArray, List.set_cons_zero, List.set_cons_succ])
              refine wpAnyH_ready (rs := [7]) (by kernel_rfl) (by simp) ?_
              refine AllReadyH.cons (o := { dst := some 145, op := Go.Op.call { callee := Go.Callee.value (Go.Operand.func 19), args := #[Go.Operand.tmp 142, Go.Operand.tmp 144], argTypes := #[27, 32] }, type := 3, pos := "law.go:79", after := #[{ on := 4, ground := Go.Ground.data }, { on := 6, ground := Go.Ground.data }, { on := 3, ground := Go.Ground.chain }], guard := none }) rfl (fun K hK => ?_) AllReadyH.nil
              go_simp
              (refine (Hr.out _ HPb.out).mono ?_; rintro e wc ⟨rfl, hp, hb⟩; have HPc := Lib.hid hp; have HBc := Lib.hid (HBb.out.trans (belT hb (fun k hk => .inl hk) HSb.out)); have HKc := Lib.hid (hb.blk HKb.out (fun e => e (.inr rfl))); clear hp hb)
              refine hK.out _ _ ?_ (fun hHeld => ?_)
              · exact op_cells HKc.out
              clear hK K
              (try simp only [Act.put, List.setIfInBounds_toArray, List.set_cons_zero, List.set_cons_succ])
              refine wpAnyH_take (i := 8) (oi := { dst := some 146, op := Go.Op.binOp Go.BinOp.neq 3 (Go.Operand.tmp 141) (Go.Operand.tmp 145) 3, type := 4, pos := "law.go:79", after := #[{ on := 3, ground := Go.Ground.data }, { on := 7, ground := Go.Ground.data }], guard := none }) (v := ?_) rfl (by kernel_rfl) (by kernel_rfl) (by kernel_rfl) (fun _ _ _ h => h) (Or.inl ⟨by rfl, ?_⟩) (by assumption) ?_
              rotate_left 1
              · intro w' hSw; (go_simp <;> (with_reducible rfl))
              (try simp only [Act.put, List.setIfInBounds_toArray, List.set_cons_zero, List.set_cons_succ])
              refine wpAnyH_done (by kernel_rfl) ?_ _
              refine NoPanic.normal ?_
              clear hHeld
              go_wp2_with fail
              go_meet
              case rel => exact ⟨gq, l, L', rfl, HPc, HN, HKc, Lib.hid ⟨HBc.out, by have h := HBc.out.size; rw [eB] at h; exact h⟩⟩
          by_cases hk4 : kd = 4
          · subst hk4
            as_aux_lemma =>
              obtain ⟨⟨er, L'⟩, ea⟩ : ∃ r, dropR ido L = r := ⟨_, rfl⟩
              go_upto_region 27 with (fail)
              have HPd := Lib.hid (HPa.out.drewN 1)
              have HKd := Lib.hid (((But.refl (fun _ => False) wa).drewN 1).blk HKa.out (fun h => h))
              have HBd := Lib.hid (HBa.out.trans (((But.refl (fun _ => False) wa).drewN 1).below (fun _ h => h.elim) HSa.out))
              obtain ⟨wd, ewd⟩ : ∃ wd, wa.drew = wd := ⟨_, rfl⟩
              have ewd1 : wa.drewN 1 = wd := ewd
              rw [ewd1] at HPd HKd HBd
              have HSd := Lib.hid (show B ≤ wd.heap.size by rw [← ewd]; exact HSa.out)
              clear a0 a1 a2 a3 a4 a5 a6 a7 a8 a9 aa ab
              refine wp_region_noPanic ?_
              refine wp_region_held_drew (S := fun w' => (w'.cell? ⟨zA, 1, none⟩ = some (.int .u64 ido) ∧ w'.cell? ⟨zA, 7, none⟩ = some (.int .u8 xb.pr) ∧ w'.cell? ⟨zA, 8, none⟩ = some (.int .u32 xb.sr) ∧ w'.cell? ⟨zA, 9, none⟩ = some (.int .u32 xb.ds) ∧ w'.cell? ⟨zA, 10, none⟩ = some (.int .u16 xb.sp) ∧ w'.cell? ⟨zA, 11, none⟩ = some (.int .u16 xb.dp))) (by kernel_rfl) (by rw [ewd]; exact op_cells HKd.out) (fun hHeld => ?_)
              rw [ewd] at hHeld ⊢
              clear ewd ewd1 HPa HKa HBa HSa
              have Hs := Lib.hid (qdrop (ZB B zA) gq gr M l l L L wd HPd.out ido er L' ea)
              have Hr := Lib.hid (fun W (h : PairT (ZB B zA) W gq M l L' gr l L) => qrdrop (ZB B zA) gq gr M l l L' L W h ido er L' HOk.out.n ea)
              have HN := Lib.hid (show l ≤ (j : Int) + 1 by have := HL.out; omega)
              have r1 : (er != er) = false := by simp
              clear ea
              refine wpAnyH_take (i := 0) (oi := { dst := some 149, op := Go.Op.move (Go.Operand.tmp 5), type := 23, pos := "law.go:83", after := #[], guard := none }) (v := ?_) rfl (by kernel_rfl) (by kernel_rfl) (by kernel_rfl) (fun _ _ _ h => h) (Or.inl ⟨by rfl, ?_⟩) (by assumption) ?_
              rotate_left 1
              · intro w' hSw; (go_simp <;> (with_reducible rfl))
              (try simp only [Act.put, List.setIfInBounds_toArray, List.set_cons_zero, List.set_cons_succ])
              refine wpAnyH_take (i := 1) (oi := { dst := some 150, op := Go.Op.fieldAddr 39 (Go.Operand.tmp 10) 1, type := 0, pos := "law.go:83", after := #[], guard := none }) (v := ?_) rfl (by kernel_rfl) (by kernel_rfl) (by kernel_rfl) (fun _ _ _ h => h) (Or.inl ⟨by rfl, ?_⟩) (by assumption) ?_
              rotate_left 1
              · intro w' hSw; (go_simp <;> (with_reducible rfl))
              (try simp only [Act.put, List.setIfInBounds_toArray, List.set_cons_zero, List.set_cons_succ])
              refine wpAnyH_take (i := 2) (oi := { dst := some 151, op := Go.Op.load 32 (Go.Operand.tmp 150), type := 32, pos := "law.go:83", after := #[{ on := 1, ground := Go.Ground.data }], guard := none }) (v := ?_) rfl (by kernel_rfl) (by kernel_rfl) (by kernel_rfl) (fun _ _ _ h => h) (Or.inl ⟨by rfl, ?_⟩) (by assumption) ?_
              rotate_left 1
              · intro w' hSw; (go_simp <;> (with_reducible rfl))
              (try simp only [Act.put, List.setIfInBounds_toArray, List.set_cons_zero, List.set_cons_succ])
              refine wpAnyH_take (i := 4) (oi := { dst := some 153, op := Go.Op.move (Go.Operand.tmp 7), type := 27, pos := "law.go:83", after := #[], guard := none }) (v := ?_) rfl (by kernel_rfl) (by kernel_rfl) (by kernel_rfl) (fun _ _ _ h => h) (Or.inl ⟨by rfl, ?_⟩) (by assumption) ?_
              rotate_left 1
              · intro w' hSw; (go_simp <;> (with_reducible rfl))
              (try simp only [Act.put, List.setIfInBounds_toArray, List.set_cons_zero, List.set_cons_succ])
              refine wpAnyH_take (i := 5) (oi := { dst := some 154, op := Go.Op.fieldAddr 39 (Go.Operand.tmp 10) 1, type := 0, pos := "law.go:83", after := #[], guard := none }) (v := ?_) rfl (by kernel_rfl) (by kernel_rfl) (by kernel_rfl) (fun _ _ _ h => h) (Or.inl ⟨by rfl, ?_⟩) (by assumption) ?_
              rotate_left 1
              · intro w' hSw; (go_simp <;> (with_reducible rfl))
              (try simp only [Act.put, List.setIfInBounds_toArray, List.set_cons_zero, List.set_cons_succ])
              refine wpAnyH_take (i := 6) (oi := { dst := some 155, op := Go.Op.load 32 (Go.Operand.tmp 154), type := 32, pos := "law.go:83", after := #[{ on := 5, ground := Go.Ground.data }], guard := none }) (v := ?_) rfl (by kernel_rfl) (by kernel_rfl) (by kernel_rfl) (fun _ _ _ h => h) (Or.inl ⟨by rfl, ?_⟩) (by assumption) ?_
              rotate_left 1
              · intro w' hSw; (go_simp <;> (with_reducible rfl))
              (try simp only [Act.put, List.setIfInBounds_toArray, List.set_cons_zero, List.set_cons_succ])
              refine wpAnyH_ready (rs := [3]) (by kernel_rfl) (by simp) ?_
              refine AllReadyH.cons (o := { dst := some 152, op := Go.Op.call { callee := Go.Callee.value (Go.Operand.func 20), args := #[Go.Operand.tmp 149, Go.Operand.tmp 151], argTypes := #[23, 32] }, type := 24, pos := "law.go:83", after := #[{ on := 0, ground := Go.Ground.data }, { on := 2, ground := Go.Ground.data }], guard := none }) rfl (fun K hK => ?_) AllReadyH.nil
              go_simp
              (refine Hs.out.mono ?_; rintro e wb ⟨rfl, hp, hb⟩; have HPb := Lib.hid hp; have HBb := Lib.hid (HBd.out.trans (belT hb (fun k hk => .inl hk) HSd.out)); have HKb := Lib.hid (hb.blk HKd.out (fun e => e (.inr rfl))); have HSb := Lib.hid (Nat.le_trans HSd.out hb.size); clear hp hb)
              refine hK.out _ _ ?_ (fun hHeld => ?_)
              · exact op_cells HKb.out
              clear hK K
              (try simp only [Act.put, List.setIfInBounds_toArray, List.set_cons_zero, List.set_cons_succ])
              refine wpAnyH_ready (rs := [7]) (by kernel_rfl) (by simp) ?_
              refine AllReadyH.cons (o := { dst := some 156, op := Go.Op.call { callee := Go.Callee.value (Go.Operand.func 21), args := #[Go.Operand.tmp 153, Go.Operand.tmp 155], argTypes := #[27, 32] }, type := 3, pos := "law.go:83", after := #[{ on := 4, ground := Go.Ground.data }, { on := 6, ground := Go.Ground.data }, { on := 3, ground := Go.Ground.chain }], guard := none }) rfl (fun K hK => ?_) AllReadyH.nil
              go_simp
              (refine (Hr.out _ HPb.out).mono ?_; rintro e wc ⟨rfl, hp, hb⟩; have HPc := Lib.hid hp; have HBc := Lib.hid (HBb.out.trans (belT hb (fun k hk => .inl hk) HSb.out)); have HKc := Lib.hid (hb.blk HKb.out (fun e => e (.inr rfl))); clear hp hb)
              refine hK.out _ _ ?_ (fun hHeld => ?_)
              · exact op_cells HKc.out
              clear hK K
              (try simp only [Act.put, List.setIfInBounds_toArray, List.set_cons_zero, List.set_cons_succ])
              refine wpAnyH_take (i := 8) (oi := { dst := some 157, op := Go.Op.binOp Go.BinOp.neq 3 (Go.Operand.tmp 152) (Go.Operand.tmp 156) 3, type := 4, pos := "law.go:83", after := #[{ on := 3, ground := Go.Ground.data }, { on := 7, ground := Go.Ground.data }], guard := none }) (v := ?_) rfl (by kernel_rfl) (by kernel_rfl) (by kernel_rfl) (fun _ _ _ h => h) (Or.inl ⟨by rfl, ?_⟩) (by assumption) ?_
              rotate_left 1
              · intro w' hSw; (go_simp <;> (with_reducible rfl))
              (try simp only [Act.put, List.setIfInBounds_toArray, List.set_cons_zero, List.set_cons_succ])
              refine wpAnyH_done (by kernel_rfl) ?_ _
              refine NoPanic.normal ?_
              clear hHeld
              go_wp2_with fail
              go_meet
              case rel => exact ⟨gq, l, L', rfl, HPc, HN, HKc, Lib.hid ⟨HBc.out, by have h := HBc.out.size; rw [eB] at h; exact h⟩⟩
          by_cases hk5 : kd = 5
          · subst hk5
            as_aux_lemma =>
              have Hcp := Lib.hid (qcopy (ZB B zA) gq gr M l l L L wa HPa.out)
              go_wp2_with fail
              refine Hcp.out.mono ?_
              rintro e wb ⟨g2, S2, rfl, hb, hA, hZ, hP⟩
              have HPb := Lib.hid hP
              have HAb := Lib.hid hA
              have HZb := Lib.hid hZ
              have HBb := Lib.hid (HBa.out.trans (hb.mono HSa.out))
              have HKb := Lib.hid (blk_on HKa.out hb)
              have HSb := Lib.hid (Nat.le_trans HSa.out hb.size)
              clear hb hA hZ hP Hcp
              clear a0 a1 a2 a3 a4 a5 a6 a7 a8 a9 aa ab
              obtain ⟨a0, a1, a2, a3, a4, a5, a6, a7, a8, a9, aa, ab⟩ := ac12 HKb.out
              obtain ⟨⟨er, L1⟩, ed⟩ : ∃ r, dropR ido L = r := ⟨_, rfl⟩
              have Hs := Lib.hid (qdrop (fun k => ZB B zA k ∨ S2 k) gq gr M l l L L wb HPb.out ido er L1 ed)
              go_wp2_with fail
              refine Hs.out.mono ?_
              rintro e wc ⟨rfl, hp, hb⟩
              have HPc := Lib.hid hp
              have HHc := Lib.hid hb
              have HBc := Lib.hid (HBb.out.trans (belT hb (fun k hk => .inl (.inl hk)) HSb.out))
              have HSc := Lib.hid (Nat.le_trans HSb.out hb.size)
              have HKc := Lib.hid (hb.blk HKb.out (fun e => e (.inl (.inr rfl))))
              clear hp hb Hs ed
              clear a0 a1 a2 a3 a4 a5 a6 a7 a8 a9 aa ab
              obtain ⟨a0, a1, a2, a3, a4, a5, a6, a7, a8, a9, aa, ab⟩ := ac12 HKc.out
              obtain ⟨⟨⟨n0, wt, er2⟩, L2, l2⟩, ea⟩ : ∃ r, addF M l ta xb L1 = r := ⟨_, rfl⟩
              have Hs := Lib.hid (qadd (fun k => ZB B zA k ∨ S2 k) gq gr M l l L1 L wc HPc.out ta xb n0 wt er2 l2 L2 (by have := HL.out; omega) ea)
              clear ea
              go_wp2_with fail
              refine Hs.out.mono ?_
              rintro e wd ⟨rfl, hp, hb⟩
              have HPz := Lib.hid (PairT.back HAb.out HZb.out (HHc.out.trans hb) hp)
              have HKz := Lib.hid (hb.blk HKc.out (fun e => e (.inl (.inr rfl))))
              have HBz := Lib.hid (HBc.out.trans (belT hb (fun k hk => .inl (.inl hk)) HSc.out))
              have HNz := Lib.hid (show l ≤ (j : Int) + 1 by have := HL.out; omega)
              clear hp hb Hs
              clear a0 a1 a2 a3 a4 a5 a6 a7 a8 a9 aa ab
              go_wp2_with fail
              go_meet
              case rel => exact ⟨g2, l, L, rfl, HPz, HNz, HKz, Lib.hid ⟨HBz.out, by have h := HBz.out.size; rw [eB] at h; exact h⟩⟩
          have kb0 : (kd == 0) = false := by simpa using hk0
          have kb1 : (kd == 1) = false := by simpa using hk1
          have kb2 : (kd == 2) = false := by simpa using hk2
          have kb3 : (kd == 3) = false := by simpa using hk3
          have kb4 : (kd == 4) = false := by simpa using hk4
          have kb5 : (kd == 5) = false := by simpa using hk5
          have HNz := Lib.hid (show l ≤ (j : Int) + 1 by have := HL.out; omega)
          clear hk0 hk1 hk2 hk3 hk4 hk5
          go_wp2_with fail
          go_meet
          case rel => exact ⟨gq, l, L, rfl, HPa, HNz, HKa, Lib.hid ⟨HBa.out, by have h := HBa.out.size; rw [eB] at h; exact h⟩⟩
        case rest =>
         as_aux_lemma =>
          obtain ⟨g', l', L', rfl, HPx, HNx, HKx, HBS⟩ := hcut
          have HBx := Lib.hid HBS.out.1
          have HSx := Lib.hid HBS.out.2
          clear a0 a1 a2 a3 a4 a5 a6 a7 a8 a9 aa ab
          clear HPa HKa HBa HSa HL HOk HBS
          have HOx := Lib.hid HPx.out.ok
          obtain ⟨y1, e1⟩ : ∃ y, idOf (innF ta L') = y := ⟨_, rfl⟩
          obtain ⟨s1, d1⟩ : ∃ y, isOf (innF ta L') = y := ⟨_, rfl⟩
          obtain ⟨y2, e2⟩ : ∃ y, idOf (outF xb L') = y := ⟨_, rfl⟩
          obtain ⟨s2, d2⟩ : ∃ y, isOf (outF xb L') = y := ⟨_, rfl⟩
          obtain ⟨⟨f, s3⟩, e3⟩ : ∃ r, flowR ido L' = r := ⟨_, rfl⟩
          obtain ⟨nl, enl⟩ : ∃ nl, L'.length = nl := ⟨_, rfl⟩
          have X1 := Lib.hid (fun W h => qinner (ZB B zA) g' gr M l' l' L' L' W h ta y1 s1 e1 d1)
          have X2 := Lib.hid (fun W h => qrinner (ZB B zA) g' gr M l' l' L' L' W h ta y1 s1 HOx.out.n e1 d1)
          have X3 := Lib.hid (fun W h => qouter (ZB B zA) g' gr M l' l' L' L' W h xb y2 s2 e2 d2)
          have X4 := Lib.hid (fun W h => qrouter (ZB B zA) g' gr M l' l' L' L' W h xb y2 s2 HOx.out.n e2 d2)
          have X5 := Lib.hid (fun W h => show Calls Try.prog 27 #[.pointer (some ⟨g', 0, none⟩), .int .u64 ido] W (TellsT (.tuple #[.agg #[.int .u64 f.id, .int .u8 f.i.pr, .int .u32 f.i.sr, .int .u32 f.i.ds, .int .u16 f.i.sp, .int .u16 f.i.dp, .int .u8 f.o.pr, .int .u32 f.o.sr, .int .u32 f.o.ds, .int .u16 f.o.sp, .int .u16 f.o.dp, .bool f.em], .bool s3]) W) from qflow (ZB B zA) g' gr M l' l' L' L' W h ido f s3 e3)
          have X6 := Lib.hid (fun W h => show Calls Try.prog 28 #[.pointer (some ⟨gr, 0, none⟩), .int .u64 ido] W (TellsT (.tuple #[.agg #[.int .u64 f.id, .int .u8 f.i.pr, .int .u32 f.i.sr, .int .u32 f.i.ds, .int .u16 f.i.sp, .int .u16 f.i.dp, .int .u8 f.o.pr, .int .u32 f.o.sr, .int .u32 f.o.ds, .int .u16 f.o.sp, .int .u16 f.o.dp, .bool f.em], .bool s3]) W) from qrflow (ZB B zA) g' gr M l' l' L' L' W h ido f s3 HOx.out.n e3)
          have X7 := Lib.hid (fun W h => qlen (ZB B zA) g' gr M l' l' L' L' W h nl enl)
          have X8 := Lib.hid (fun W h => qall (ZB B zA) g' gr M l' l' L' L' W h)
          have Enl := Lib.hid enl
          clear e1 d1 e2 d2 e3 enl
          obtain ⟨a0, a1, a2, a3, a4, a5, a6, a7, a8, a9, aa, ab⟩ := ac12 HKx.out
          go_wp2_with fail
          refine (X1.out _ HPx.out).mono ?_
          rintro e wd ⟨rfl, hb⟩
          have HP2 := Lib.hid (HPx.out.below hb)
          have HB2 := Lib.hid (HBx.out.trans (hb.mono HSx.out))
          have HS2 := Lib.hid (Nat.le_trans HSx.out hb.size)
          have HK2 := Lib.hid (blk_on HKx.out hb)
          clear HPx HBx HSx HKx
          have HPx := HP2
          have HBx := HB2
          have HSx := HS2
          have HKx := HK2
          clear HP2 HB2 HS2 HK2
          clear a0 a1 a2 a3 a4 a5 a6 a7 a8 a9 aa ab
          obtain ⟨a0, a1, a2, a3, a4, a5, a6, a7, a8, a9, aa, ab⟩ := ac12 HKx.out
          clear hb
          go_wp2_with fail
          refine (X2.out _ HPx.out).mono ?_
          rintro e we ⟨rfl, hb⟩
          have HP2 := Lib.hid (HPx.out.below hb)
          have HB2 := Lib.hid (HBx.out.trans (hb.mono HSx.out))
          have HS2 := Lib.hid (Nat.le_trans HSx.out hb.size)
          have HK2 := Lib.hid (blk_on HKx.out hb)
          clear HPx HBx HSx HKx
          have HPx := HP2
          have HBx := HB2
          have HSx := HS2
          have HKx := HK2
          clear HP2 HB2 HS2 HK2
          clear a0 a1 a2 a3 a4 a5 a6 a7 a8 a9 aa ab
          obtain ⟨a0, a1, a2, a3, a4, a5, a6, a7, a8, a9, aa, ab⟩ := ac12 HKx.out
          clear hb
          go_wp2_with fail
          refine (X3.out _ HPx.out).mono ?_
          rintro e wf ⟨rfl, hb⟩
          have HP2 := Lib.hid (HPx.out.below hb)
          have HB2 := Lib.hid (HBx.out.trans (hb.mono HSx.out))
          have HS2 := Lib.hid (Nat.le_trans HSx.out hb.size)
          have HK2 := Lib.hid (blk_on HKx.out hb)
          clear HPx HBx HSx HKx
          have HPx := HP2
          have HBx := HB2
          have HSx := HS2
          have HKx := HK2
          clear HP2 HB2 HS2 HK2
          clear a0 a1 a2 a3 a4 a5 a6 a7 a8 a9 aa ab
          obtain ⟨a0, a1, a2, a3, a4, a5, a6, a7, a8, a9, aa, ab⟩ := ac12 HKx.out
          clear hb
          go_wp2_with fail
          refine (X4.out _ HPx.out).mono ?_
          rintro e wg ⟨rfl, hb⟩
          have HP2 := Lib.hid (HPx.out.below hb)
          have HB2 := Lib.hid (HBx.out.trans (hb.mono HSx.out))
          have HS2 := Lib.hid (Nat.le_trans HSx.out hb.size)
          have HK2 := Lib.hid (blk_on HKx.out hb)
          clear HPx HBx HSx HKx
          have HPx := HP2
          have HBx := HB2
          have HSx := HS2
          have HKx := HK2
          clear HP2 HB2 HS2 HK2
          clear a0 a1 a2 a3 a4 a5 a6 a7 a8 a9 aa ab
          obtain ⟨a0, a1, a2, a3, a4, a5, a6, a7, a8, a9, aa, ab⟩ := ac12 HKx.out
          clear hb
          go_wp2_with fail
          refine (X5.out _ HPx.out).mono ?_
          rintro e wh ⟨rfl, hb⟩
          have HP2 := Lib.hid (HPx.out.below hb)
          have HB2 := Lib.hid (HBx.out.trans (hb.mono HSx.out))
          have HS2 := Lib.hid (Nat.le_trans HSx.out hb.size)
          have HK2 := Lib.hid (blk_on HKx.out hb)
          clear HPx HBx HSx HKx
          have HPx := HP2
          have HBx := HB2
          have HSx := HS2
          have HKx := HK2
          clear HP2 HB2 HS2 HK2
          clear a0 a1 a2 a3 a4 a5 a6 a7 a8 a9 aa ab
          obtain ⟨a0, a1, a2, a3, a4, a5, a6, a7, a8, a9, aa, ab⟩ := ac12 HKx.out
          clear hb
          obtain ⟨z1, ez1⟩ : ∃ z, wh.heap.size = z := ⟨_, rfl⟩
          obtain ⟨wi, ewi⟩ : ∃ v, wh.alloc (.cells #[.int .u64 f.id, .int .u8 f.i.pr, .int .u32 f.i.sr, .int .u32 f.i.ds, .int .u16 f.i.sp, .int .u16 f.i.dp, .int .u8 f.o.pr, .int .u32 f.o.sr, .int .u32 f.o.ds, .int .u16 f.o.sp, .int .u16 f.o.dp, .bool f.em] 51) = v := ⟨_, rfl⟩
          have hb : Below wh.heap.size wh wi := by rw [← ewi]; exact (Below.refl _ _).alloc (Nat.le_refl _) _
          have HK1 := Lib.hid (show wi.heap[z1]? = some (.cells #[.int .u64 f.id, .int .u8 f.i.pr, .int .u32 f.i.sr, .int .u32 f.i.ds, .int .u16 f.i.sp, .int .u16 f.i.dp, .int .u8 f.o.pr, .int .u32 f.o.sr, .int .u32 f.o.ds, .int .u16 f.o.sp, .int .u16 f.o.dp, .bool f.em] 51 (0, 0)) by rw [← ewi, ← ez1]; exact heap_alloc_new wh _)
          have HP2 := Lib.hid (HPx.out.below hb)
          have HB2 := Lib.hid (HBx.out.trans (hb.mono HSx.out))
          have HS2 := Lib.hid (Nat.le_trans HSx.out hb.size)
          have HK2 := Lib.hid (blk_on HKx.out hb)
          clear HPx HBx HSx HKx
          have HPx := HP2
          have HBx := HB2
          have HSx := HS2
          have HKx := HK2
          clear HP2 HB2 HS2 HK2
          clear a0 a1 a2 a3 a4 a5 a6 a7 a8 a9 aa ab
          obtain ⟨a0, a1, a2, a3, a4, a5, a6, a7, a8, a9, aa, ab⟩ := ac12 HKx.out
          clear hb
          go_upto_region 39 with (fail)
          try rw [ewi]
          try rw [ez1]
          clear ewi ez1
          go_wp2_with fail
          refine (X6.out _ HPx.out).mono ?_
          rintro e wj ⟨rfl, hb⟩
          have HK2 := Lib.hid (blk_on HK1.out hb)
          clear HK1
          have HP2 := Lib.hid (HPx.out.below hb)
          have HB2 := Lib.hid (HBx.out.trans (hb.mono HSx.out))
          have HS2 := Lib.hid (Nat.le_trans HSx.out hb.size)
          have HK2 := Lib.hid (blk_on HKx.out hb)
          clear HPx HBx HSx HKx
          have HPx := HP2
          have HBx := HB2
          have HSx := HS2
          have HKx := HK2
          clear HP2 HB2 HS2 HK2
          clear a0 a1 a2 a3 a4 a5 a6 a7 a8 a9 aa ab
          obtain ⟨a0, a1, a2, a3, a4, a5, a6, a7, a8, a9, aa, ab⟩ := ac12 HKx.out
          clear hb
          obtain ⟨z2, ez2⟩ : ∃ z, wj.heap.size = z := ⟨_, rfl⟩
          obtain ⟨wk, ewk⟩ : ∃ v, wj.alloc (.cells #[.int .u64 f.id, .int .u8 f.i.pr, .int .u32 f.i.sr, .int .u32 f.i.ds, .int .u16 f.i.sp, .int .u16 f.i.dp, .int .u8 f.o.pr, .int .u32 f.o.sr, .int .u32 f.o.ds, .int .u16 f.o.sp, .int .u16 f.o.dp, .bool f.em] 54) = v := ⟨_, rfl⟩
          have hb : Below wj.heap.size wj wk := by rw [← ewk]; exact (Below.refl _ _).alloc (Nat.le_refl _) _
          have HK1 := Lib.hid (blk_on HK2.out hb)
          have HK3 := Lib.hid (show wk.heap[z2]? = some (.cells #[.int .u64 f.id, .int .u8 f.i.pr, .int .u32 f.i.sr, .int .u32 f.i.ds, .int .u16 f.i.sp, .int .u16 f.i.dp, .int .u8 f.o.pr, .int .u32 f.o.sr, .int .u32 f.o.ds, .int .u16 f.o.sp, .int .u16 f.o.dp, .bool f.em] 54 (0, 0)) by rw [← ewk, ← ez2]; exact heap_alloc_new wj _)
          clear HK2
          have HP2 := Lib.hid (HPx.out.below hb)
          have HB2 := Lib.hid (HBx.out.trans (hb.mono HSx.out))
          have HS2 := Lib.hid (Nat.le_trans HSx.out hb.size)
          have HK2 := Lib.hid (blk_on HKx.out hb)
          clear HPx HBx HSx HKx
          have HPx := HP2
          have HBx := HB2
          have HSx := HS2
          have HKx := HK2
          clear HP2 HB2 HS2 HK2
          clear a0 a1 a2 a3 a4 a5 a6 a7 a8 a9 aa ab
          obtain ⟨a0, a1, a2, a3, a4, a5, a6, a7, a8, a9, aa, ab⟩ := ac12 HKx.out
          clear hb
          go_upto_region 40 with (fail)
          try rw [ewk]
          try rw [ez2]
          clear ewk ez2
          clear a0 a1 a2 a3 a4 a5 a6 a7 a8 a9 aa ab
          obtain ⟨wl, ewl⟩ : ∃ v, wk.drew = v := ⟨_, rfl⟩
          have hb : Below wk.heap.size wk wl := by rw [← ewl]; exact ((But.refl (fun _ => False) wk).drew).below (fun _ h => h.elim) (Nat.le_refl _)
          have HK4 := Lib.hid (blk_on HK1.out hb)
          have HK5 := Lib.hid (blk_on HK3.out hb)
          have HP2 := Lib.hid (HPx.out.below hb)
          have HB2 := Lib.hid (HBx.out.trans (hb.mono HSx.out))
          have HS2 := Lib.hid (Nat.le_trans HSx.out hb.size)
          clear hb HPx HBx HSx HKx HK1 HK3
          obtain ⟨A9, c9, hrow, hsl, hgl, hgz, hown⟩ := HP2.out.row
          rw [Enl.out] at hrow hsl hown
          have Hsl := Lib.hid hsl
          have Hown := Lib.hid hown
          have HST := Lib.hid (show ∀ w', Below wl.heap.size wl w' → (w'.cell? ⟨z1, 0, none⟩ = some (.int .u64 f.id) ∧ w'.cell? ⟨z1, 1, none⟩ = some (.int .u8 f.i.pr) ∧ w'.cell? ⟨z1, 2, none⟩ = some (.int .u32 f.i.sr) ∧ w'.cell? ⟨z1, 3, none⟩ = some (.int .u32 f.i.ds) ∧ w'.cell? ⟨z1, 4, none⟩ = some (.int .u16 f.i.sp) ∧ w'.cell? ⟨z1, 5, none⟩ = some (.int .u16 f.i.dp) ∧ w'.cell? ⟨z1, 6, none⟩ = some (.int .u8 f.o.pr) ∧ w'.cell? ⟨z1, 7, none⟩ = some (.int .u32 f.o.sr) ∧ w'.cell? ⟨z1, 8, none⟩ = some (.int .u32 f.o.ds) ∧ w'.cell? ⟨z1, 9, none⟩ = some (.int .u16 f.o.sp) ∧ w'.cell? ⟨z1, 10, none⟩ = some (.int .u16 f.o.dp) ∧ w'.cell? ⟨z1, 11, none⟩ = some (.bool f.em)) ∧ (w'.cell? ⟨z2, 0, none⟩ = some (.int .u64 f.id) ∧ w'.cell? ⟨z2, 1, none⟩ = some (.int .u8 f.i.pr) ∧ w'.cell? ⟨z2, 2, none⟩ = some (.int .u32 f.i.sr) ∧ w'.cell? ⟨z2, 3, none⟩ = some (.int .u32 f.i.ds) ∧ w'.cell? ⟨z2, 4, none⟩ = some (.int .u16 f.i.sp) ∧ w'.cell? ⟨z2, 5, none⟩ = some (.int .u16 f.i.dp) ∧ w'.cell? ⟨z2, 6, none⟩ = some (.int .u8 f.o.pr) ∧ w'.cell? ⟨z2, 7, none⟩ = some (.int .u32 f.o.sr) ∧ w'.cell? ⟨z2, 8, none⟩ = some (.int .u32 f.o.ds) ∧ w'.cell? ⟨z2, 9, none⟩ = some (.int .u16 f.o.sp) ∧ w'.cell? ⟨z2, 10, none⟩ = some (.int .u16 f.o.dp) ∧ w'.cell? ⟨z2, 11, none⟩ = some (.bool f.em)) ∧ w'.cell? ⟨gr, 0, none⟩ = some (.slice A9 nl c9) from fun w' hW => ⟨ac12 (blk_on HK4.out hW), ac12 (blk_on HK5.out hW), by rw [(But.of (S := fun _ => False) hW).cell (p := ⟨gr, 0, none⟩) hgl (fun h => h)]; exact hrow⟩)
          have hf1 := fl_self f
          have r1 : (y1 != y1) = false := by simp
          have r2 : (s1 != s1) = false := by simp
          have r3 : (y2 != y2) = false := by simp
          have r4 : (s2 != s2) = false := by simp
          have r5 : (s3 != s3) = false := by simp
          have r6 : ((nl : Int) != (nl : Int)) = false := by simp
          clear hsl hown hrow hgl hgz X1 X2 X3 X4 X5 X6 HK4 HK5
          refine wp_region_noPanic ?_
          refine wp_region_held_drew (S := fun w' => (w'.cell? ⟨z1, 0, none⟩ = some (.int .u64 f.id) ∧ w'.cell? ⟨z1, 1, none⟩ = some (.int .u8 f.i.pr) ∧ w'.cell? ⟨z1, 2, none⟩ = some (.int .u32 f.i.sr) ∧ w'.cell? ⟨z1, 3, none⟩ = some (.int .u32 f.i.ds) ∧ w'.cell? ⟨z1, 4, none⟩ = some (.int .u16 f.i.sp) ∧ w'.cell? ⟨z1, 5, none⟩ = some (.int .u16 f.i.dp) ∧ w'.cell? ⟨z1, 6, none⟩ = some (.int .u8 f.o.pr) ∧ w'.cell? ⟨z1, 7, none⟩ = some (.int .u32 f.o.sr) ∧ w'.cell? ⟨z1, 8, none⟩ = some (.int .u32 f.o.ds) ∧ w'.cell? ⟨z1, 9, none⟩ = some (.int .u16 f.o.sp) ∧ w'.cell? ⟨z1, 10, none⟩ = some (.int .u16 f.o.dp) ∧ w'.cell? ⟨z1, 11, none⟩ = some (.bool f.em)) ∧ (w'.cell? ⟨z2, 0, none⟩ = some (.int .u64 f.id) ∧ w'.cell? ⟨z2, 1, none⟩ = some (.int .u8 f.i.pr) ∧ w'.cell? ⟨z2, 2, none⟩ = some (.int .u32 f.i.sr) ∧ w'.cell? ⟨z2, 3, none⟩ = some (.int .u32 f.i.ds) ∧ w'.cell? ⟨z2, 4, none⟩ = some (.int .u16 f.i.sp) ∧ w'.cell? ⟨z2, 5, none⟩ = some (.int .u16 f.i.dp) ∧ w'.cell? ⟨z2, 6, none⟩ = some (.int .u8 f.o.pr) ∧ w'.cell? ⟨z2, 7, none⟩ = some (.int .u32 f.o.sr) ∧ w'.cell? ⟨z2, 8, none⟩ = some (.int .u32 f.o.ds) ∧ w'.cell? ⟨z2, 9, none⟩ = some (.int .u16 f.o.sp) ∧ w'.cell? ⟨z2, 10, none⟩ = some (.int .u16 f.o.dp) ∧ w'.cell? ⟨z2, 11, none⟩ = some (.bool f.em)) ∧ w'.cell? ⟨gr, 0, none⟩ = some (.slice A9 nl c9)) (by kernel_rfl) (by rw [ewl]; exact HST.out _ (Below.refl _ _)) (fun hHeld => ?_)
          rw [ewl] at hHeld ⊢
          clear ewl
          refine wpAnyH_take (i := 0) (oi := { dst := some 215, op := Go.Op.move (Go.Operand.tmp 18), type := 32, pos := "law.go:98", after := #[], guard := none }) (v := ?_) rfl (by kernel_rfl) (by kernel_rfl) (by kernel_rfl) (fun _ _ _ h => h) (Or.inl ⟨by rfl, ?_⟩) (by assumption) ?_
          rotate_left 1
          · intro w' hSw; (go_simp <;> (with_reducible rfl))
          (try simp only [Act.put, List.setIfInBounds_toArray, List.set_cons_zero, List.set_cons_succ])
          refine wpAnyH_take (i := 1) (oi := { dst := some 216, op := Go.Op.move (Go.Operand.tmp 20), type := 32, pos := "law.go:98", after := #[], guard := none }) (v := ?_) rfl (by kernel_rfl) (by kernel_rfl) (by kernel_rfl) (fun _ _ _ h => h) (Or.inl ⟨by rfl, ?_⟩) (by assumption) ?_
          rotate_left 1
          · intro w' hSw; (go_simp <;> (with_reducible rfl))
          (try simp only [Act.put, List.setIfInBounds_toArray, List.set_cons_zero, List.set_cons_succ])
          refine wpAnyH_take (i := 2) (oi := { dst := some 217, op := Go.Op.binOp Go.BinOp.neq 32 (Go.Operand.tmp 215) (Go.Operand.tmp 216) 32, type := 4, pos := "law.go:98", after := #[{ on := 0, ground := Go.Ground.data }, { on := 1, ground := Go.Ground.data }], guard := none }) (v := ?_) rfl (by kernel_rfl) (by kernel_rfl) (by kernel_rfl) (fun _ _ _ h => h) (Or.inl ⟨by rfl, ?_⟩) (by assumption) ?_
          rotate_left 1
          · intro w' hSw; (go_simp <;> (with_reducible rfl))
          (try simp only [Act.put, List.setIfInBounds_toArray, List.set_cons_zero, List.set_cons_succ])
          refine wpAnyH_take (i := 3) (oi := { dst := some 218, op := Go.Op.move (Go.Operand.tmp 217), type := 4, pos := "law.go:98", after := #[{ on := 2, ground := Go.Ground.data }], guard := none }) (v := ?_) rfl (by kernel_rfl) (by kernel_rfl) (by kernel_rfl) (fun _ _ _ h => h) (Or.inl ⟨by rfl, ?_⟩) (by assumption) ?_
          rotate_left 1
          · intro w' hSw; (go_simp <;> (with_reducible rfl))
          (try simp only [Act.put, List.setIfInBounds_toArray, List.set_cons_zero, List.set_cons_succ])
          refine wpAnyH_take (i := 4) (oi := { dst := some 219, op := Go.Op.move (Go.Operand.tmp 19), type := 4, pos := "law.go:98", after := #[{ on := 3, ground := Go.Ground.guard }], guard := some (3, false) }) (v := ?_) rfl (by kernel_rfl) (by kernel_rfl) (by kernel_rfl) (fun _ _ _ h => h) (Or.inl ⟨by rfl, ?_⟩) (by assumption) ?_
          rotate_left 1
          · intro w' hSw; (go_simp <;> (with_reducible rfl))
          (try simp only [Act.put, List.setIfInBounds_toArray, List.set_cons_zero, List.set_cons_succ])
          refine wpAnyH_take (i := 5) (oi := { dst := some 220, op := Go.Op.move (Go.Operand.tmp 21), type := 4, pos := "law.go:98", after := #[{ on := 3, ground := Go.Ground.guard }], guard := some (3, false) }) (v := ?_) rfl (by kernel_rfl) (by kernel_rfl) (by kernel_rfl) (fun _ _ _ h => h) (Or.inl ⟨by rfl, ?_⟩) (by assumption) ?_
          rotate_left 1
          · intro w' hSw; (go_simp <;> (with_reducible rfl))
          (try simp only [Act.put, List.setIfInBounds_toArray, List.set_cons_zero, List.set_cons_succ])
          refine wpAnyH_take (i := 6) (oi := { dst := some 221, op := Go.Op.binOp Go.BinOp.neq 4 (Go.Operand.tmp 219) (Go.Operand.tmp 220) 4, type := 4, pos := "law.go:98", after := #[{ on := 4, ground := Go.Ground.data }, { on := 5, ground := Go.Ground.data }, { on := 3, ground := Go.Ground.guard }], guard := some (3, false) }) (v := ?_) rfl (by kernel_rfl) (by kernel_rfl) (by kernel_rfl) (fun _ _ _ h => h) (Or.inl ⟨by rfl, ?_⟩) (by assumption) ?_
          rotate_left 1
          · intro w' hSw; (go_simp <;> (with_reducible rfl))
          (try simp only [Act.put, List.setIfInBounds_toArray, List.set_cons_zero, List.set_cons_succ])
          refine wpAnyH_take (i := 7) (oi := { dst := some 222, op := Go.Op.pick (Go.Operand.tmp 218) (Go.Operand.const (Go.Value.bool true)) (Go.Operand.tmp 221), type := 4, pos := "law.go:98", after := #[{ on := 3, ground := Go.Ground.data }, { on := 6, ground := Go.Ground.data }], guard := none }) (v := ?_) rfl (by kernel_rfl) (by kernel_rfl) (by kernel_rfl) (fun _ _ _ h => h) (Or.inl ⟨by rfl, ?_⟩) (by assumption) ?_
          rotate_left 1
          · intro w' hSw; (go_simp <;> (with_reducible rfl))
          (try simp only [Act.put, List.setIfInBounds_toArray, List.set_cons_zero, List.set_cons_succ])
          refine wpAnyH_take (i := 8) (oi := { dst := some 223, op := Go.Op.move (Go.Operand.tmp 222), type := 4, pos := "law.go:98", after := #[{ on := 7, ground := Go.Ground.data }, { on := 3, ground := Go.Ground.chain }], guard := none }) (v := ?_) rfl (by kernel_rfl) (by kernel_rfl) (by kernel_rfl) (fun _ _ _ h => h) (Or.inl ⟨by rfl, ?_⟩) (by assumption) ?_
          rotate_left 1
          · intro w' hSw; (go_simp <;> (with_reducible rfl))
          (try simp only [Act.put, List.setIfInBounds_toArray, List.set_cons_zero, List.set_cons_succ])
          refine wpAnyH_take (i := 9) (oi := { dst := some 224, op := Go.Op.move (Go.Operand.tmp 22), type := 32, pos := "law.go:98", after := #[{ on := 8, ground := Go.Ground.guard }], guard := some (8, false) }) (v := ?_) rfl (by kernel_rfl) (by kernel_rfl) (by kernel_rfl) (fun _ _ _ h => h) (Or.inl ⟨by rfl, ?_⟩) (by assumption) ?_
          rotate_left 1
          · intro w' hSw; (go_simp <;> (with_reducible rfl))
          (try simp only [Act.put, List.setIfInBounds_toArray, List.set_cons_zero, List.set_cons_succ])
          refine wpAnyH_take (i := 10) (oi := { dst := some 225, op := Go.Op.move (Go.Operand.tmp 24), type := 32, pos := "law.go:98", after := #[{ on := 8, ground := Go.Ground.guard }], guard := some (8, false) }) (v := ?_) rfl (by kernel_rfl) (by kernel_rfl) (by kernel_rfl) (fun _ _ _ h => h) (Or.inl ⟨by rfl, ?_⟩) (by assumption) ?_
          rotate_left 1
          · intro w' hSw; (go_simp <;> (with_reducible rfl))
          (try simp only [Act.put, List.setIfInBounds_toArray, List.set_cons_zero, List.set_cons_succ])
          refine wpAnyH_take (i := 11) (oi := { dst := some 226, op := Go.Op.binOp Go.BinOp.neq 32 (Go.Operand.tmp 224) (Go.Operand.tmp 225) 32, type := 4, pos := "law.go:98", after := #[{ on := 9, ground := Go.Ground.data }, { on := 10, ground := Go.Ground.data }, { on := 8, ground := Go.Ground.guard }], guard := some (8, false) }) (v := ?_) rfl (by kernel_rfl) (by kernel_rfl) (by kernel_rfl) (fun _ _ _ h => h) (Or.inl ⟨by rfl, ?_⟩) (by assumption) ?_
          rotate_left 1
          · intro w' hSw; (go_simp <;> (with_reducible rfl))
          (try simp only [Act.put, List.setIfInBounds_toArray, List.set_cons_zero, List.set_cons_succ])
          refine wpAnyH_take (i := 12) (oi := { dst := some 227, op := Go.Op.pick (Go.Operand.tmp 223) (Go.Operand.const (Go.Value.bool true)) (Go.Operand.tmp 226), type := 4, pos := "law.go:98", after := #[{ on := 8, ground := Go.Ground.data }, { on := 11, ground := Go.Ground.data }], guard := none }) (v := ?_) rfl (by kernel_rfl) (by kernel_rfl) (by kernel_rfl) (fun _ _ _ h => h) (Or.inl ⟨by rfl, ?_⟩) (by assumption) ?_
          rotate_left 1
          · intro w' hSw; (go_simp <;> (with_reducible rfl))
          (try simp only [Act.put, List.setIfInBounds_toArray, List.set_cons_zero, List.set_cons_succ])
          refine wpAnyH_take (i := 13) (oi := { dst := some 228, op := Go.Op.move (Go.Operand.tmp 227), type := 4, pos := "law.go:98", after := #[{ on := 12, ground := Go.Ground.data }, { on := 8, ground := Go.Ground.chain }], guard := none }) (v := ?_) rfl (by kernel_rfl) (by kernel_rfl) (by kernel_rfl) (fun _ _ _ h => h) (Or.inl ⟨by rfl, ?_⟩) (by assumption) ?_
          rotate_left 1
          · intro w' hSw; (go_simp <;> (with_reducible rfl))
          (try simp only [Act.put, List.setIfInBounds_toArray, List.set_cons_zero, List.set_cons_succ])
          refine wpAnyH_take (i := 14) (oi := { dst := some 229, op := Go.Op.move (Go.Operand.tmp 23), type := 4, pos := "law.go:98", after := #[{ on := 13, ground := Go.Ground.guard }], guard := some (13, false) }) (v := ?_) rfl (by kernel_rfl) (by kernel_rfl) (by kernel_rfl) (fun _ _ _ h => h) (Or.inl ⟨by rfl, ?_⟩) (by assumption) ?_
          rotate_left 1
          · intro w' hSw; (go_simp <;> (with_reducible rfl))
          (try simp only [Act.put, List.setIfInBounds_toArray, List.set_cons_zero, List.set_cons_succ])
          refine wpAnyH_take (i := 15) (oi := { dst := some 230, op := Go.Op.move (Go.Operand.tmp 25), type := 4, pos := "law.go:98", after := #[{ on := 13, ground := Go.Ground.guard }], guard := some (13, false) }) (v := ?_) rfl (by kernel_rfl) (by kernel_rfl) (by kernel_rfl) (fun _ _ _ h => h) (Or.inl ⟨by rfl, ?_⟩) (by assumption) ?_
          rotate_left 1
          · intro w' hSw; (go_simp <;> (with_reducible rfl))
          (try simp only [Act.put, List.setIfInBounds_toArray, List.set_cons_zero, List.set_cons_succ])
          refine wpAnyH_take (i := 16) (oi := { dst := some 231, op := Go.Op.binOp Go.BinOp.neq 4 (Go.Operand.tmp 229) (Go.Operand.tmp 230) 4, type := 4, pos := "law.go:98", after := #[{ on := 14, ground := Go.Ground.data }, { on := 15, ground := Go.Ground.data }, { on := 13, ground := Go.Ground.guard }], guard := some (13, false) }) (v := ?_) rfl (by kernel_rfl) (by kernel_rfl) (by kernel_rfl) (fun _ _ _ h => h) (Or.inl ⟨by rfl, ?_⟩) (by assumption) ?_
          rotate_left 1
          · intro w' hSw; (go_simp <;> (with_reducible rfl))
          (try simp only [Act.put, List.setIfInBounds_toArray, List.set_cons_zero, List.set_cons_succ])
          refine wpAnyH_take (i := 17) (oi := { dst := some 232, op := Go.Op.pick (Go.Operand.tmp 228) (Go.Operand.const (Go.Value.bool true)) (Go.Operand.tmp 231), type := 4, pos := "law.go:98", after := #[{ on := 13, ground := Go.Ground.data }, { on := 16, ground := Go.Ground.data }], guard := none }) (v := ?_) rfl (by kernel_rfl) (by kernel_rfl) (by kernel_rfl) (fun _ _ _ h => h) (Or.inl ⟨by rfl, ?_⟩) (by assumption) ?_
          rotate_left 1
          · intro w' hSw; (go_simp <;> (with_reducible rfl))
          (try simp only [Act.put, List.setIfInBounds_toArray, List.set_cons_zero, List.set_cons_succ])
          refine wpAnyH_take (i := 18) (oi := { dst := some 233, op := Go.Op.move (Go.Operand.tmp 232), type := 4, pos := "law.go:98", after := #[{ on := 17, ground := Go.Ground.data }, { on := 13, ground := Go.Ground.chain }], guard := none }) (v := ?_) rfl (by kernel_rfl) (by kernel_rfl) (by kernel_rfl) (fun _ _ _ h => h) (Or.inl ⟨by rfl, ?_⟩) (by assumption) ?_
          rotate_left 1
          · intro w' hSw; (go_simp <;> (with_reducible rfl))
          (try simp only [Act.put, List.setIfInBounds_toArray, List.set_cons_zero, List.set_cons_succ])
          refine wpAnyH_take (i := 19) (oi := { dst := some 234, op := Go.Op.load 51 (Go.Operand.tmp 26), type := 51, pos := "law.go:98", after := #[{ on := 18, ground := Go.Ground.guard }], guard := some (18, false) }) (v := ?_) rfl (by kernel_rfl) (by kernel_rfl) (by kernel_rfl) (fun _ _ _ h => h) (Or.inl ⟨by rfl, ?_⟩) (by assumption) ?_
          rotate_left 1
          · intro w' hSw; (go_simp <;> (with_reducible rfl))
          (try simp only [Act.put, List.setIfInBounds_toArray, List.set_cons_zero, List.set_cons_succ])
          refine wpAnyH_take (i := 20) (oi := { dst := some 235, op := Go.Op.load 54 (Go.Operand.tmp 28), type := 54, pos := "law.go:98", after := #[{ on := 18, ground := Go.Ground.guard }], guard := some (18, false) }) (v := ?_) rfl (by kernel_rfl) (by kernel_rfl) (by kernel_rfl) (fun _ _ _ h => h) (Or.inl ⟨by rfl, ?_⟩) (by assumption) ?_
          rotate_left 1
          · intro w' hSw; (go_simp <;> (with_reducible rfl))
          (try simp only [Act.put, List.setIfInBounds_toArray, List.set_cons_zero, List.set_cons_succ])
          refine wpAnyH_take (i := 21) (oi := { dst := some 236, op := Go.Op.binOp Go.BinOp.neq 51 (Go.Operand.tmp 234) (Go.Operand.tmp 235) 51, type := 4, pos := "law.go:98", after := #[{ on := 19, ground := Go.Ground.data }, { on := 20, ground := Go.Ground.data }, { on := 18, ground := Go.Ground.guard }], guard := some (18, false) }) (v := ?_) rfl (by kernel_rfl) (by kernel_rfl) (by kernel_rfl) (fun _ _ _ h => h) (Or.inl ⟨by rfl, ?_⟩) (by assumption) ?_
          rotate_left 1
          · intro w' hSw; (go_simp <;> (with_reducible rfl))
          (try simp only [Act.put, List.setIfInBounds_toArray, List.set_cons_zero, List.set_cons_succ])
          refine wpAnyH_take (i := 22) (oi := { dst := some 237, op := Go.Op.pick (Go.Operand.tmp 233) (Go.Operand.const (Go.Value.bool true)) (Go.Operand.tmp 236), type := 4, pos := "law.go:98", after := #[{ on := 18, ground := Go.Ground.data }, { on := 21, ground := Go.Ground.data }], guard := none }) (v := ?_) rfl (by kernel_rfl) (by kernel_rfl) (by kernel_rfl) (fun _ _ _ h => h) (Or.inl ⟨by rfl, ?_⟩) (by assumption) ?_
          rotate_left 1
          · intro w' hSw; (go_simp <;> (with_reducible rfl))
          (try simp only [Act.put, List.setIfInBounds_toArray, List.set_cons_zero, List.set_cons_succ])
          refine wpAnyH_take (i := 23) (oi := { dst := some 238, op := Go.Op.move (Go.Operand.tmp 237), type := 4, pos := "law.go:98", after := #[{ on := 22, ground := Go.Ground.data }, { on := 18, ground := Go.Ground.chain }], guard := none }) (v := ?_) rfl (by kernel_rfl) (by kernel_rfl) (by kernel_rfl) (fun _ _ _ h => h) (Or.inl ⟨by rfl, ?_⟩) (by assumption) ?_
          rotate_left 1
          · intro w' hSw; (go_simp <;> (with_reducible rfl))
          (try simp only [Act.put, List.setIfInBounds_toArray, List.set_cons_zero, List.set_cons_succ])
          refine wpAnyH_take (i := 24) (oi := { dst := some 239, op := Go.Op.move (Go.Operand.tmp 27), type := 4, pos := "law.go:98", after := #[{ on := 23, ground := Go.Ground.guard }], guard := some (23, false) }) (v := ?_) rfl (by kernel_rfl) (by kernel_rfl) (by kernel_rfl) (fun _ _ _ h => h) (Or.inl ⟨by rfl, ?_⟩) (by assumption) ?_
          rotate_left 1
          · intro w' hSw; (go_simp <;> (with_reducible rfl))
          (try simp only [Act.put, List.setIfInBounds_toArray, List.set_cons_zero, List.set_cons_succ])
          refine wpAnyH_take (i := 25) (oi := { dst := some 240, op := Go.Op.move (Go.Operand.tmp 29), type := 4, pos := "law.go:98", after := #[{ on := 23, ground := Go.Ground.guard }], guard := some (23, false) }) (v := ?_) rfl (by kernel_rfl) (by kernel_rfl) (by kernel_rfl) (fun _ _ _ h => h) (Or.inl ⟨by rfl, ?_⟩) (by assumption) ?_
          rotate_left 1
          · intro w' hSw; (go_simp <;> (with_reducible rfl))
          (try simp only [Act.put, List.setIfInBounds_toArray, List.set_cons_zero, List.set_cons_succ])
          refine wpAnyH_take (i := 26) (oi := { dst := some 241, op := Go.Op.binOp Go.BinOp.neq 4 (Go.Operand.tmp 239) (Go.Operand.tmp 240) 4, type := 4, pos := "law.go:98", after := #[{ on := 24, ground := Go.Ground.data }, { on := 25, ground := Go.Ground.data }, { on := 23, ground := Go.Ground.guard }], guard := some (23, false) }) (v := ?_) rfl (by kernel_rfl) (by kernel_rfl) (by kernel_rfl) (fun _ _ _ h => h) (Or.inl ⟨by rfl, ?_⟩) (by assumption) ?_
          rotate_left 1
          · intro w' hSw; (go_simp <;> (with_reducible rfl))
          (try simp only [Act.put, List.setIfInBounds_toArray, List.set_cons_zero, List.set_cons_succ])
          refine wpAnyH_take (i := 27) (oi := { dst := some 242, op := Go.Op.pick (Go.Operand.tmp 238) (Go.Operand.const (Go.Value.bool true)) (Go.Operand.tmp 241), type := 4, pos := "law.go:98", after := #[{ on := 23, ground := Go.Ground.data }, { on := 26, ground := Go.Ground.data }], guard := none }) (v := ?_) rfl (by kernel_rfl) (by kernel_rfl) (by kernel_rfl) (fun _ _ _ h => h) (Or.inl ⟨by rfl, ?_⟩) (by assumption) ?_
          rotate_left 1
          · intro w' hSw; (go_simp <;> (with_reducible rfl))
          (try simp only [Act.put, List.setIfInBounds_toArray, List.set_cons_zero, List.set_cons_succ])
          refine wpAnyH_take (i := 28) (oi := { dst := some 243, op := Go.Op.move (Go.Operand.tmp 242), type := 4, pos := "law.go:98", after := #[{ on := 27, ground := Go.Ground.data }, { on := 23, ground := Go.Ground.chain }], guard := none }) (v := ?_) rfl (by kernel_rfl) (by kernel_rfl) (by kernel_rfl) (fun _ _ _ h => h) (Or.inl ⟨by rfl, ?_⟩) (by assumption) ?_
          rotate_left 1
          · intro w' hSw; (go_simp <;> (with_reducible rfl))
          (try simp only [Act.put, List.setIfInBounds_toArray, List.set_cons_zero, List.set_cons_succ])
          refine wpAnyH_take (i := 29) (oi := { dst := some 244, op := Go.Op.move (Go.Operand.tmp 5), type := 23, pos := "law.go:98", after := #[{ on := 28, ground := Go.Ground.guard }], guard := some (28, false) }) (v := ?_) rfl (by kernel_rfl) (by kernel_rfl) (by kernel_rfl) (fun _ _ _ h => h) (Or.inl ⟨by rfl, ?_⟩) (by assumption) ?_
          rotate_left 1
          · intro w' hSw; (go_simp <;> (with_reducible rfl))
          (try simp only [Act.put, List.setIfInBounds_toArray, List.set_cons_zero, List.set_cons_succ])
          refine wpAnyH_take (i := 31) (oi := { dst := some 246, op := Go.Op.move (Go.Operand.tmp 7), type := 27, pos := "law.go:98", after := #[{ on := 28, ground := Go.Ground.guard }], guard := some (28, false) }) (v := ?_) rfl (by kernel_rfl) (by kernel_rfl) (by kernel_rfl) (fun _ _ _ h => h) (Or.inl ⟨by rfl, ?_⟩) (by assumption) ?_
          rotate_left 1
          · intro w' hSw; (go_simp <;> (with_reducible rfl))
          (try simp only [Act.put, List.setIfInBounds_toArray, List.set_cons_zero, List.set_cons_succ])
          refine wpAnyH_take (i := 32) (oi := { dst := some 247, op := Go.Op.nilCheck (Go.Operand.tmp 246), type := 0, pos := "law.go:98", after := #[{ on := 31, ground := Go.Ground.data }, { on := 28, ground := Go.Ground.guard }], guard := some (28, false) }) (v := ?_) rfl (by kernel_rfl) (by kernel_rfl) (by kernel_rfl) (fun _ _ _ h => h) (Or.inl ⟨by rfl, ?_⟩) (by assumption) ?_
          rotate_left 1
          · intro w' hSw; (go_simp <;> (with_reducible rfl))
          (try simp only [Act.put, List.setIfInBounds_toArray, List.set_cons_zero, List.set_cons_succ])
          refine wpAnyH_take (i := 33) (oi := { dst := some 248, op := Go.Op.fieldAddr 59 (Go.Operand.tmp 247) 0, type := 0, pos := "law.go:98", after := #[{ on := 32, ground := Go.Ground.data }, { on := 28, ground := Go.Ground.guard }], guard := some (28, false) }) (v := ?_) rfl (by kernel_rfl) (by kernel_rfl) (by kernel_rfl) (fun _ _ _ h => h) (Or.inl ⟨by rfl, ?_⟩) (by assumption) ?_
          rotate_left 1
          · intro w' hSw; (go_simp <;> (with_reducible rfl))
          (try simp only [Act.put, List.setIfInBounds_toArray, List.set_cons_zero, List.set_cons_succ])
          refine wpAnyH_take (i := 34) (oi := { dst := some 249, op := Go.Op.load 57 (Go.Operand.tmp 248), type := 57, pos := "law.go:98", after := #[{ on := 33, ground := Go.Ground.data }, { on := 28, ground := Go.Ground.guard }], guard := some (28, false) }) (v := ?_) rfl (by kernel_rfl) (by kernel_rfl) (by kernel_rfl) (fun _ _ _ h => h) (Or.inl ⟨by rfl, ?_⟩) (by assumption) ?_
          rotate_left 1
          · intro w' hSw; (go_simp <;> (with_reducible rfl))
          (try simp only [Act.put, List.setIfInBounds_toArray, List.set_cons_zero, List.set_cons_succ])
          refine wpAnyH_take (i := 35) (oi := { dst := some 250, op := Go.Op.call { callee := Go.Callee.builtin Go.Builtin.len, args := #[Go.Operand.tmp 249], argTypes := #[57] }, type := 3, pos := "law.go:98", after := #[{ on := 34, ground := Go.Ground.data }, { on := 28, ground := Go.Ground.guard }], guard := some (28, false) }) (v := ?_) rfl (by kernel_rfl) (by kernel_rfl) (by kernel_rfl) (fun _ _ _ h => h) (Or.inl ⟨by rfl, ?_⟩) (by assumption) ?_
          rotate_left 1
          · intro w' hSw; (go_simp <;> (with_reducible rfl))
          (try simp only [Act.put, List.setIfInBounds_toArray, List.set_cons_zero, List.set_cons_succ])
          refine wpAnyH_ready (rs := [30]) (by kernel_rfl) (by simp) ?_
          refine AllReadyH.cons (o := { dst := some 245, op := Go.Op.call { callee := Go.Callee.value (Go.Operand.func 12), args := #[Go.Operand.tmp 244], argTypes := #[23] }, type := 3, pos := "law.go:98", after := #[{ on := 29, ground := Go.Ground.data }, { on := 28, ground := Go.Ground.chain }, { on := 28, ground := Go.Ground.guard }], guard := some (28, false) }) rfl (fun K hK => ?_) AllReadyH.nil
          go_simp
          (refine (X7.out _ HP2.out).mono ?_; rintro e wm ⟨rfl, rfl⟩)
          refine hK.out _ _ ?_ (fun hHeld => ?_)
          · exact HST.out _ (Below.refl _ _)
          clear hK K
          (try simp only [Act.put, List.setIfInBounds_toArray, List.set_cons_zero, List.set_cons_succ])
          refine wpAnyH_take (i := 36) (oi := { dst := some 251, op := Go.Op.binOp Go.BinOp.neq 3 (Go.Operand.tmp 245) (Go.Operand.tmp 250) 3, type := 4, pos := "law.go:98", after := #[{ on := 30, ground := Go.Ground.data }, { on := 35, ground := Go.Ground.data }, { on := 28, ground := Go.Ground.guard }], guard := some (28, false) }) (v := ?_) rfl (by kernel_rfl) (by kernel_rfl) (by kernel_rfl) (fun _ _ _ h => h) (Or.inl ⟨by rfl, ?_⟩) (by assumption) ?_
          rotate_left 1
          · intro w' hSw; (go_simp <;> (with_reducible rfl))
          (try simp only [Act.put, List.setIfInBounds_toArray, List.set_cons_zero, List.set_cons_succ])
          refine wpAnyH_take (i := 37) (oi := { dst := some 252, op := Go.Op.pick (Go.Operand.tmp 243) (Go.Operand.const (Go.Value.bool true)) (Go.Operand.tmp 251), type := 4, pos := "law.go:98", after := #[{ on := 28, ground := Go.Ground.data }, { on := 36, ground := Go.Ground.data }], guard := none }) (v := ?_) rfl (by kernel_rfl) (by kernel_rfl) (by kernel_rfl) (fun _ _ _ h => h) (Or.inl ⟨by rfl, ?_⟩) (by assumption) ?_
          rotate_left 1
          · intro w' hSw; (go_simp <;> (with_reducible rfl))
          (try simp only [Act.put, List.setIfInBounds_toArray, List.set_cons_zero, List.set_cons_succ])
          refine wpAnyH_take (i := 38) (oi := { dst := some 253, op := Go.Op.move (Go.Operand.tmp 252), type := 4, pos := "law.go:98", after := #[{ on := 37, ground := Go.Ground.data }, { on := 30, ground := Go.Ground.chain }], guard := none }) (v := ?_) rfl (by kernel_rfl) (by kernel_rfl) (by kernel_rfl) (fun _ _ _ h => h) (Or.inl ⟨by rfl, ?_⟩) (by assumption) ?_
          rotate_left 1
          · intro w' hSw; (go_simp <;> (with_reducible rfl))
          (try simp only [Act.put, List.setIfInBounds_toArray, List.set_cons_zero, List.set_cons_succ])
          refine wpAnyH_take (i := 39) (oi := { dst := some 254, op := Go.Op.move (Go.Operand.tmp 5), type := 23, pos := "law.go:98", after := #[{ on := 38, ground := Go.Ground.guard }], guard := some (38, false) }) (v := ?_) rfl (by kernel_rfl) (by kernel_rfl) (by kernel_rfl) (fun _ _ _ h => h) (Or.inl ⟨by rfl, ?_⟩) (by assumption) ?_
          rotate_left 1
          · intro w' hSw; (go_simp <;> (with_reducible rfl))
          (try simp only [Act.put, List.setIfInBounds_toArray, List.set_cons_zero, List.set_cons_succ])
          refine wpAnyH_take (i := 41) (oi := { dst := some 256, op := Go.Op.move (Go.Operand.tmp 7), type := 27, pos := "law.go:98", after := #[{ on := 38, ground := Go.Ground.guard }], guard := some (38, false) }) (v := ?_) rfl (by kernel_rfl) (by kernel_rfl) (by kernel_rfl) (fun _ _ _ h => h) (Or.inl ⟨by rfl, ?_⟩) (by assumption) ?_
          rotate_left 1
          · intro w' hSw; (go_simp <;> (with_reducible rfl))
          (try simp only [Act.put, List.setIfInBounds_toArray, List.set_cons_zero, List.set_cons_succ])
          refine wpAnyH_take (i := 42) (oi := { dst := some 257, op := Go.Op.nilCheck (Go.Operand.tmp 256), type := 0, pos := "law.go:98", after := #[{ on := 41, ground := Go.Ground.data }, { on := 38, ground := Go.Ground.guard }], guard := some (38, false) }) (v := ?_) rfl (by kernel_rfl) (by kernel_rfl) (by kernel_rfl) (fun _ _ _ h => h) (Or.inl ⟨by rfl, ?_⟩) (by assumption) ?_
          rotate_left 1
          · intro w' hSw; (go_simp <;> (with_reducible rfl))
          (try simp only [Act.put, List.setIfInBounds_toArray, List.set_cons_zero, List.set_cons_succ])
          refine wpAnyH_take (i := 43) (oi := { dst := some 258, op := Go.Op.fieldAddr 59 (Go.Operand.tmp 257) 0, type := 0, pos := "law.go:98", after := #[{ on := 42, ground := Go.Ground.data }, { on := 38, ground := Go.Ground.guard }], guard := some (38, false) }) (v := ?_) rfl (by kernel_rfl) (by kernel_rfl) (by kernel_rfl) (fun _ _ _ h => h) (Or.inl ⟨by rfl, ?_⟩) (by assumption) ?_
          rotate_left 1
          · intro w' hSw; (go_simp <;> (with_reducible rfl))
          (try simp only [Act.put, List.setIfInBounds_toArray, List.set_cons_zero, List.set_cons_succ])
          refine wpAnyH_take (i := 44) (oi := { dst := some 259, op := Go.Op.load 57 (Go.Operand.tmp 258), type := 57, pos := "law.go:98", after := #[{ on := 43, ground := Go.Ground.data }, { on := 38, ground := Go.Ground.guard }], guard := some (38, false) }) (v := ?_) rfl (by kernel_rfl) (by kernel_rfl) (by kernel_rfl) (fun _ _ _ h => h) (Or.inl ⟨by rfl, ?_⟩) (by assumption) ?_
          rotate_left 1
          · intro w' hSw; (go_simp <;> (with_reducible rfl))
          (try simp only [Act.put, List.setIfInBounds_toArray, List.set_cons_zero, List.set_cons_succ])
          refine wpAnyH_ready (rs := [40]) (by kernel_rfl) (by simp) ?_
          refine AllReadyH.cons (o := { dst := some 255, op := Go.Op.call { callee := Go.Callee.value (Go.Operand.func 30), args := #[Go.Operand.tmp 254], argTypes := #[23] }, type := 61, pos := "law.go:98", after := #[{ on := 39, ground := Go.Ground.data }, { on := 38, ground := Go.Ground.chain }, { on := 38, ground := Go.Ground.guard }], guard := some (38, false) }) rfl (fun K hK => ?_) AllReadyH.nil
          go_simp
          (refine (X8.out _ HP2.out).mono ?_; rintro e wn ⟨A8, c8, rfl, hs8, ho8, hb8⟩; have Hs8 := Lib.hid hs8; have Hb8 := Lib.hid hb8; clear hs8 ho8 hb8; rw [Enl.out] at Hs8 ⊢)
          refine hK.out _ _ ?_ (fun hHeld => ?_)
          · exact HST.out _ Hb8.out
          clear hK K
          (try simp only [Act.put, List.setIfInBounds_toArray, List.set_cons_zero, List.set_cons_succ])
          refine wpAnyH_ready (rs := [45]) (by kernel_rfl) (by simp) ?_
          refine AllReadyH.cons (o := { dst := some 260, op := Go.Op.call { callee := Go.Callee.value (Go.Operand.func 29), args := #[Go.Operand.tmp 255, Go.Operand.tmp 259], argTypes := #[61, 57] }, type := 4, pos := "law.go:98", after := #[{ on := 40, ground := Go.Ground.data }, { on := 44, ground := Go.Ground.data }, { on := 40, ground := Go.Ground.chain }, { on := 38, ground := Go.Ground.guard }], guard := some (38, false) }) rfl (fun K hK => ?_) AllReadyH.nil
          go_simp
          (refine (same13_any A8 A9 nl c8 c9 L' wn Hs8.out (Hsl.out.but (But.of (S := fun _ => False) Hb8.out) (fun _ _ h => h)) Enl.out (by rw [← Enl.out]; exact HOx.out.n)).mono ?_; rintro e wo ⟨rfl, m, rfl⟩; have HPo := Lib.hid ((HP2.out.below Hb8.out).drewN m); have hbo := Hb8.out.trans (((But.refl (fun _ => False) wn).drewN m).below (fun _ h => h.elim) Hb8.out.size); have Hbo := Lib.hid hbo; have HBo := Lib.hid (HB2.out.trans (hbo.mono HS2.out)); clear hbo)
          refine hK.out _ _ ?_ (fun hHeld => ?_)
          · exact HST.out _ Hbo.out
          clear hK K
          (try simp only [Act.put, List.setIfInBounds_toArray, List.set_cons_zero, List.set_cons_succ])
          refine wpAnyH_take (i := 46) (oi := { dst := some 261, op := Go.Op.unOp Go.UnOp.not 4 (Go.Operand.tmp 260), type := 4, pos := "law.go:98", after := #[{ on := 45, ground := Go.Ground.data }, { on := 38, ground := Go.Ground.guard }], guard := some (38, false) }) (v := ?_) rfl (by kernel_rfl) (by kernel_rfl) (by kernel_rfl) (fun _ _ _ h => h) (Or.inl ⟨by rfl, ?_⟩) (by assumption) ?_
          rotate_left 1
          · intro w' hSw; (go_simp <;> (with_reducible rfl))
          (try simp only [Act.put, List.setIfInBounds_toArray, List.set_cons_zero, List.set_cons_succ])
          refine wpAnyH_take (i := 47) (oi := { dst := some 262, op := Go.Op.pick (Go.Operand.tmp 253) (Go.Operand.const (Go.Value.bool true)) (Go.Operand.tmp 261), type := 4, pos := "law.go:98", after := #[{ on := 38, ground := Go.Ground.data }, { on := 46, ground := Go.Ground.data }], guard := none }) (v := ?_) rfl (by kernel_rfl) (by kernel_rfl) (by kernel_rfl) (fun _ _ _ h => h) (Or.inl ⟨by rfl, ?_⟩) (by assumption) ?_
          rotate_left 1
          · intro w' hSw; (go_simp <;> (with_reducible rfl))
          (try simp only [Act.put, List.setIfInBounds_toArray, List.set_cons_zero, List.set_cons_succ])
          refine wpAnyH_done (by kernel_rfl) ?_ _
          refine NoPanic.normal ?_
          clear hHeld
          go_wp2_with fail
          go_roundg (gk - 1)
          case measure => have := hgk.out; have := Hjn.out; omega
          case rel => exact ⟨j + 1, g', l', L', by have := hgk.out; have := Hjn.out; show gk - 1 + (j + 1) = _; omega, by have := Hjn.out; omega, by have := Hj3.out; omega, by have := Hj3.out; go_num, rfl, Lib.hid (HPo.out.sub (fun k hk => .inl hk)), Lib.hid (by have := HNx.out; omega), Lib.hid (by rw [eB]; exact HBo.out)⟩
      · have i3 : ((j : Int) == 300) = true := by simp; omega
        clear hj3
        go_wp2_with fail
        try rw [ewa]
        go_ret
        exact ⟨rfl, by rw [eB]; exact HBa.out⟩
    · obtain rfl : n = j := by omega
      go_wp2_with fail
      go_ret
      exact ⟨rfl, HB.out⟩
theorem walk (w : World) (M : Int) (hM : (Lit.int .i64 M).wf = true) (vl : Value) (hl : AcsAt w vl) :
    Calls Try.prog 3 #[.int .i64 M, vl] w fun e w' => e = .returned (.bool true) ∧ Below w.heap.size w w' := by
  by_cases h : 1 ≤ M ∧ M ≤ 1024
  · exact good w M h vl hl
  · exact bad w M vl (by omega)
theorem own : ownKnob Try.prog.godebug = none := by kernel_rfl
theorem laidOut : laidOutB Try.prog = true := by kernel_rfl

set_option maxRecDepth 100000 in
theorem lifted (os : Os) (started : os.Started) (H : Type) (enc : TypeId × Value → H) :
    ReturnsInHanded {} Try.checked os 3 .any (Rows.tablePlaysSpec.pre6 enc Try.prog Try.f3 Rows.tablePlaysRow.domain false) (Rows.tablePlaysSpec.post enc Try.prog Try.f3 false true false false) := by
  refine returnsInHanded_of_change (C := Try.checked) own started (by kernel_rfl) Try.func3
    (ChangeSpec.witness6 (enc := enc) (C := Try.checked) false ⟨#[], #[.int .i64 0, (.slice none 0 0)], []⟩ 8 (by kernel_rfl) (by kernel_rfl) (by kernel_rfl) (by kernel_rfl)) ?_
  intro W base args ds gs before hval0 hW hcnd _
  have hval : ∀ (j : Nat) t v, Try.f3.params[j]? = some t → args[j]? = some v → Value.okWide Try.prog W .any base t v := hval0
  have hW' := hW
  obtain ⟨p, q, hA0, hV, rfl, hfz, hnd⟩ := hW
  have hA : DataW.TrodAll enc Try.prog W 0 (fun _ => true) true Try.f3.params.toList args.toList ds p := hA0
  rw [Try.params3] at hA hval
  obtain ⟨v0, vs0, d0, ds0, p0, q0, hargs, rfl, rfl, h0, r0⟩ := trodAll_cons hA
  obtain ⟨v1, vs1, d1, ds1, p1, q1, rfl, rfl, rfl, h1, r1⟩ := trodAll_cons r0
  obtain ⟨rfl, rfl, rfl⟩ := trodAll_nil r1
  obtain rfl : args = #[v0, v1] := by cases args; simp_all
  obtain ⟨rfl, rfl⟩ := trodVars_none hV
  obtain ⟨a0, rfl, rfl, rfl, w0⟩ := open_int Try.underlying3 (hval 0 3 v0 rfl rfl) h0
  have k1 := acs_open (hval 1 22 v1 rfl rfl) h1
  have lt1 : ∀ x ∈ p1, x.block < W.heap.size := by obtain ⟨m, hm⟩ := h1; exact DataW.trod_lt m _ _ _ hm
  clear hA0 hval0
  refine (walk W a0 w0 v1 k1).mono fun e W' ⟨he, bel⟩ => ?_
  subst he
  exact ⟨_, rfl, _, _, _, [], _, [], hW', trodAll_mk1 (shut_bool Try.underlying4 _), (trodAll_cons_mk (shut_int Try.underlying3 w0) (trodAll_cons_mk (Below.trod laidOut (by kernel_rfl) (of_decide_eq_true (by kernel_rfl)) h1 bel lt1) trodAll_mk0)), rfl, bel.frame _, fun h => by cases h⟩

theorem over : Rows.tablePlaysRow.holds Try.pinned (OpenSpec.ofChange Rows.tablePlaysSpec) :=
  OpenClaim.holds_of_wide 3 Try.f3 rfl rfl rfl rfl rfl rfl rfl ⟨rfl, rfl, rfl, rfl, rfl⟩ rfl rfl rfl rfl rfl (by kernel_rfl) Try.func3 (by kernel_rfl)
    (of_decide_eq_true (by kernel_rfl)) (by unfold Func.isWrapper; first | (rw [if_pos (by decide +kernel)]; kernel_rfl) | (rw [if_neg (by decide +kernel)]; exact ⟨rfl, rfl⟩))
    (fun os started H enc _ => lifted os started H enc)

/-- The statement. -/
theorem proved : Rows.TablePlaysSaid := over
#print axioms proved
end Go.Proofs.Ytnhlbohdlnjaaaa.tablePlays
