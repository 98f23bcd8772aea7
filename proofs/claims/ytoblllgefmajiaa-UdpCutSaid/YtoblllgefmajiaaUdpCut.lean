/-
  UdpCut holds: what is cut off a datagram's bytes, or laid behind them, is no datagram; more than may be is refused. For any two addresses, any datagram (of its data the first 2000 bytes), any number of bytes left, any bytes behind (the first 20).
-/
import Derived.Test.YtoblllgefmajiaaUdpPlain
import Derived.Test.YtoblllgefmajiaaUdpLaw
import Derived.Test.YtoblllgefmajiaaUdpOpen
import Derived.Test.YtoblllgefmajiaaBytesClone
import Derived.RegionTactic
import Derived.BigRegion
import Derived.Deep.DeepCutAuto
import Derived.Deep.CutRange
import Derived.Deep.RegionHeld3
namespace Go.Proofs.Ytoblllgefmajiaa.udpCut
set_option maxRecDepth 10000
open Go.ChangeShapes Go.WideShapes Go.ChangeAt Go.RowKit
set_option linter.unusedVariables false
set_option linter.unusedSimpArgs false

theorem n16_app (b more : List Int) (h : 8 ≤ b.length) (i : Nat) (hi : i < 7) : n16 (b ++ more) i = n16 b i := by
  unfold n16
  simp only [List.getD]
  rw [List.getElem?_append_left (by omega), List.getElem?_append_left (by omega)]
theorem n16_take (b : List Int) (k i : Nat) (h : i + 1 < k) : n16 (b.take k) i = n16 b i := by
  unfold n16
  simp only [List.getD]
  rw [List.getElem?_take_of_lt (by omega), List.getElem?_take_of_lt h]
theorem err_cut (src dst : Int) (s : Dg) (k : Nat) (hk : k < 8 + s.d.length) (hl : s.d.length ≤ 1472) : errU src dst ((dgB src dst s).take k) = if k < 8 then 4 else 5 := by
  have hlen : ((dgB src dst s).take k).length = k := by rw [List.length_take, dgB_len]; omega
  unfold errU
  rw [hlen, if_neg (by omega)]
  by_cases h8 : k < 8
  · rw [if_pos h8, if_pos h8]
  · rw [if_neg h8, if_neg h8, if_pos]
    rw [n16_take _ _ _ (by omega), n16_len]; omega
theorem err_behind (src dst : Int) (s : Dg) (more : List Int) (hm : 0 < more.length) : errU src dst (dgB src dst s ++ more) = if 1480 < 8 + s.d.length + more.length then 3 else 5 := by
  have hlen : (dgB src dst s ++ more).length = 8 + s.d.length + more.length := by rw [List.length_append, dgB_len]
  unfold errU
  rw [hlen]
  by_cases h8 : 1480 < 8 + s.d.length + more.length
  · rw [if_pos h8, if_pos h8]
  · rw [if_neg h8, if_neg h8, if_neg (by omega), if_pos]
    rw [n16_app _ _ (by rw [dgB_len]; omega) _ (by omega), n16_len]; omega

set_option maxHeartbeats 8000000 in
theorem walk (w : World) (v : Value) (hv : EndsAt w v) (v1 : Value) (hv1 : DgAt w v1) (v2 : Value) (hv2 : RaggedAt w v2) :
    Calls Try.prog 13 #[v, v1, v2] w fun e w' => e = .returned (.bool true) ∧ Below w.heap.size w w' := by
  obtain ⟨src, dst, rfl, hs, hd⟩ := hv
  obtain ⟨⟨sp, dp, D⟩, A, N, c, rfl, hnum, hc, hr⟩ := hv1
  obtain ⟨left, AB, NB, cB, DB, rfl, hleft, hcB, hrB⟩ := hv2
  simp only at hr ⊢
  obtain ⟨n, hmin, hnN, hn2000⟩ := min_nat 2000 N (by omega)
  obtain ⟨m, hminB, hmN, hm20⟩ := min_nat 20 NB (by omega)
  have hr := hr.take hnN
  have hrB := hrB.take hmN
  obtain ⟨d, ed⟩ : ∃ d, D.take n = d := ⟨_, rfl⟩
  obtain ⟨dB, edB⟩ : ∃ d, DB.take m = d := ⟨_, rfl⟩
  rw [ed] at hr
  rw [edB] at hrB
  have hni : (n : Int) ≤ (c : Int) := by omega
  have hmi : (m : Int) ≤ (cB : Int) := by omega
  have hn2 : n ≤ 2000 := by omega
  have hm2 : m ≤ 20 := by omega
  obtain ⟨z, hz⟩ : ∃ z, w.heap.size = z := ⟨_, rfl⟩
  have Hr := Lib.hid hr
  have HrB := Lib.hid hrB
  have Hc := Lib.hid (And.intro (show n ≤ c by omega) hc.2)
  have Hm2 := Lib.hid hm2
  clear ed edB hc hcB
  obtain ⟨W0, eW0⟩ : ∃ W0, ((w.alloc (.cells #[.int .u32 src, .int .u32 dst] 55)).alloc (.cells #[.int .u16 sp, .int .u16 dp, .slice A n c] 57)).alloc (.cells #[.int .u16 left, .slice AB NB cB] 73) = W0 := ⟨_, rfl⟩
  have hbW : Below w.heap.size w W0 := by rw [← eW0]; exact (((Below.refl _ _).alloc (Nat.le_refl _) _).alloc (by simp) _).alloc (by simp; omega) _
  have hk0 : W0.heap[z]? = some (.cells #[.int .u32 src, .int .u32 dst] 55 (0, 0)) := by
    rw [← eW0, Below.heap_alloc _ _ _ (by simp [hz]; omega), Below.heap_alloc _ _ _ (by simp [hz]), ← hz]; exact heap_alloc_new w _
  have hk1 : W0.heap[z + 1]? = some (.cells #[.int .u16 sp, .int .u16 dp, .slice A n c] 57 (0, 0)) := by
    rw [← eW0, Below.heap_alloc _ _ _ (by simp [hz]), ← hz]; simpa using heap_alloc_new (w.alloc (.cells #[.int .u32 src, .int .u32 dst] 55)) (.cells #[.int .u16 sp, .int .u16 dp, .slice A n c] 57)
  have hk2 : W0.heap[z + 2]? = some (.cells #[.int .u16 left, .slice AB NB cB] 73 (0, 0)) := by
    rw [← eW0, ← hz]; simpa using heap_alloc_new ((w.alloc (.cells #[.int .u32 src, .int .u32 dst] 55)).alloc (.cells #[.int .u16 sp, .int .u16 dp, .slice A n c] 57)) (.cells #[.int .u16 left, .slice AB NB cB] 73)
  have HK := Lib.hid (show ∀ w', Below W0.heap.size W0 w' → (w'.cell? ⟨z, 0, none⟩ = some (.int .u32 src) ∧ w'.cell? ⟨z, 1, none⟩ = some (.int .u32 dst)) ∧ (w'.cell? ⟨z + 1, 0, none⟩ = some (.int .u16 sp) ∧ w'.cell? ⟨z + 1, 1, none⟩ = some (.int .u16 dp) ∧ w'.cell? ⟨z + 1, 2, none⟩ = some (.slice A n c)) ∧ (w'.cell? ⟨z + 2, 0, none⟩ = some (.int .u16 left) ∧ w'.cell? ⟨z + 2, 1, none⟩ = some (.slice AB NB cB)) from
    fun w' hb => ⟨⟨by rw [blk_cell (blk_on hk0 hb)]; rfl, by rw [blk_cell (blk_on hk0 hb)]; rfl⟩, cells3 (blk_on hk1 hb), ⟨by rw [blk_cell (blk_on hk2 hb)]; rfl, by rw [blk_cell (blk_on hk2 hb)]; rfl⟩⟩)
  have HbW := Lib.hid hbW
  have HR0 := Lib.hid (show ∀ w', Below W0.heap.size W0 w' → Rd w' A n d ∧ Rd w' AB m dB from fun w' hb => ⟨(Hr.out.below hbW).below hb, (HrB.out.below hbW).below hb⟩)
  have HeW := Lib.hid eW0
  clear hk0 hk1 hk2 hbW eW0 hr hrB Hr HrB
  go_enter Try.func13, Try.ntmps13
  go_wp2_with fail
  rw [HeW.out]
  by_cases h1472 : 1472 < n
  · have h1472i : 1472 < (n : Int) := by omega
    refine (uput_bad src dst sp dp A n c _ h1472).mono ?_
    rintro e w3 ⟨rfl, hb3⟩
    have Hb := Lib.hid hb3
    obtain ⟨⟨f0, f1⟩, ⟨q0, q1, q2⟩, p0, p1⟩ := HK.out _ Hb.out
    clear hb3
    go_wp2_with fail
    refine (uawake_any _).mono ?_
    rintro e w7 ⟨rfl, hb7⟩
    have Hb := Lib.hid (below_trans HbW.out (below_trans Hb.out hb7))
    clear hb7
    go_wp2_with fail
    go_ret
    exact ⟨rfl, Hb.out⟩
  have hle : n ≤ 1472 := by omega
  have hlei : ¬ 1472 < (n : Int) := by omega
  have hrd := (HR0.out _ (Below.refl _ _)).1
  have hld : d.length = n := hrd.len
  have hl2 : d.length ≤ 1472 := by omega
  have hrn := restU_nn (s := ⟨sp, dp, d⟩) ⟨hnum.sp, hnum.dp⟩ hl2 hrd.byte
  have hlB : dB.length = m := (HR0.out _ (Below.refl _ _)).2.len
  have E0 := Lib.hid (show errU src dst (dgB src dst ⟨sp, dp, d⟩) = 0 by rw [err_dgB src dst src dst _ hs hd hs hd hl2 hrn, if_pos (by omega)])
  have E1 := Lib.hid (show ∀ k, k < 8 + n → errU src dst ((dgB src dst ⟨sp, dp, d⟩).take k) = if k < 8 then 4 else 5 from fun k hk => err_cut src dst ⟨sp, dp, d⟩ k (by simp only [hld]; exact hk) hl2)
  have E2 := Lib.hid (show 0 < m → errU src dst (dgB src dst ⟨sp, dp, d⟩ ++ dB) = if 1480 < 8 + n + m then 3 else 5 from fun hm => by rw [err_behind src dst ⟨sp, dp, d⟩ dB (by omega)]; simp only [hld, hlB])
  have hbL := dgB_bytes src dst (s := ⟨sp, dp, d⟩) ⟨hnum.sp, hnum.dp⟩ hl2 hrd.byte
  obtain ⟨L, eL⟩ : ∃ L, dgB src dst ⟨sp, dp, d⟩ = L := ⟨_, rfl⟩
  rw [eL] at E0 E1 E2 hbL
  have HbL := Lib.hid hbL
  have HbB := Lib.hid (HR0.out _ (Below.refl _ _)).2.byte
  have HeL := Lib.hid eL
  have Hnum := Lib.hid (show DgNum ⟨sp, dp, d⟩ from ⟨hnum.sp, hnum.dp⟩)
  clear hld hl2 hrn hbL eL hrd hlB hnum
  refine (uput_told src dst sp dp d A n c (8 + n) L _ Hnum.out Hc.out (HR0.out _ (Below.refl _ _)).1 hle rfl HeL.out).mono ?_
  rintro e w3 ⟨A3, c3, rfl, k3, m3, ho3, hb3⟩
  obtain ⟨g3, rfl, _, _⟩ := ho3.addr (by omega)
  have Hb := Lib.hid hb3
  have HL := Lib.hid (show ∀ w', Below w3.heap.size w3 w' → Rd w' (some ⟨g3, 0, none⟩) (8 + n) L from fun w' hb => (ho3.rd HbL.out).below hb)
  have Hcl := Lib.hid (And.intro k3 m3)
  obtain ⟨⟨f0, f1⟩, ⟨q0, q1, q2⟩, p0, p1⟩ := HK.out _ Hb.out
  have hl0 : (8 + (n : Int)) ≠ 0 := by omega
  have hl00 : ((8 + (n : Int)) == 0) = false := by simp; omega
  obtain ⟨k, hk⟩ : ∃ k : Nat, left.tmod (8 + (n : Int)) = (k : Int) := ⟨(left % (8 + (n : Int))).toNat, by rw [Int.tmod_eq_emod_of_nonneg hleft.1]; have := Int.emod_nonneg left hl0; omega⟩
  have hk8 : k < 8 + n := by have := Int.emod_lt_of_pos left (show (0 : Int) < 8 + (n : Int) by omega); rw [Int.tmod_eq_emod_of_nonneg hleft.1] at hk; omega
  have hwl : wrap64 left = left := IntWalk.wrap64_in _ (by omega)
  have hki : (k : Int) ≤ (c3 : Int) := by omega
  clear ho3 hb3 k3 m3 hleft
  obtain ⟨x1, ex1⟩ : ∃ x1 : Int, (if k < 8 then (4 : Int) else 5) = x1 := ⟨_, rfl⟩
  have EK := Lib.hid (show errU src dst (L.take k) = x1 by rw [E1.out k hk8, ex1])
  have Ex1 := Lib.hid ex1
  have Hk8 := Lib.hid hk8
  have HkC := Lib.hid (show k ≤ c3 ∧ c3 ≤ maxLen from ⟨by omega, Hcl.out.2⟩)
  have HbR := Lib.hid (Below.refl w3.heap.size w3)
  have HKK := Lib.hid (show ∀ w', Below w3.heap.size w3 w' → (w'.cell? ⟨z, 0, none⟩ = some (.int .u32 src) ∧ w'.cell? ⟨z, 1, none⟩ = some (.int .u32 dst)) from fun w' hb => (HK.out _ (below_trans Hb.out hb)).1)
  clear ex1 hk8
  go_upto_region 8 with (fail)
  go_cut [10, 11] (fun s10 s11 wx => (∃ q : Nat, s10 = .pointer (some ⟨q, 0, none⟩)) ∧ s11 = .int .i64 x1 ∧ Hid (Below w3.heap.size w3 wx))
  case first =>
    have hdr : Below w3.heap.size w3 w3.drew := Below.drew (Below.refl _ _)
    have Hc := Lib.hid hdr
    clear hdr
    refine wp_region_noPanic ?_
    refine wp_region_held_drew (S := fun w' => (w'.cell? ⟨z, 0, none⟩ = some (.int .u32 src) ∧ w'.cell? ⟨z, 1, none⟩ = some (.int .u32 dst))) (by kernel_rfl) (HKK.out _ Hc.out) (fun hHeld => ?_)
    refine wpAnyH_take (i := 0) (oi := { dst := some 61, op := Go.Op.fieldAddr 55 (Go.Operand.tmp 3) 0, type := 0, pos := "outright.go:66", after := #[], guard := none }) (v := ?_) rfl (by kernel_rfl) (by kernel_rfl) (by kernel_rfl) (fun _ _ _ h => h) (Or.inl ⟨by rfl, ?_⟩) (by assumption) ?_
    rotate_left 1
    · intro w' hSw; (go_simp <;> (with_reducible rfl))
    (try simp only [Act.put, List.setIfInBounds_toArray, List.set_cons_zero, List.set_cons_succ])
    refine wpAnyH_take (i := 1) (oi := { dst := some 62, op := Go.Op.load 22 (Go.Operand.tmp 61), type := 22, pos := "outright.go:66", after := #[{ on := 0, ground := Go.Ground.data }], guard := none }) (v := ?_) rfl (by kernel_rfl) (by kernel_rfl) (by kernel_rfl) (fun _ _ _ h => h) (Or.inl ⟨by rfl, ?_⟩) (by assumption) ?_
    rotate_left 1
    · intro w' hSw; (go_simp <;> (with_reducible rfl))
    (try simp only [Act.put, List.setIfInBounds_toArray, List.set_cons_zero, List.set_cons_succ])
    refine wpAnyH_take (i := 2) (oi := { dst := some 63, op := Go.Op.fieldAddr 55 (Go.Operand.tmp 3) 1, type := 0, pos := "outright.go:66", after := #[], guard := none }) (v := ?_) rfl (by kernel_rfl) (by kernel_rfl) (by kernel_rfl) (fun _ _ _ h => h) (Or.inl ⟨by rfl, ?_⟩) (by assumption) ?_
    rotate_left 1
    · intro w' hSw; (go_simp <;> (with_reducible rfl))
    (try simp only [Act.put, List.setIfInBounds_toArray, List.set_cons_zero, List.set_cons_succ])
    refine wpAnyH_take (i := 3) (oi := { dst := some 64, op := Go.Op.load 22 (Go.Operand.tmp 63), type := 22, pos := "outright.go:66", after := #[{ on := 2, ground := Go.Ground.data }], guard := none }) (v := ?_) rfl (by kernel_rfl) (by kernel_rfl) (by kernel_rfl) (fun _ _ _ h => h) (Or.inl ⟨by rfl, ?_⟩) (by assumption) ?_
    rotate_left 1
    · intro w' hSw; (go_simp <;> (with_reducible rfl))
    (try simp only [Act.put, List.setIfInBounds_toArray, List.set_cons_zero, List.set_cons_succ])
    refine wpAnyH_take (i := 4) (oi := { dst := some 65, op := Go.Op.move (Go.Operand.tmp 7), type := 25, pos := "outright.go:66", after := #[], guard := none }) (v := ?_) rfl (by kernel_rfl) (by kernel_rfl) (by kernel_rfl) (fun _ _ _ h => h) (Or.inl ⟨by rfl, ?_⟩) (by assumption) ?_
    rotate_left 1
    · intro w' hSw; (go_simp <;> (with_reducible rfl))
    (try simp only [Act.put, List.setIfInBounds_toArray, List.set_cons_zero, List.set_cons_succ])
    refine wpAnyH_take (i := 5) (oi := { dst := some 66, op := Go.Op.move (Go.Operand.tmp 9), type := 3, pos := "outright.go:66", after := #[], guard := none }) (v := ?_) rfl (by kernel_rfl) (by kernel_rfl) (by kernel_rfl) (fun _ _ _ h => h) (Or.inl ⟨by rfl, ?_⟩) (by assumption) ?_
    rotate_left 1
    · intro w' hSw; (go_simp <;> (with_reducible rfl))
    (try simp only [Act.put, List.setIfInBounds_toArray, List.set_cons_zero, List.set_cons_succ])
    refine wpAnyH_take (i := 6) (oi := { dst := some 67, op := Go.Op.slice 25 (Go.Operand.tmp 65) none (some (Go.Operand.tmp 66)) none, type := 25, pos := "outright.go:66", after := #[{ on := 4, ground := Go.Ground.data }, { on := 5, ground := Go.Ground.data }], guard := none }) (v := ?_) rfl (by kernel_rfl) (by kernel_rfl) (by kernel_rfl) (fun _ _ _ h => h) (Or.inl ⟨by rfl, ?_⟩) (by assumption) ?_
    rotate_left 1
    · intro w' hSw; (go_simp <;> (with_reducible rfl))
    (try simp only [Act.put, List.setIfInBounds_toArray, List.set_cons_zero, List.set_cons_succ])
    refine wpAnyH_ready (rs := [7, 11]) (by kernel_rfl) (by simp) ?_
    refine AllReadyH.cons (o := { dst := some 68, op := Go.Op.call { callee := Go.Callee.value (Go.Operand.func 39), args := #[Go.Operand.tmp 62, Go.Operand.tmp 64, Go.Operand.tmp 67], argTypes := #[22, 22, 25] }, type := 63, pos := "outright.go:66", after := #[{ on := 1, ground := Go.Ground.data }, { on := 3, ground := Go.Ground.data }, { on := 6, ground := Go.Ground.data }], guard := none }) rfl (fun K hK => ?_) (AllReadyH.cons (o := { dst := some 10, op := Go.Op.alloc 57, type := 0, pos := "outright.go:66", after := #[], guard := none }) rfl (fun K hK => ?_) AllReadyH.nil)
    ·
      go_simp
      refine (uparse_x src dst (some ⟨g3, 0, none⟩) k c3 (L.take k) x1 _ HkC.out ((HL.out _ Hc.out).take (by have := Hk8.out; omega)) EK.out).mono ?_
      rintro e w5 ⟨a5, b5, A5, n5, m5, rfl, hb5⟩
      have Hcc := Lib.hid (below_trans Hc.out hb5)
      have Hc := Hcc
      have Hb5 := Lib.hid hb5
      refine hK.out _ _ ?_ (fun hHeld => ?_)
      · exact HKK.out _ Hc.out
      clear hK K
      (try simp only [Act.put, List.setIfInBounds_toArray, List.set_cons_zero, List.set_cons_succ])
      refine wpAnyH_take (i := 8) (oi := { dst := some 60, op := Go.Op.move (Go.Operand.tmp 68), type := 63, pos := "outright.go:66", after := #[{ on := 7, ground := Go.Ground.data }], guard := none }) (v := ?_) rfl (by kernel_rfl) (by kernel_rfl) (by kernel_rfl) (fun _ _ _ h => h) (Or.inl ⟨by rfl, ?_⟩) (by assumption) ?_
      rotate_left 1
      · intro w' hSw; (go_simp <;> (with_reducible rfl))
      (try simp only [Act.put, List.setIfInBounds_toArray, List.set_cons_zero, List.set_cons_succ])
      refine wpAnyH_take (i := 9) (oi := { dst := some 69, op := Go.Op.extract (Go.Operand.tmp 60) 0, type := 57, pos := "outright.go:66", after := #[{ on := 8, ground := Go.Ground.data }], guard := none }) (v := ?_) rfl (by kernel_rfl) (by kernel_rfl) (by kernel_rfl) (fun _ _ _ h => h) (Or.inl ⟨by rfl, ?_⟩) (by assumption) ?_
      rotate_left 1
      · intro w' hSw; (go_simp <;> (with_reducible rfl))
      (try simp only [Act.put, List.setIfInBounds_toArray, List.set_cons_zero, List.set_cons_succ])
      refine wpAnyH_take (i := 10) (oi := { dst := some 70, op := Go.Op.extract (Go.Operand.tmp 60) 1, type := 28, pos := "outright.go:66", after := #[{ on := 8, ground := Go.Ground.data }, { on := 12, ground := Go.Ground.gcOnly Go.Departure.lateStores }], guard := none }) (v := ?_) rfl (by kernel_rfl) (by kernel_rfl) (by kernel_rfl) (fun _ _ _ h => h) (Or.inl ⟨by rfl, ?_⟩) (by assumption) ?_
      rotate_left 1
      · intro w' hSw; (go_simp <;> (with_reducible rfl))
      (try simp only [Act.put, List.setIfInBounds_toArray, List.set_cons_zero, List.set_cons_succ])
      refine wpAnyH_ready (rs := [11]) (by kernel_rfl) (by simp) ?_
      refine AllReadyH.cons (o := { dst := some 10, op := Go.Op.alloc 57, type := 0, pos := "outright.go:66", after := #[], guard := none }) rfl (fun K hK => ?_) AllReadyH.nil
      have Hq := Lib.hid (heap_alloc_new w5 (.cells #[.int .u16 0, .int .u16 0, .slice none 0 0] 57))
      go_simp
      have Hc := Lib.hid (Hc.out.alloc Hc.out.size (.cells #[.int .u16 0, .int .u16 0, .slice none 0 0] 57))
      refine hK.out _ _ ?_ (fun hHeld => ?_)
      · exact HKK.out _ Hc.out
      clear hK K
      (try simp only [Act.put, List.setIfInBounds_toArray, List.set_cons_zero, List.set_cons_succ])
      obtain ⟨y0, y1, y2⟩ := cells3 Hq.out
      have yf := blk_free Hq.out
      refine wpAnyH_ready (rs := [12]) (by kernel_rfl) (by simp) ?_
      refine AllReadyH.cons (o := { dst := none, op := Go.Op.store 57 (Go.Operand.tmp 10) (Go.Operand.tmp 69), type := 0, pos := "outright.go:66", after := #[{ on := 11, ground := Go.Ground.data }, { on := 9, ground := Go.Ground.data }, { on := 7, ground := Go.Ground.chain }, { on := 0, ground := Go.Ground.phase }, { on := 1, ground := Go.Ground.phase }, { on := 2, ground := Go.Ground.phase }, { on := 3, ground := Go.Ground.phase }, { on := 4, ground := Go.Ground.phase }, { on := 5, ground := Go.Ground.phase }, { on := 6, ground := Go.Ground.phase }, { on := 7, ground := Go.Ground.phase }, { on := 8, ground := Go.Ground.phase }, { on := 9, ground := Go.Ground.phase }, { on := 10, ground := Go.Ground.textOnly Go.Departure.lateStores }, { on := 11, ground := Go.Ground.phase }], guard := none }) rfl (fun K hK => ?_) AllReadyH.nil
      go_simp
      refine hK.out _ _ ?_ (fun hHeld => ?_)
      · exact HKK.out _ (Hcc.out.alloc Hcc.out.size _)
      clear hK K
      (try simp only [Act.put, List.setIfInBounds_toArray, List.set_cons_zero, List.set_cons_succ])
      refine wpAnyH_take (i := 13) (oi := { dst := some 11, op := Go.Op.assign (Go.Operand.tmp 70), type := 28, pos := "outright.go:66", after := #[{ on := 10, ground := Go.Ground.data }, { on := 12, ground := Go.Ground.chain }, { on := 0, ground := Go.Ground.phase }, { on := 1, ground := Go.Ground.phase }, { on := 2, ground := Go.Ground.phase }, { on := 3, ground := Go.Ground.phase }, { on := 4, ground := Go.Ground.phase }, { on := 5, ground := Go.Ground.phase }, { on := 6, ground := Go.Ground.phase }, { on := 7, ground := Go.Ground.phase }, { on := 8, ground := Go.Ground.phase }, { on := 9, ground := Go.Ground.phase }, { on := 10, ground := Go.Ground.phase }, { on := 11, ground := Go.Ground.phase }, { on := 12, ground := Go.Ground.phase }], guard := none }) (v := ?_) rfl (by kernel_rfl) (by kernel_rfl) (by kernel_rfl) (fun _ _ _ h => h) (Or.inl ⟨by rfl, ?_⟩) (by assumption) ?_
      rotate_left 1
      · intro w' hSw; (go_simp <;> (with_reducible rfl))
      (try simp only [Act.put, List.setIfInBounds_toArray, List.set_cons_zero, List.set_cons_succ])
      refine wpAnyH_done (by kernel_rfl) ?_ _
      refine NoPanic.normal ?_
      go_wp2_with fail
      go_meet
      exact ⟨⟨_, rfl⟩, rfl, Lib.hid (Hcc.out.alloc Hcc.out.size _)⟩
    · have Hq := Lib.hid (heap_alloc_new w3.drew (.cells #[.int .u16 0, .int .u16 0, .slice none 0 0] 57))
      go_simp
      have Hc := Lib.hid (Hc.out.alloc Hc.out.size (.cells #[.int .u16 0, .int .u16 0, .slice none 0 0] 57))
      refine hK.out _ _ ?_ (fun hHeld => ?_)
      · exact HKK.out _ Hc.out
      clear hK K
      (try simp only [Act.put, List.setIfInBounds_toArray, List.set_cons_zero, List.set_cons_succ])
      refine wpAnyH_ready (rs := [7]) (by kernel_rfl) (by simp) ?_
      refine AllReadyH.cons (o := { dst := some 68, op := Go.Op.call { callee := Go.Callee.value (Go.Operand.func 39), args := #[Go.Operand.tmp 62, Go.Operand.tmp 64, Go.Operand.tmp 67], argTypes := #[22, 22, 25] }, type := 63, pos := "outright.go:66", after := #[{ on := 1, ground := Go.Ground.data }, { on := 3, ground := Go.Ground.data }, { on := 6, ground := Go.Ground.data }], guard := none }) rfl (fun K hK => ?_) AllReadyH.nil
      go_simp
      refine (uparse_x src dst (some ⟨g3, 0, none⟩) k c3 (L.take k) x1 _ HkC.out ((HL.out _ Hc.out).take (by have := Hk8.out; omega)) EK.out).mono ?_
      rintro e w5 ⟨a5, b5, A5, n5, m5, rfl, hb5⟩
      have Hcc := Lib.hid (below_trans Hc.out hb5)
      have Hc := Hcc
      have Hb5 := Lib.hid hb5
      refine hK.out _ _ ?_ (fun hHeld => ?_)
      · exact HKK.out _ Hc.out
      clear hK K
      (try simp only [Act.put, List.setIfInBounds_toArray, List.set_cons_zero, List.set_cons_succ])
      have Hq := Lib.hid (show w5.heap[w3.heap.size]? = some (.cells #[.int .u16 0, .int .u16 0, .slice none 0 0] 57 (0, 0)) from blk_on Hq.out Hb5.out)
      refine wpAnyH_take (i := 8) (oi := { dst := some 60, op := Go.Op.move (Go.Operand.tmp 68), type := 63, pos := "outright.go:66", after := #[{ on := 7, ground := Go.Ground.data }], guard := none }) (v := ?_) rfl (by kernel_rfl) (by kernel_rfl) (by kernel_rfl) (fun _ _ _ h => h) (Or.inl ⟨by rfl, ?_⟩) (by assumption) ?_
      rotate_left 1
      · intro w' hSw; (go_simp <;> (with_reducible rfl))
      (try simp only [Act.put, List.setIfInBounds_toArray, List.set_cons_zero, List.set_cons_succ])
      refine wpAnyH_take (i := 9) (oi := { dst := some 69, op := Go.Op.extract (Go.Operand.tmp 60) 0, type := 57, pos := "outright.go:66", after := #[{ on := 8, ground := Go.Ground.data }], guard := none }) (v := ?_) rfl (by kernel_rfl) (by kernel_rfl) (by kernel_rfl) (fun _ _ _ h => h) (Or.inl ⟨by rfl, ?_⟩) (by assumption) ?_
      rotate_left 1
      · intro w' hSw; (go_simp <;> (with_reducible rfl))
      (try simp only [Act.put, List.setIfInBounds_toArray, List.set_cons_zero, List.set_cons_succ])
      refine wpAnyH_take (i := 10) (oi := { dst := some 70, op := Go.Op.extract (Go.Operand.tmp 60) 1, type := 28, pos := "outright.go:66", after := #[{ on := 8, ground := Go.Ground.data }, { on := 12, ground := Go.Ground.gcOnly Go.Departure.lateStores }], guard := none }) (v := ?_) rfl (by kernel_rfl) (by kernel_rfl) (by kernel_rfl) (fun _ _ _ h => h) (Or.inl ⟨by rfl, ?_⟩) (by assumption) ?_
      rotate_left 1
      · intro w' hSw; (go_simp <;> (with_reducible rfl))
      (try simp only [Act.put, List.setIfInBounds_toArray, List.set_cons_zero, List.set_cons_succ])
      obtain ⟨y0, y1, y2⟩ := cells3 Hq.out
      have yf := blk_free Hq.out
      refine wpAnyH_ready (rs := [12]) (by kernel_rfl) (by simp) ?_
      refine AllReadyH.cons (o := { dst := none, op := Go.Op.store 57 (Go.Operand.tmp 10) (Go.Operand.tmp 69), type := 0, pos := "outright.go:66", after := #[{ on := 11, ground := Go.Ground.data }, { on := 9, ground := Go.Ground.data }, { on := 7, ground := Go.Ground.chain }, { on := 0, ground := Go.Ground.phase }, { on := 1, ground := Go.Ground.phase }, { on := 2, ground := Go.Ground.phase }, { on := 3, ground := Go.Ground.phase }, { on := 4, ground := Go.Ground.phase }, { on := 5, ground := Go.Ground.phase }, { on := 6, ground := Go.Ground.phase }, { on := 7, ground := Go.Ground.phase }, { on := 8, ground := Go.Ground.phase }, { on := 9, ground := Go.Ground.phase }, { on := 10, ground := Go.Ground.textOnly Go.Departure.lateStores }, { on := 11, ground := Go.Ground.phase }], guard := none }) rfl (fun K hK => ?_) AllReadyH.nil
      go_simp
      refine hK.out _ _ ?_ (fun hHeld => ?_)
      · exact HKK.out _ (((Hc.out.setCell (Nat.le_refl _) _).setCell (Nat.le_refl _) _).setCell (Nat.le_refl _) _)
      clear hK K
      (try simp only [Act.put, List.setIfInBounds_toArray, List.set_cons_zero, List.set_cons_succ])
      refine wpAnyH_take (i := 13) (oi := { dst := some 11, op := Go.Op.assign (Go.Operand.tmp 70), type := 28, pos := "outright.go:66", after := #[{ on := 10, ground := Go.Ground.data }, { on := 12, ground := Go.Ground.chain }, { on := 0, ground := Go.Ground.phase }, { on := 1, ground := Go.Ground.phase }, { on := 2, ground := Go.Ground.phase }, { on := 3, ground := Go.Ground.phase }, { on := 4, ground := Go.Ground.phase }, { on := 5, ground := Go.Ground.phase }, { on := 6, ground := Go.Ground.phase }, { on := 7, ground := Go.Ground.phase }, { on := 8, ground := Go.Ground.phase }, { on := 9, ground := Go.Ground.phase }, { on := 10, ground := Go.Ground.phase }, { on := 11, ground := Go.Ground.phase }, { on := 12, ground := Go.Ground.phase }], guard := none }) (v := ?_) rfl (by kernel_rfl) (by kernel_rfl) (by kernel_rfl) (fun _ _ _ h => h) (Or.inl ⟨by rfl, ?_⟩) (by assumption) ?_
      rotate_left 1
      · intro w' hSw; (go_simp <;> (with_reducible rfl))
      (try simp only [Act.put, List.setIfInBounds_toArray, List.set_cons_zero, List.set_cons_succ])
      refine wpAnyH_done (by kernel_rfl) ?_ _
      refine NoPanic.normal ?_
      go_wp2_with fail
      go_meet
      exact ⟨⟨_, rfl⟩, rfl, Lib.hid (((Hc.out.setCell (Nat.le_refl _) _).setCell (Nat.le_refl _) _).setCell (Nat.le_refl _) _)⟩
  case rest =>
  obtain ⟨⟨q8, rfl⟩, rfl, Hc⟩ := hcut
  have Hb6 := Lib.hid (below_trans Hb.out Hc.out)
  clear f0 f1 q0 q1 q2 p0 p1 hlei hk hl0 hl00 hwl hki EK E1 Hk8 HkC
  obtain ⟨⟨f0, f1⟩, ⟨q0, q1, q2⟩, p0, p1⟩ := HK.out _ Hb6.out
  have HR := Lib.hid (show ∀ w', Below w3.heap.size w3 w' → Rd w' AB m dB from fun w' hb => (HR0.out _ (below_trans Hb.out hb)).2)
  obtain ⟨x2, ex2⟩ : ∃ x2 : Int, (if m = 0 then (0 : Int) else if 1480 < 8 + n + m then 3 else 5) = x2 := ⟨_, rfl⟩
  have EB := Lib.hid (show errU src dst (L ++ dB) = x2 by
    by_cases h0 : m = 0
    · rw [← ex2, if_pos h0, show dB = [] from List.eq_nil_of_length_eq_zero (by rw [← h0]; exact (HR.out _ (Below.refl _ _)).len), List.append_nil]; exact E0.out
    · rw [← ex2, if_neg h0]; exact E2.out (by omega))
  have Ex2 := Lib.hid ex2
  have HbLB := Lib.hid (show ∀ x ∈ L ++ dB, 0 ≤ x ∧ x < 256 from fun x hx => by
    rcases List.mem_append.1 hx with h1 | h1
    · exact HbL.out x h1
    · exact HbB.out x h1)
  clear E0 E2 ex2
  by_cases h8 : k < 8
  case pos =>
    obtain rfl : x1 = 4 := by have := Ex1.out; rw [if_pos h8] at this; exact this.symm
    have h8i : (k : Int) < 8 := by omega
    clear h8
    go_upto_region 15 with (fail)
    go_cut [14, 15] (fun s14 s15 wx => (∃ q : Nat, s14 = .pointer (some ⟨q, 0, none⟩)) ∧ s15 = .int .i64 x2 ∧ Hid (Below w3.heap.size w3 wx))
    case first =>
      obtain ⟨v3, ev3⟩ : ∃ v, wc = v := ⟨_, rfl⟩
      rw [ev3] at Hc f0 f1 ⊢
      clear ev3
      have Hc := Lib.hid (below_trans Hc.out (Below.drew (Below.refl v3.heap.size v3)))
      refine wp_region_noPanic ?_
      refine wp_region_held_drew (S := fun w' => (w'.cell? ⟨z, 0, none⟩ = some (.int .u32 src) ∧ w'.cell? ⟨z, 1, none⟩ = some (.int .u32 dst))) (by kernel_rfl) (HKK.out _ Hc.out) (fun hHeld => ?_)
      obtain ⟨v4, ev4⟩ : ∃ v, v3.drew = v := ⟨_, rfl⟩
      rw [ev4] at Hc hHeld ⊢
      clear ev4
      refine wpAnyH_take (i := 0) (oi := { dst := some 84, op := Go.Op.fieldAddr 55 (Go.Operand.tmp 3) 0, type := 0, pos := "outright.go:75", after := #[], guard := none }) (v := ?_) rfl (by kernel_rfl) (by kernel_rfl) (by kernel_rfl) (fun _ _ _ h => h) (Or.inl ⟨by rfl, ?_⟩) (by assumption) ?_
      rotate_left 1
      · intro w' hSw; (go_simp <;> (with_reducible rfl))
      (try simp only [Act.put, List.setIfInBounds_toArray, List.set_cons_zero, List.set_cons_succ])
      refine wpAnyH_take (i := 1) (oi := { dst := some 85, op := Go.Op.load 22 (Go.Operand.tmp 84), type := 22, pos := "outright.go:75", after := #[{ on := 0, ground := Go.Ground.data }], guard := none }) (v := ?_) rfl (by kernel_rfl) (by kernel_rfl) (by kernel_rfl) (fun _ _ _ h => h) (Or.inl ⟨by rfl, ?_⟩) (by assumption) ?_
      rotate_left 1
      · intro w' hSw; (go_simp <;> (with_reducible rfl))
      (try simp only [Act.put, List.setIfInBounds_toArray, List.set_cons_zero, List.set_cons_succ])
      refine wpAnyH_take (i := 2) (oi := { dst := some 86, op := Go.Op.fieldAddr 55 (Go.Operand.tmp 3) 1, type := 0, pos := "outright.go:75", after := #[], guard := none }) (v := ?_) rfl (by kernel_rfl) (by kernel_rfl) (by kernel_rfl) (fun _ _ _ h => h) (Or.inl ⟨by rfl, ?_⟩) (by assumption) ?_
      rotate_left 1
      · intro w' hSw; (go_simp <;> (with_reducible rfl))
      (try simp only [Act.put, List.setIfInBounds_toArray, List.set_cons_zero, List.set_cons_succ])
      refine wpAnyH_take (i := 3) (oi := { dst := some 87, op := Go.Op.load 22 (Go.Operand.tmp 86), type := 22, pos := "outright.go:75", after := #[{ on := 2, ground := Go.Ground.data }], guard := none }) (v := ?_) rfl (by kernel_rfl) (by kernel_rfl) (by kernel_rfl) (fun _ _ _ h => h) (Or.inl ⟨by rfl, ?_⟩) (by assumption) ?_
      rotate_left 1
      · intro w' hSw; (go_simp <;> (with_reducible rfl))
      (try simp only [Act.put, List.setIfInBounds_toArray, List.set_cons_zero, List.set_cons_succ])
      refine wpAnyH_take (i := 4) (oi := { dst := some 88, op := Go.Op.move (Go.Operand.tmp 7), type := 25, pos := "outright.go:75", after := #[], guard := none }) (v := ?_) rfl (by kernel_rfl) (by kernel_rfl) (by kernel_rfl) (fun _ _ _ h => h) (Or.inl ⟨by rfl, ?_⟩) (by assumption) ?_
      rotate_left 1
      · intro w' hSw; (go_simp <;> (with_reducible rfl))
      (try simp only [Act.put, List.setIfInBounds_toArray, List.set_cons_zero, List.set_cons_succ])
      refine wpAnyH_take (i := 6) (oi := { dst := some 90, op := Go.Op.move (Go.Operand.tmp 13), type := 25, pos := "outright.go:75", after := #[], guard := none }) (v := ?_) rfl (by kernel_rfl) (by kernel_rfl) (by kernel_rfl) (fun _ _ _ h => h) (Or.inl ⟨by rfl, ?_⟩) (by assumption) ?_
      rotate_left 1
      · intro w' hSw; (go_simp <;> (with_reducible rfl))
      (try simp only [Act.put, List.setIfInBounds_toArray, List.set_cons_zero, List.set_cons_succ])
      refine wpAnyH_ready (rs := [5, 12]) (by kernel_rfl) (by simp) ?_
      refine AllReadyH.cons (o := { dst := some 89, op := Go.Op.call { callee := Go.Callee.value (Go.Operand.func 41), args := #[Go.Operand.tmp 88], argTypes := #[25] }, type := 25, pos := "outright.go:75", after := #[{ on := 4, ground := Go.Ground.data }], guard := none }) rfl (fun K hK => ?_) (AllReadyH.cons (o := { dst := some 14, op := Go.Op.alloc 57, type := 0, pos := "outright.go:75", after := #[], guard := none }) rfl (fun K hK => ?_) AllReadyH.nil)
      ·
        go_simp
        refine (bclone_any ⟨g3, 0, none⟩ (8 + n) c3 L _ (by omega) (HL.out _ Hc.out)).mono ?_
        rintro e w11 ⟨AA, cA, rfl, kA, mA, hoA, hbA⟩
        have Ho := Lib.hid (hoA.mono (B' := w3.heap.size) Hc.out.size)
        have Hc := Lib.hid (below_trans Hc.out hbA)
        have HoA := Lib.hid hoA
        have HbA := Lib.hid hbA
        refine hK.out _ _ ?_ (fun hHeld => ?_)
        · exact HKK.out _ Hc.out
        clear hK K hoA hbA
        (try simp only [Act.put, List.setIfInBounds_toArray, List.set_cons_zero, List.set_cons_succ])
        refine wpAnyH_ready (rs := [7, 12]) (by kernel_rfl) (by simp) ?_
        refine AllReadyH.cons (o := { dst := some 91, op := Go.Op.call { callee := Go.Callee.builtin Go.Builtin.append, args := #[Go.Operand.tmp 89, Go.Operand.tmp 90], argTypes := #[25, 25] }, type := 25, pos := "outright.go:75", after := #[{ on := 5, ground := Go.Ground.data }, { on := 6, ground := Go.Ground.data }, { on := 5, ground := Go.Ground.chain }], guard := none }) rfl (fun K hK => ?_) (AllReadyH.cons (o := { dst := some 14, op := Go.Op.alloc 57, type := 0, pos := "outright.go:75", after := #[], guard := none }) rfl (fun K hK => ?_) AllReadyH.nil)
        ·
          refine step_app rfl (.tmp 89) (.tmp 90) rfl w3.heap.size AA AB (8 + n) cA m cB L dB (8 + n + m) (L ++ dB) rfl rfl rfl rfl Ho.out (HR.out _ Hc.out) (by omega) Hc.out.size ?_
          intro A2 c2 w12 ho12 hg12 hb12
          have Ho := Lib.hid ho12
          have Hg12 := Lib.hid hg12.block
          have Hc := Lib.hid (Hc.out.trans hb12)
          refine hK.out _ _ ?_ (fun hHeld => ?_)
          · exact HKK.out _ Hc.out
          clear hK K ho12 hg12 hb12
          (try simp only [Act.put, List.setIfInBounds_toArray, List.set_cons_zero, List.set_cons_succ])
          refine wpAnyH_ready (rs := [8, 12]) (by kernel_rfl) (by simp) ?_
          refine AllReadyH.cons (o := { dst := some 92, op := Go.Op.call { callee := Go.Callee.value (Go.Operand.func 39), args := #[Go.Operand.tmp 85, Go.Operand.tmp 87, Go.Operand.tmp 91], argTypes := #[22, 22, 25] }, type := 63, pos := "outright.go:75", after := #[{ on := 1, ground := Go.Ground.data }, { on := 3, ground := Go.Ground.data }, { on := 7, ground := Go.Ground.data }, { on := 7, ground := Go.Ground.chain }], guard := none }) rfl (fun K hK => ?_) (AllReadyH.cons (o := { dst := some 14, op := Go.Op.alloc 57, type := 0, pos := "outright.go:75", after := #[], guard := none }) rfl (fun K hK => ?_) AllReadyH.nil)
          ·
            go_simp
            refine (uparse_x src dst A2 (8 + n + m) c2 (L ++ dB) x2 _ ⟨Ho.out.cap, Ho.out.capMax⟩ (Ho.out.rd HbLB.out) EB.out).mono ?_
            rintro e w13 ⟨a5, b5, A5, n5, m5, rfl, hb13⟩
            have Hcc := Lib.hid (below_trans Hc.out hb13)
            have Hc := Hcc
            have Hb13 := Lib.hid hb13
            refine hK.out _ _ ?_ (fun hHeld => ?_)
            · exact HKK.out _ Hc.out
            clear hK K hb13
            (try simp only [Act.put, List.setIfInBounds_toArray, List.set_cons_zero, List.set_cons_succ])
            refine wpAnyH_take (i := 9) (oi := { dst := some 83, op := Go.Op.move (Go.Operand.tmp 92), type := 63, pos := "outright.go:75", after := #[{ on := 8, ground := Go.Ground.data }], guard := none }) (v := ?_) rfl (by kernel_rfl) (by kernel_rfl) (by kernel_rfl) (fun _ _ _ h => h) (Or.inl ⟨by rfl, ?_⟩) (by assumption) ?_
            rotate_left 1
            · intro w' hSw; (go_simp <;> (with_reducible rfl))
            (try simp only [Act.put, List.setIfInBounds_toArray, List.set_cons_zero, List.set_cons_succ])
            refine wpAnyH_take (i := 10) (oi := { dst := some 93, op := Go.Op.extract (Go.Operand.tmp 83) 0, type := 57, pos := "outright.go:75", after := #[{ on := 9, ground := Go.Ground.data }], guard := none }) (v := ?_) rfl (by kernel_rfl) (by kernel_rfl) (by kernel_rfl) (fun _ _ _ h => h) (Or.inl ⟨by rfl, ?_⟩) (by assumption) ?_
            rotate_left 1
            · intro w' hSw; (go_simp <;> (with_reducible rfl))
            (try simp only [Act.put, List.setIfInBounds_toArray, List.set_cons_zero, List.set_cons_succ])
            refine wpAnyH_take (i := 11) (oi := { dst := some 94, op := Go.Op.extract (Go.Operand.tmp 83) 1, type := 28, pos := "outright.go:75", after := #[{ on := 9, ground := Go.Ground.data }, { on := 13, ground := Go.Ground.gcOnly Go.Departure.lateStores }], guard := none }) (v := ?_) rfl (by kernel_rfl) (by kernel_rfl) (by kernel_rfl) (fun _ _ _ h => h) (Or.inl ⟨by rfl, ?_⟩) (by assumption) ?_
            rotate_left 1
            · intro w' hSw; (go_simp <;> (with_reducible rfl))
            (try simp only [Act.put, List.setIfInBounds_toArray, List.set_cons_zero, List.set_cons_succ])
            refine wpAnyH_ready (rs := [12]) (by kernel_rfl) (by simp) ?_
            refine AllReadyH.cons (o := { dst := some 14, op := Go.Op.alloc 57, type := 0, pos := "outright.go:75", after := #[], guard := none }) rfl (fun K hK => ?_) AllReadyH.nil
            have Hq := Lib.hid (heap_alloc_new w13 (.cells #[.int .u16 0, .int .u16 0, .slice none 0 0] 57))
            go_simp
            have Hc := Lib.hid (Hc.out.alloc Hc.out.size (.cells #[.int .u16 0, .int .u16 0, .slice none 0 0] 57))
            refine hK.out _ _ ?_ (fun hHeld => ?_)
            · exact HKK.out _ Hc.out
            clear hK K
            (try simp only [Act.put, List.setIfInBounds_toArray, List.set_cons_zero, List.set_cons_succ])
            obtain ⟨y0, y1, y2⟩ := cells3 Hq.out
            have yf := blk_free Hq.out
            refine wpAnyH_ready (rs := [13]) (by kernel_rfl) (by simp) ?_
            refine AllReadyH.cons (o := { dst := none, op := Go.Op.store 57 (Go.Operand.tmp 14) (Go.Operand.tmp 93), type := 0, pos := "outright.go:75", after := #[{ on := 12, ground := Go.Ground.data }, { on := 10, ground := Go.Ground.data }, { on := 8, ground := Go.Ground.chain }, { on := 0, ground := Go.Ground.phase }, { on := 1, ground := Go.Ground.phase }, { on := 2, ground := Go.Ground.phase }, { on := 3, ground := Go.Ground.phase }, { on := 4, ground := Go.Ground.phase }, { on := 5, ground := Go.Ground.phase }, { on := 6, ground := Go.Ground.phase }, { on := 7, ground := Go.Ground.phase }, { on := 8, ground := Go.Ground.phase }, { on := 9, ground := Go.Ground.phase }, { on := 10, ground := Go.Ground.phase }, { on := 11, ground := Go.Ground.textOnly Go.Departure.lateStores }, { on := 12, ground := Go.Ground.phase }], guard := none }) rfl (fun K hK => ?_) AllReadyH.nil
            go_simp
            refine hK.out _ _ ?_ (fun hHeld => ?_)
            · exact HKK.out _ (Hcc.out.alloc Hcc.out.size _)
            clear hK K
            (try simp only [Act.put, List.setIfInBounds_toArray, List.set_cons_zero, List.set_cons_succ])
            refine wpAnyH_take (i := 14) (oi := { dst := some 15, op := Go.Op.assign (Go.Operand.tmp 94), type := 28, pos := "outright.go:75", after := #[{ on := 11, ground := Go.Ground.data }, { on := 13, ground := Go.Ground.chain }, { on := 0, ground := Go.Ground.phase }, { on := 1, ground := Go.Ground.phase }, { on := 2, ground := Go.Ground.phase }, { on := 3, ground := Go.Ground.phase }, { on := 4, ground := Go.Ground.phase }, { on := 5, ground := Go.Ground.phase }, { on := 6, ground := Go.Ground.phase }, { on := 7, ground := Go.Ground.phase }, { on := 8, ground := Go.Ground.phase }, { on := 9, ground := Go.Ground.phase }, { on := 10, ground := Go.Ground.phase }, { on := 11, ground := Go.Ground.phase }, { on := 12, ground := Go.Ground.phase }, { on := 13, ground := Go.Ground.phase }], guard := none }) (v := ?_) rfl (by kernel_rfl) (by kernel_rfl) (by kernel_rfl) (fun _ _ _ h => h) (Or.inl ⟨by rfl, ?_⟩) (by assumption) ?_
            rotate_left 1
            · intro w' hSw; (go_simp <;> (with_reducible rfl))
            (try simp only [Act.put, List.setIfInBounds_toArray, List.set_cons_zero, List.set_cons_succ])
            refine wpAnyH_done (by kernel_rfl) ?_ _
            refine NoPanic.normal ?_
            go_wp2_with fail
            go_meet
            exact ⟨⟨_, rfl⟩, rfl, Lib.hid (Hcc.out.alloc Hcc.out.size _)⟩
          ·
            have Hq := Lib.hid (heap_alloc_new w12 (.cells #[.int .u16 0, .int .u16 0, .slice none 0 0] 57))
            have Hqs := Lib.hid (show w3.heap.size ≤ w12.heap.size from Hc.out.size)
            obtain ⟨q, eq⟩ : ∃ q, w12.heap.size = q := ⟨_, rfl⟩
            go_simp
            have Hc := Lib.hid (Hc.out.alloc Hc.out.size (.cells #[.int .u16 0, .int .u16 0, .slice none 0 0] 57))
            refine hK.out _ _ ?_ (fun hHeld => ?_)
            · exact HKK.out _ Hc.out
            clear hK K
            (try simp only [Act.put, List.setIfInBounds_toArray, List.set_cons_zero, List.set_cons_succ])
            rw [eq] at Hq Hqs
            have Ho := Lib.hid (Ho.out.alloc (.cells #[.int .u16 0, .int .u16 0, .slice none 0 0] 57))
            refine wpAnyH_ready (rs := [8]) (by kernel_rfl) (by simp) ?_
            refine AllReadyH.cons (o := { dst := some 92, op := Go.Op.call { callee := Go.Callee.value (Go.Operand.func 39), args := #[Go.Operand.tmp 85, Go.Operand.tmp 87, Go.Operand.tmp 91], argTypes := #[22, 22, 25] }, type := 63, pos := "outright.go:75", after := #[{ on := 1, ground := Go.Ground.data }, { on := 3, ground := Go.Ground.data }, { on := 7, ground := Go.Ground.data }, { on := 7, ground := Go.Ground.chain }], guard := none }) rfl (fun K hK => ?_) AllReadyH.nil
            go_simp
            refine (uparse_x src dst A2 (8 + n + m) c2 (L ++ dB) x2 _ ⟨Ho.out.cap, Ho.out.capMax⟩ (Ho.out.rd HbLB.out) EB.out).mono ?_
            rintro e w13 ⟨a5, b5, A5, n5, m5, rfl, hb13⟩
            have Hcc := Lib.hid (below_trans Hc.out hb13)
            have Hc := Hcc
            have Hb13 := Lib.hid hb13
            refine hK.out _ _ ?_ (fun hHeld => ?_)
            · exact HKK.out _ Hc.out
            clear hK K hb13
            (try simp only [Act.put, List.setIfInBounds_toArray, List.set_cons_zero, List.set_cons_succ])
            have Hq := Lib.hid (blk_on Hq.out Hb13.out)
            refine wpAnyH_take (i := 9) (oi := { dst := some 83, op := Go.Op.move (Go.Operand.tmp 92), type := 63, pos := "outright.go:75", after := #[{ on := 8, ground := Go.Ground.data }], guard := none }) (v := ?_) rfl (by kernel_rfl) (by kernel_rfl) (by kernel_rfl) (fun _ _ _ h => h) (Or.inl ⟨by rfl, ?_⟩) (by assumption) ?_
            rotate_left 1
            · intro w' hSw; (go_simp <;> (with_reducible rfl))
            (try simp only [Act.put, List.setIfInBounds_toArray, List.set_cons_zero, List.set_cons_succ])
            refine wpAnyH_take (i := 10) (oi := { dst := some 93, op := Go.Op.extract (Go.Operand.tmp 83) 0, type := 57, pos := "outright.go:75", after := #[{ on := 9, ground := Go.Ground.data }], guard := none }) (v := ?_) rfl (by kernel_rfl) (by kernel_rfl) (by kernel_rfl) (fun _ _ _ h => h) (Or.inl ⟨by rfl, ?_⟩) (by assumption) ?_
            rotate_left 1
            · intro w' hSw; (go_simp <;> (with_reducible rfl))
            (try simp only [Act.put, List.setIfInBounds_toArray, List.set_cons_zero, List.set_cons_succ])
            refine wpAnyH_take (i := 11) (oi := { dst := some 94, op := Go.Op.extract (Go.Operand.tmp 83) 1, type := 28, pos := "outright.go:75", after := #[{ on := 9, ground := Go.Ground.data }, { on := 13, ground := Go.Ground.gcOnly Go.Departure.lateStores }], guard := none }) (v := ?_) rfl (by kernel_rfl) (by kernel_rfl) (by kernel_rfl) (fun _ _ _ h => h) (Or.inl ⟨by rfl, ?_⟩) (by assumption) ?_
            rotate_left 1
            · intro w' hSw; (go_simp <;> (with_reducible rfl))
            (try simp only [Act.put, List.setIfInBounds_toArray, List.set_cons_zero, List.set_cons_succ])
            obtain ⟨y0, y1, y2⟩ := cells3 Hq.out
            have yf := blk_free Hq.out
            refine wpAnyH_ready (rs := [13]) (by kernel_rfl) (by simp) ?_
            refine AllReadyH.cons (o := { dst := none, op := Go.Op.store 57 (Go.Operand.tmp 14) (Go.Operand.tmp 93), type := 0, pos := "outright.go:75", after := #[{ on := 12, ground := Go.Ground.data }, { on := 10, ground := Go.Ground.data }, { on := 8, ground := Go.Ground.chain }, { on := 0, ground := Go.Ground.phase }, { on := 1, ground := Go.Ground.phase }, { on := 2, ground := Go.Ground.phase }, { on := 3, ground := Go.Ground.phase }, { on := 4, ground := Go.Ground.phase }, { on := 5, ground := Go.Ground.phase }, { on := 6, ground := Go.Ground.phase }, { on := 7, ground := Go.Ground.phase }, { on := 8, ground := Go.Ground.phase }, { on := 9, ground := Go.Ground.phase }, { on := 10, ground := Go.Ground.phase }, { on := 11, ground := Go.Ground.textOnly Go.Departure.lateStores }, { on := 12, ground := Go.Ground.phase }], guard := none }) rfl (fun K hK => ?_) AllReadyH.nil
            go_simp
            refine hK.out _ _ ?_ (fun hHeld => ?_)
            · exact HKK.out _ (((Hc.out.setCell Hqs.out _).setCell Hqs.out _).setCell Hqs.out _)
            clear hK K
            (try simp only [Act.put, List.setIfInBounds_toArray, List.set_cons_zero, List.set_cons_succ])
            refine wpAnyH_take (i := 14) (oi := { dst := some 15, op := Go.Op.assign (Go.Operand.tmp 94), type := 28, pos := "outright.go:75", after := #[{ on := 11, ground := Go.Ground.data }, { on := 13, ground := Go.Ground.chain }, { on := 0, ground := Go.Ground.phase }, { on := 1, ground := Go.Ground.phase }, { on := 2, ground := Go.Ground.phase }, { on := 3, ground := Go.Ground.phase }, { on := 4, ground := Go.Ground.phase }, { on := 5, ground := Go.Ground.phase }, { on := 6, ground := Go.Ground.phase }, { on := 7, ground := Go.Ground.phase }, { on := 8, ground := Go.Ground.phase }, { on := 9, ground := Go.Ground.phase }, { on := 10, ground := Go.Ground.phase }, { on := 11, ground := Go.Ground.phase }, { on := 12, ground := Go.Ground.phase }, { on := 13, ground := Go.Ground.phase }], guard := none }) (v := ?_) rfl (by kernel_rfl) (by kernel_rfl) (by kernel_rfl) (fun _ _ _ h => h) (Or.inl ⟨by rfl, ?_⟩) (by assumption) ?_
            rotate_left 1
            · intro w' hSw; (go_simp <;> (with_reducible rfl))
            (try simp only [Act.put, List.setIfInBounds_toArray, List.set_cons_zero, List.set_cons_succ])
            refine wpAnyH_done (by kernel_rfl) ?_ _
            refine NoPanic.normal ?_
            go_wp2_with fail
            go_meet
            exact ⟨⟨_, rfl⟩, rfl, Lib.hid (((Hc.out.setCell Hqs.out _).setCell Hqs.out _).setCell Hqs.out _)⟩
        ·
          have Hq := Lib.hid (heap_alloc_new w11 (.cells #[.int .u16 0, .int .u16 0, .slice none 0 0] 57))
          have Hqs := Lib.hid (show w3.heap.size ≤ w11.heap.size from Hc.out.size)
          have Hne := Lib.hid (show ∀ g, (Value.slice AA (8 + n) cA).ownBlock = some g → g ≠ w11.heap.size from fun g e => by have := (own_block Ho.out g e).2; omega)
          obtain ⟨q, eq⟩ : ∃ q, w11.heap.size = q := ⟨_, rfl⟩
          go_simp
          have Hc := Lib.hid (Hc.out.alloc Hc.out.size (.cells #[.int .u16 0, .int .u16 0, .slice none 0 0] 57))
          refine hK.out _ _ ?_ (fun hHeld => ?_)
          · exact HKK.out _ Hc.out
          clear hK K
          (try simp only [Act.put, List.setIfInBounds_toArray, List.set_cons_zero, List.set_cons_succ])
          rw [eq] at Hq Hqs Hne
          have Ho := Lib.hid (Ho.out.alloc (.cells #[.int .u16 0, .int .u16 0, .slice none 0 0] 57))
          refine wpAnyH_ready (rs := [7]) (by kernel_rfl) (by simp) ?_
          refine AllReadyH.cons (o := { dst := some 91, op := Go.Op.call { callee := Go.Callee.builtin Go.Builtin.append, args := #[Go.Operand.tmp 89, Go.Operand.tmp 90], argTypes := #[25, 25] }, type := 25, pos := "outright.go:75", after := #[{ on := 5, ground := Go.Ground.data }, { on := 6, ground := Go.Ground.data }, { on := 5, ground := Go.Ground.chain }], guard := none }) rfl (fun K hK => ?_) AllReadyH.nil
          refine step_app rfl (.tmp 89) (.tmp 90) rfl w3.heap.size AA AB (8 + n) cA m cB L dB (8 + n + m) (L ++ dB) rfl rfl rfl rfl Ho.out (HR.out _ Hc.out) (by omega) Hc.out.size ?_
          intro A2 c2 w12 ho12 hg12 hb12
          have Ho := Lib.hid ho12
          have Hg12 := Lib.hid hg12.block
          have Hc := Lib.hid (Hc.out.trans hb12)
          refine hK.out _ _ ?_ (fun hHeld => ?_)
          · exact HKK.out _ Hc.out
          clear hK K ho12 hg12 hb12
          (try simp only [Act.put, List.setIfInBounds_toArray, List.set_cons_zero, List.set_cons_succ])
          have Hq := Lib.hid ((Hg12.out q (lt_of_block Hq.out) (fun e => Hne.out q e.symm rfl)).trans Hq.out)
          refine wpAnyH_ready (rs := [8]) (by kernel_rfl) (by simp) ?_
          refine AllReadyH.cons (o := { dst := some 92, op := Go.Op.call { callee := Go.Callee.value (Go.Operand.func 39), args := #[Go.Operand.tmp 85, Go.Operand.tmp 87, Go.Operand.tmp 91], argTypes := #[22, 22, 25] }, type := 63, pos := "outright.go:75", after := #[{ on := 1, ground := Go.Ground.data }, { on := 3, ground := Go.Ground.data }, { on := 7, ground := Go.Ground.data }, { on := 7, ground := Go.Ground.chain }], guard := none }) rfl (fun K hK => ?_) AllReadyH.nil
          go_simp
          refine (uparse_x src dst A2 (8 + n + m) c2 (L ++ dB) x2 _ ⟨Ho.out.cap, Ho.out.capMax⟩ (Ho.out.rd HbLB.out) EB.out).mono ?_
          rintro e w13 ⟨a5, b5, A5, n5, m5, rfl, hb13⟩
          have Hcc := Lib.hid (below_trans Hc.out hb13)
          have Hc := Hcc
          have Hb13 := Lib.hid hb13
          refine hK.out _ _ ?_ (fun hHeld => ?_)
          · exact HKK.out _ Hc.out
          clear hK K hb13
          (try simp only [Act.put, List.setIfInBounds_toArray, List.set_cons_zero, List.set_cons_succ])
          have Hq := Lib.hid (blk_on Hq.out Hb13.out)
          refine wpAnyH_take (i := 9) (oi := { dst := some 83, op := Go.Op.move (Go.Operand.tmp 92), type := 63, pos := "outright.go:75", after := #[{ on := 8, ground := Go.Ground.data }], guard := none }) (v := ?_) rfl (by kernel_rfl) (by kernel_rfl) (by kernel_rfl) (fun _ _ _ h => h) (Or.inl ⟨by rfl, ?_⟩) (by assumption) ?_
          rotate_left 1
          · intro w' hSw; (go_simp <;> (with_reducible rfl))
          (try simp only [Act.put, List.setIfInBounds_toArray, List.set_cons_zero, List.set_cons_succ])
          refine wpAnyH_take (i := 10) (oi := { dst := some 93, op := Go.Op.extract (Go.Operand.tmp 83) 0, type := 57, pos := "outright.go:75", after := #[{ on := 9, ground := Go.Ground.data }], guard := none }) (v := ?_) rfl (by kernel_rfl) (by kernel_rfl) (by kernel_rfl) (fun _ _ _ h => h) (Or.inl ⟨by rfl, ?_⟩) (by assumption) ?_
          rotate_left 1
          · intro w' hSw; (go_simp <;> (with_reducible rfl))
          (try simp only [Act.put, List.setIfInBounds_toArray, List.set_cons_zero, List.set_cons_succ])
          refine wpAnyH_take (i := 11) (oi := { dst := some 94, op := Go.Op.extract (Go.Operand.tmp 83) 1, type := 28, pos := "outright.go:75", after := #[{ on := 9, ground := Go.Ground.data }, { on := 13, ground := Go.Ground.gcOnly Go.Departure.lateStores }], guard := none }) (v := ?_) rfl (by kernel_rfl) (by kernel_rfl) (by kernel_rfl) (fun _ _ _ h => h) (Or.inl ⟨by rfl, ?_⟩) (by assumption) ?_
          rotate_left 1
          · intro w' hSw; (go_simp <;> (with_reducible rfl))
          (try simp only [Act.put, List.setIfInBounds_toArray, List.set_cons_zero, List.set_cons_succ])
          obtain ⟨y0, y1, y2⟩ := cells3 Hq.out
          have yf := blk_free Hq.out
          refine wpAnyH_ready (rs := [13]) (by kernel_rfl) (by simp) ?_
          refine AllReadyH.cons (o := { dst := none, op := Go.Op.store 57 (Go.Operand.tmp 14) (Go.Operand.tmp 93), type := 0, pos := "outright.go:75", after := #[{ on := 12, ground := Go.Ground.data }, { on := 10, ground := Go.Ground.data }, { on := 8, ground := Go.Ground.chain }, { on := 0, ground := Go.Ground.phase }, { on := 1, ground := Go.Ground.phase }, { on := 2, ground := Go.Ground.phase }, { on := 3, ground := Go.Ground.phase }, { on := 4, ground := Go.Ground.phase }, { on := 5, ground := Go.Ground.phase }, { on := 6, ground := Go.Ground.phase }, { on := 7, ground := Go.Ground.phase }, { on := 8, ground := Go.Ground.phase }, { on := 9, ground := Go.Ground.phase }, { on := 10, ground := Go.Ground.phase }, { on := 11, ground := Go.Ground.textOnly Go.Departure.lateStores }, { on := 12, ground := Go.Ground.phase }], guard := none }) rfl (fun K hK => ?_) AllReadyH.nil
          go_simp
          refine hK.out _ _ ?_ (fun hHeld => ?_)
          · exact HKK.out _ (((Hc.out.setCell Hqs.out _).setCell Hqs.out _).setCell Hqs.out _)
          clear hK K
          (try simp only [Act.put, List.setIfInBounds_toArray, List.set_cons_zero, List.set_cons_succ])
          refine wpAnyH_take (i := 14) (oi := { dst := some 15, op := Go.Op.assign (Go.Operand.tmp 94), type := 28, pos := "outright.go:75", after := #[{ on := 11, ground := Go.Ground.data }, { on := 13, ground := Go.Ground.chain }, { on := 0, ground := Go.Ground.phase }, { on := 1, ground := Go.Ground.phase }, { on := 2, ground := Go.Ground.phase }, { on := 3, ground := Go.Ground.phase }, { on := 4, ground := Go.Ground.phase }, { on := 5, ground := Go.Ground.phase }, { on := 6, ground := Go.Ground.phase }, { on := 7, ground := Go.Ground.phase }, { on := 8, ground := Go.Ground.phase }, { on := 9, ground := Go.Ground.phase }, { on := 10, ground := Go.Ground.phase }, { on := 11, ground := Go.Ground.phase }, { on := 12, ground := Go.Ground.phase }, { on := 13, ground := Go.Ground.phase }], guard := none }) (v := ?_) rfl (by kernel_rfl) (by kernel_rfl) (by kernel_rfl) (fun _ _ _ h => h) (Or.inl ⟨by rfl, ?_⟩) (by assumption) ?_
          rotate_left 1
          · intro w' hSw; (go_simp <;> (with_reducible rfl))
          (try simp only [Act.put, List.setIfInBounds_toArray, List.set_cons_zero, List.set_cons_succ])
          refine wpAnyH_done (by kernel_rfl) ?_ _
          refine NoPanic.normal ?_
          go_wp2_with fail
          go_meet
          exact ⟨⟨_, rfl⟩, rfl, Lib.hid (((Hc.out.setCell Hqs.out _).setCell Hqs.out _).setCell Hqs.out _)⟩
      ·
        have Hq := Lib.hid (heap_alloc_new v4 (.cells #[.int .u16 0, .int .u16 0, .slice none 0 0] 57))
        have Hqs := Lib.hid (show w3.heap.size ≤ v4.heap.size from Hc.out.size)
        obtain ⟨q, eq⟩ : ∃ q, v4.heap.size = q := ⟨_, rfl⟩
        go_simp
        have Hc := Lib.hid (Hc.out.alloc Hc.out.size (.cells #[.int .u16 0, .int .u16 0, .slice none 0 0] 57))
        refine hK.out _ _ ?_ (fun hHeld => ?_)
        · exact HKK.out _ Hc.out
        clear hK K
        (try simp only [Act.put, List.setIfInBounds_toArray, List.set_cons_zero, List.set_cons_succ])
        rw [eq] at Hq Hqs
        refine wpAnyH_ready (rs := [5]) (by kernel_rfl) (by simp) ?_
        refine AllReadyH.cons (o := { dst := some 89, op := Go.Op.call { callee := Go.Callee.value (Go.Operand.func 41), args := #[Go.Operand.tmp 88], argTypes := #[25] }, type := 25, pos := "outright.go:75", after := #[{ on := 4, ground := Go.Ground.data }], guard := none }) rfl (fun K hK => ?_) AllReadyH.nil
        go_simp
        refine (bclone_any ⟨g3, 0, none⟩ (8 + n) c3 L _ (by omega) (HL.out _ Hc.out)).mono ?_
        rintro e w11 ⟨AA, cA, rfl, kA, mA, hoA, hbA⟩
        have Ho := Lib.hid (hoA.mono (B' := w3.heap.size) Hc.out.size)
        have Hc := Lib.hid (below_trans Hc.out hbA)
        have HoA := Lib.hid hoA
        have HbA := Lib.hid hbA
        refine hK.out _ _ ?_ (fun hHeld => ?_)
        · exact HKK.out _ Hc.out
        clear hK K hoA hbA
        (try simp only [Act.put, List.setIfInBounds_toArray, List.set_cons_zero, List.set_cons_succ])
        have Hne := Lib.hid (show ∀ g, (Value.slice AA (8 + n) cA).ownBlock = some g → g ≠ q from fun g e => by
          have h1 := (own_block Ho.out g e).1
          have := HoA.out.addr (by omega)
          obtain ⟨g', e', h2, _⟩ := this
          rw [h1] at e'
          injection e' with e'
          injection e' with e'
          subst e'
          simp at h2
          omega)
        have Hq := Lib.hid (blk_on Hq.out HbA.out)
        refine wpAnyH_ready (rs := [7]) (by kernel_rfl) (by simp) ?_
        refine AllReadyH.cons (o := { dst := some 91, op := Go.Op.call { callee := Go.Callee.builtin Go.Builtin.append, args := #[Go.Operand.tmp 89, Go.Operand.tmp 90], argTypes := #[25, 25] }, type := 25, pos := "outright.go:75", after := #[{ on := 5, ground := Go.Ground.data }, { on := 6, ground := Go.Ground.data }, { on := 5, ground := Go.Ground.chain }], guard := none }) rfl (fun K hK => ?_) AllReadyH.nil
        refine step_app rfl (.tmp 89) (.tmp 90) rfl w3.heap.size AA AB (8 + n) cA m cB L dB (8 + n + m) (L ++ dB) rfl rfl rfl rfl Ho.out (HR.out _ Hc.out) (by omega) Hc.out.size ?_
        intro A2 c2 w12 ho12 hg12 hb12
        have Ho := Lib.hid ho12
        have Hg12 := Lib.hid hg12.block
        have Hc := Lib.hid (Hc.out.trans hb12)
        refine hK.out _ _ ?_ (fun hHeld => ?_)
        · exact HKK.out _ Hc.out
        clear hK K ho12 hg12 hb12
        (try simp only [Act.put, List.setIfInBounds_toArray, List.set_cons_zero, List.set_cons_succ])
        have Hq := Lib.hid ((Hg12.out q (lt_of_block Hq.out) (fun e => Hne.out q e.symm rfl)).trans Hq.out)
        refine wpAnyH_ready (rs := [8]) (by kernel_rfl) (by simp) ?_
        refine AllReadyH.cons (o := { dst := some 92, op := Go.Op.call { callee := Go.Callee.value (Go.Operand.func 39), args := #[Go.Operand.tmp 85, Go.Operand.tmp 87, Go.Operand.tmp 91], argTypes := #[22, 22, 25] }, type := 63, pos := "outright.go:75", after := #[{ on := 1, ground := Go.Ground.data }, { on := 3, ground := Go.Ground.data }, { on := 7, ground := Go.Ground.data }, { on := 7, ground := Go.Ground.chain }], guard := none }) rfl (fun K hK => ?_) AllReadyH.nil
        go_simp
        refine (uparse_x src dst A2 (8 + n + m) c2 (L ++ dB) x2 _ ⟨Ho.out.cap, Ho.out.capMax⟩ (Ho.out.rd HbLB.out) EB.out).mono ?_
        rintro e w13 ⟨a5, b5, A5, n5, m5, rfl, hb13⟩
        have Hcc := Lib.hid (below_trans Hc.out hb13)
        have Hc := Hcc
        have Hb13 := Lib.hid hb13
        refine hK.out _ _ ?_ (fun hHeld => ?_)
        · exact HKK.out _ Hc.out
        clear hK K hb13
        (try simp only [Act.put, List.setIfInBounds_toArray, List.set_cons_zero, List.set_cons_succ])
        have Hq := Lib.hid (blk_on Hq.out Hb13.out)
        refine wpAnyH_take (i := 9) (oi := { dst := some 83, op := Go.Op.move (Go.Operand.tmp 92), type := 63, pos := "outright.go:75", after := #[{ on := 8, ground := Go.Ground.data }], guard := none }) (v := ?_) rfl (by kernel_rfl) (by kernel_rfl) (by kernel_rfl) (fun _ _ _ h => h) (Or.inl ⟨by rfl, ?_⟩) (by assumption) ?_
        rotate_left 1
        · intro w' hSw; (go_simp <;> (with_reducible rfl))
        (try simp only [Act.put, List.setIfInBounds_toArray, List.set_cons_zero, List.set_cons_succ])
        refine wpAnyH_take (i := 10) (oi := { dst := some 93, op := Go.Op.extract (Go.Operand.tmp 83) 0, type := 57, pos := "outright.go:75", after := #[{ on := 9, ground := Go.Ground.data }], guard := none }) (v := ?_) rfl (by kernel_rfl) (by kernel_rfl) (by kernel_rfl) (fun _ _ _ h => h) (Or.inl ⟨by rfl, ?_⟩) (by assumption) ?_
        rotate_left 1
        · intro w' hSw; (go_simp <;> (with_reducible rfl))
        (try simp only [Act.put, List.setIfInBounds_toArray, List.set_cons_zero, List.set_cons_succ])
        refine wpAnyH_take (i := 11) (oi := { dst := some 94, op := Go.Op.extract (Go.Operand.tmp 83) 1, type := 28, pos := "outright.go:75", after := #[{ on := 9, ground := Go.Ground.data }, { on := 13, ground := Go.Ground.gcOnly Go.Departure.lateStores }], guard := none }) (v := ?_) rfl (by kernel_rfl) (by kernel_rfl) (by kernel_rfl) (fun _ _ _ h => h) (Or.inl ⟨by rfl, ?_⟩) (by assumption) ?_
        rotate_left 1
        · intro w' hSw; (go_simp <;> (with_reducible rfl))
        (try simp only [Act.put, List.setIfInBounds_toArray, List.set_cons_zero, List.set_cons_succ])
        obtain ⟨y0, y1, y2⟩ := cells3 Hq.out
        have yf := blk_free Hq.out
        refine wpAnyH_ready (rs := [13]) (by kernel_rfl) (by simp) ?_
        refine AllReadyH.cons (o := { dst := none, op := Go.Op.store 57 (Go.Operand.tmp 14) (Go.Operand.tmp 93), type := 0, pos := "outright.go:75", after := #[{ on := 12, ground := Go.Ground.data }, { on := 10, ground := Go.Ground.data }, { on := 8, ground := Go.Ground.chain }, { on := 0, ground := Go.Ground.phase }, { on := 1, ground := Go.Ground.phase }, { on := 2, ground := Go.Ground.phase }, { on := 3, ground := Go.Ground.phase }, { on := 4, ground := Go.Ground.phase }, { on := 5, ground := Go.Ground.phase }, { on := 6, ground := Go.Ground.phase }, { on := 7, ground := Go.Ground.phase }, { on := 8, ground := Go.Ground.phase }, { on := 9, ground := Go.Ground.phase }, { on := 10, ground := Go.Ground.phase }, { on := 11, ground := Go.Ground.textOnly Go.Departure.lateStores }, { on := 12, ground := Go.Ground.phase }], guard := none }) rfl (fun K hK => ?_) AllReadyH.nil
        go_simp
        refine hK.out _ _ ?_ (fun hHeld => ?_)
        · exact HKK.out _ (((Hc.out.setCell Hqs.out _).setCell Hqs.out _).setCell Hqs.out _)
        clear hK K
        (try simp only [Act.put, List.setIfInBounds_toArray, List.set_cons_zero, List.set_cons_succ])
        refine wpAnyH_take (i := 14) (oi := { dst := some 15, op := Go.Op.assign (Go.Operand.tmp 94), type := 28, pos := "outright.go:75", after := #[{ on := 11, ground := Go.Ground.data }, { on := 13, ground := Go.Ground.chain }, { on := 0, ground := Go.Ground.phase }, { on := 1, ground := Go.Ground.phase }, { on := 2, ground := Go.Ground.phase }, { on := 3, ground := Go.Ground.phase }, { on := 4, ground := Go.Ground.phase }, { on := 5, ground := Go.Ground.phase }, { on := 6, ground := Go.Ground.phase }, { on := 7, ground := Go.Ground.phase }, { on := 8, ground := Go.Ground.phase }, { on := 9, ground := Go.Ground.phase }, { on := 10, ground := Go.Ground.phase }, { on := 11, ground := Go.Ground.phase }, { on := 12, ground := Go.Ground.phase }, { on := 13, ground := Go.Ground.phase }], guard := none }) (v := ?_) rfl (by kernel_rfl) (by kernel_rfl) (by kernel_rfl) (fun _ _ _ h => h) (Or.inl ⟨by rfl, ?_⟩) (by assumption) ?_
        rotate_left 1
        · intro w' hSw; (go_simp <;> (with_reducible rfl))
        (try simp only [Act.put, List.setIfInBounds_toArray, List.set_cons_zero, List.set_cons_succ])
        refine wpAnyH_done (by kernel_rfl) ?_ _
        refine NoPanic.normal ?_
        go_wp2_with fail
        go_meet
        exact ⟨⟨_, rfl⟩, rfl, Lib.hid (((Hc.out.setCell Hqs.out _).setCell Hqs.out _).setCell Hqs.out _)⟩
    case rest =>
    obtain ⟨⟨q9, rfl⟩, rfl, Hc⟩ := hcut
    have Hb9 := Lib.hid (below_trans HbW.out (below_trans Hb.out Hc.out))
    clear f0 f1 q0 q1 q2 p0 p1 hmi hminB EB
    by_cases h0 : m = 0
    · obtain rfl : x2 = 0 := by have := Ex2.out; rw [if_pos h0] at this; exact this.symm
      subst h0
      go_wp2_with fail
      refine (uawake_any _).mono ?_
      rintro e w14 ⟨rfl, hb14⟩
      have Hb9 := Lib.hid (below_trans Hb9.out hb14)
      clear hb14
      go_wp2_with fail
      go_ret
      exact ⟨rfl, Hb9.out⟩
    · have h0b : ((m : Int) == 0) = false := by simpa using h0
      by_cases h1480 : 1480 < 8 + n + m
      · obtain rfl : x2 = 3 := by have := Ex2.out; rw [if_neg h0, if_pos h1480] at this; exact this.symm
        have hbig : 1480 < 8 + (n : Int) + (m : Int) := by omega
        clear h0 h1480
        go_wp2_with fail
        refine (uawake_any _).mono ?_
        rintro e w14 ⟨rfl, hb14⟩
        have Hb9 := Lib.hid (below_trans Hb9.out hb14)
        clear hb14
        go_wp2_with fail
        go_ret
        exact ⟨rfl, Hb9.out⟩
      · obtain rfl : x2 = 5 := by have := Ex2.out; rw [if_neg h0, if_neg h1480] at this; exact this.symm
        have hbig : ¬ 1480 < 8 + (n : Int) + (m : Int) := by omega
        clear h0 h1480
        go_wp2_with fail
        refine (uawake_any _).mono ?_
        rintro e w14 ⟨rfl, hb14⟩
        have Hb9 := Lib.hid (below_trans Hb9.out hb14)
        clear hb14
        go_wp2_with fail
        go_ret
        exact ⟨rfl, Hb9.out⟩
  case neg =>
    obtain rfl : x1 = 5 := by have := Ex1.out; rw [if_neg h8] at this; exact this.symm
    have h8i : ¬ (k : Int) < 8 := by omega
    clear h8
    go_upto_region 15 with (fail)
    go_cut [14, 15] (fun s14 s15 wx => (∃ q : Nat, s14 = .pointer (some ⟨q, 0, none⟩)) ∧ s15 = .int .i64 x2 ∧ Hid (Below w3.heap.size w3 wx))
    case first =>
      obtain ⟨v3, ev3⟩ : ∃ v, wc = v := ⟨_, rfl⟩
      rw [ev3] at Hc f0 f1 ⊢
      clear ev3
      have Hc := Lib.hid (below_trans Hc.out (Below.drew (Below.refl v3.heap.size v3)))
      refine wp_region_noPanic ?_
      refine wp_region_held_drew (S := fun w' => (w'.cell? ⟨z, 0, none⟩ = some (.int .u32 src) ∧ w'.cell? ⟨z, 1, none⟩ = some (.int .u32 dst))) (by kernel_rfl) (HKK.out _ Hc.out) (fun hHeld => ?_)
      obtain ⟨v4, ev4⟩ : ∃ v, v3.drew = v := ⟨_, rfl⟩
      rw [ev4] at Hc hHeld ⊢
      clear ev4
      refine wpAnyH_take (i := 0) (oi := { dst := some 84, op := Go.Op.fieldAddr 55 (Go.Operand.tmp 3) 0, type := 0, pos := "outright.go:75", after := #[], guard := none }) (v := ?_) rfl (by kernel_rfl) (by kernel_rfl) (by kernel_rfl) (fun _ _ _ h => h) (Or.inl ⟨by rfl, ?_⟩) (by assumption) ?_
      rotate_left 1
      · intro w' hSw; (go_simp <;> (with_reducible rfl))
      (try simp only [Act.put, List.setIfInBounds_toArray, List.set_cons_zero, List.set_cons_succ])
      refine wpAnyH_take (i := 1) (oi := { dst := some 85, op := Go.Op.load 22 (Go.Operand.tmp 84), type := 22, pos := "outright.go:75", after := #[{ on := 0, ground := Go.Ground.data }], guard := none }) (v := ?_) rfl (by kernel_rfl) (by kernel_rfl) (by kernel_rfl) (fun _ _ _ h => h) (Or.inl ⟨by rfl, ?_⟩) (by assumption) ?_
      rotate_left 1
      · intro w' hSw; (go_simp <;> (with_reducible rfl))
      (try simp only [Act.put, List.setIfInBounds_toArray, List.set_cons_zero, List.set_cons_succ])
      refine wpAnyH_take (i := 2) (oi := { dst := some 86, op := Go.Op.fieldAddr 55 (Go.Operand.tmp 3) 1, type := 0, pos := "outright.go:75", after := #[], guard := none }) (v := ?_) rfl (by kernel_rfl) (by kernel_rfl) (by kernel_rfl) (fun _ _ _ h => h) (Or.inl ⟨by rfl, ?_⟩) (by assumption) ?_
      rotate_left 1
      · intro w' hSw; (go_simp <;> (with_reducible rfl))
      (try simp only [Act.put, List.setIfInBounds_toArray, List.set_cons_zero, List.set_cons_succ])
      refine wpAnyH_take (i := 3) (oi := { dst := some 87, op := Go.Op.load 22 (Go.Operand.tmp 86), type := 22, pos := "outright.go:75", after := #[{ on := 2, ground := Go.Ground.data }], guard := none }) (v := ?_) rfl (by kernel_rfl) (by kernel_rfl) (by kernel_rfl) (fun _ _ _ h => h) (Or.inl ⟨by rfl, ?_⟩) (by assumption) ?_
      rotate_left 1
      · intro w' hSw; (go_simp <;> (with_reducible rfl))
      (try simp only [Act.put, List.setIfInBounds_toArray, List.set_cons_zero, List.set_cons_succ])
      refine wpAnyH_take (i := 4) (oi := { dst := some 88, op := Go.Op.move (Go.Operand.tmp 7), type := 25, pos := "outright.go:75", after := #[], guard := none }) (v := ?_) rfl (by kernel_rfl) (by kernel_rfl) (by kernel_rfl) (fun _ _ _ h => h) (Or.inl ⟨by rfl, ?_⟩) (by assumption) ?_
      rotate_left 1
      · intro w' hSw; (go_simp <;> (with_reducible rfl))
      (try simp only [Act.put, List.setIfInBounds_toArray, List.set_cons_zero, List.set_cons_succ])
      refine wpAnyH_take (i := 6) (oi := { dst := some 90, op := Go.Op.move (Go.Operand.tmp 13), type := 25, pos := "outright.go:75", after := #[], guard := none }) (v := ?_) rfl (by kernel_rfl) (by kernel_rfl) (by kernel_rfl) (fun _ _ _ h => h) (Or.inl ⟨by rfl, ?_⟩) (by assumption) ?_
      rotate_left 1
      · intro w' hSw; (go_simp <;> (with_reducible rfl))
      (try simp only [Act.put, List.setIfInBounds_toArray, List.set_cons_zero, List.set_cons_succ])
      refine wpAnyH_ready (rs := [5, 12]) (by kernel_rfl) (by simp) ?_
      refine AllReadyH.cons (o := { dst := some 89, op := Go.Op.call { callee := Go.Callee.value (Go.Operand.func 41), args := #[Go.Operand.tmp 88], argTypes := #[25] }, type := 25, pos := "outright.go:75", after := #[{ on := 4, ground := Go.Ground.data }], guard := none }) rfl (fun K hK => ?_) (AllReadyH.cons (o := { dst := some 14, op := Go.Op.alloc 57, type := 0, pos := "outright.go:75", after := #[], guard := none }) rfl (fun K hK => ?_) AllReadyH.nil)
      ·
        go_simp
        refine (bclone_any ⟨g3, 0, none⟩ (8 + n) c3 L _ (by omega) (HL.out _ Hc.out)).mono ?_
        rintro e w11 ⟨AA, cA, rfl, kA, mA, hoA, hbA⟩
        have Ho := Lib.hid (hoA.mono (B' := w3.heap.size) Hc.out.size)
        have Hc := Lib.hid (below_trans Hc.out hbA)
        have HoA := Lib.hid hoA
        have HbA := Lib.hid hbA
        refine hK.out _ _ ?_ (fun hHeld => ?_)
        · exact HKK.out _ Hc.out
        clear hK K hoA hbA
        (try simp only [Act.put, List.setIfInBounds_toArray, List.set_cons_zero, List.set_cons_succ])
        refine wpAnyH_ready (rs := [7, 12]) (by kernel_rfl) (by simp) ?_
        refine AllReadyH.cons (o := { dst := some 91, op := Go.Op.call { callee := Go.Callee.builtin Go.Builtin.append, args := #[Go.Operand.tmp 89, Go.Operand.tmp 90], argTypes := #[25, 25] }, type := 25, pos := "outright.go:75", after := #[{ on := 5, ground := Go.Ground.data }, { on := 6, ground := Go.Ground.data }, { on := 5, ground := Go.Ground.chain }], guard := none }) rfl (fun K hK => ?_) (AllReadyH.cons (o := { dst := some 14, op := Go.Op.alloc 57, type := 0, pos := "outright.go:75", after := #[], guard := none }) rfl (fun K hK => ?_) AllReadyH.nil)
        ·
          refine step_app rfl (.tmp 89) (.tmp 90) rfl w3.heap.size AA AB (8 + n) cA m cB L dB (8 + n + m) (L ++ dB) rfl rfl rfl rfl Ho.out (HR.out _ Hc.out) (by omega) Hc.out.size ?_
          intro A2 c2 w12 ho12 hg12 hb12
          have Ho := Lib.hid ho12
          have Hg12 := Lib.hid hg12.block
          have Hc := Lib.hid (Hc.out.trans hb12)
          refine hK.out _ _ ?_ (fun hHeld => ?_)
          · exact HKK.out _ Hc.out
          clear hK K ho12 hg12 hb12
          (try simp only [Act.put, List.setIfInBounds_toArray, List.set_cons_zero, List.set_cons_succ])
          refine wpAnyH_ready (rs := [8, 12]) (by kernel_rfl) (by simp) ?_
          refine AllReadyH.cons (o := { dst := some 92, op := Go.Op.call { callee := Go.Callee.value (Go.Operand.func 39), args := #[Go.Operand.tmp 85, Go.Operand.tmp 87, Go.Operand.tmp 91], argTypes := #[22, 22, 25] }, type := 63, pos := "outright.go:75", after := #[{ on := 1, ground := Go.Ground.data }, { on := 3, ground := Go.Ground.data }, { on := 7, ground := Go.Ground.data }, { on := 7, ground := Go.Ground.chain }], guard := none }) rfl (fun K hK => ?_) (AllReadyH.cons (o := { dst := some 14, op := Go.Op.alloc 57, type := 0, pos := "outright.go:75", after := #[], guard := none }) rfl (fun K hK => ?_) AllReadyH.nil)
          ·
            go_simp
            refine (uparse_x src dst A2 (8 + n + m) c2 (L ++ dB) x2 _ ⟨Ho.out.cap, Ho.out.capMax⟩ (Ho.out.rd HbLB.out) EB.out).mono ?_
            rintro e w13 ⟨a5, b5, A5, n5, m5, rfl, hb13⟩
            have Hcc := Lib.hid (below_trans Hc.out hb13)
            have Hc := Hcc
            have Hb13 := Lib.hid hb13
            refine hK.out _ _ ?_ (fun hHeld => ?_)
            · exact HKK.out _ Hc.out
            clear hK K hb13
            (try simp only [Act.put, List.setIfInBounds_toArray, List.set_cons_zero, List.set_cons_succ])
            refine wpAnyH_take (i := 9) (oi := { dst := some 83, op := Go.Op.move (Go.Operand.tmp 92), type := 63, pos := "outright.go:75", after := #[{ on := 8, ground := Go.Ground.data }], guard := none }) (v := ?_) rfl (by kernel_rfl) (by kernel_rfl) (by kernel_rfl) (fun _ _ _ h => h) (Or.inl ⟨by rfl, ?_⟩) (by assumption) ?_
            rotate_left 1
            · intro w' hSw; (go_simp <;> (with_reducible rfl))
            (try simp only [Act.put, List.setIfInBounds_toArray, List.set_cons_zero, List.set_cons_succ])
            refine wpAnyH_take (i := 10) (oi := { dst := some 93, op := Go.Op.extract (Go.Operand.tmp 83) 0, type := 57, pos := "outright.go:75", after := #[{ on := 9, ground := Go.Ground.data }], guard := none }) (v := ?_) rfl (by kernel_rfl) (by kernel_rfl) (by kernel_rfl) (fun _ _ _ h => h) (Or.inl ⟨by rfl, ?_⟩) (by assumption) ?_
            rotate_left 1
            · intro w' hSw; (go_simp <;> (with_reducible rfl))
            (try simp only [Act.put, List.setIfInBounds_toArray, List.set_cons_zero, List.set_cons_succ])
            refine wpAnyH_take (i := 11) (oi := { dst := some 94, op := Go.Op.extract (Go.Operand.tmp 83) 1, type := 28, pos := "outright.go:75", after := #[{ on := 9, ground := Go.Ground.data }, { on := 13, ground := Go.Ground.gcOnly Go.Departure.lateStores }], guard := none }) (v := ?_) rfl (by kernel_rfl) (by kernel_rfl) (by kernel_rfl) (fun _ _ _ h => h) (Or.inl ⟨by rfl, ?_⟩) (by assumption) ?_
            rotate_left 1
            · intro w' hSw; (go_simp <;> (with_reducible rfl))
            (try simp only [Act.put, List.setIfInBounds_toArray, List.set_cons_zero, List.set_cons_succ])
            refine wpAnyH_ready (rs := [12]) (by kernel_rfl) (by simp) ?_
            refine AllReadyH.cons (o := { dst := some 14, op := Go.Op.alloc 57, type := 0, pos := "outright.go:75", after := #[], guard := none }) rfl (fun K hK => ?_) AllReadyH.nil
            have Hq := Lib.hid (heap_alloc_new w13 (.cells #[.int .u16 0, .int .u16 0, .slice none 0 0] 57))
            go_simp
            have Hc := Lib.hid (Hc.out.alloc Hc.out.size (.cells #[.int .u16 0, .int .u16 0, .slice none 0 0] 57))
            refine hK.out _ _ ?_ (fun hHeld => ?_)
            · exact HKK.out _ Hc.out
            clear hK K
            (try simp only [Act.put, List.setIfInBounds_toArray, List.set_cons_zero, List.set_cons_succ])
            obtain ⟨y0, y1, y2⟩ := cells3 Hq.out
            have yf := blk_free Hq.out
            refine wpAnyH_ready (rs := [13]) (by kernel_rfl) (by simp) ?_
            refine AllReadyH.cons (o := { dst := none, op := Go.Op.store 57 (Go.Operand.tmp 14) (Go.Operand.tmp 93), type := 0, pos := "outright.go:75", after := #[{ on := 12, ground := Go.Ground.data }, { on := 10, ground := Go.Ground.data }, { on := 8, ground := Go.Ground.chain }, { on := 0, ground := Go.Ground.phase }, { on := 1, ground := Go.Ground.phase }, { on := 2, ground := Go.Ground.phase }, { on := 3, ground := Go.Ground.phase }, { on := 4, ground := Go.Ground.phase }, { on := 5, ground := Go.Ground.phase }, { on := 6, ground := Go.Ground.phase }, { on := 7, ground := Go.Ground.phase }, { on := 8, ground := Go.Ground.phase }, { on := 9, ground := Go.Ground.phase }, { on := 10, ground := Go.Ground.phase }, { on := 11, ground := Go.Ground.textOnly Go.Departure.lateStores }, { on := 12, ground := Go.Ground.phase }], guard := none }) rfl (fun K hK => ?_) AllReadyH.nil
            go_simp
            refine hK.out _ _ ?_ (fun hHeld => ?_)
            · exact HKK.out _ (Hcc.out.alloc Hcc.out.size _)
            clear hK K
            (try simp only [Act.put, List.setIfInBounds_toArray, List.set_cons_zero, List.set_cons_succ])
            refine wpAnyH_take (i := 14) (oi := { dst := some 15, op := Go.Op.assign (Go.Operand.tmp 94), type := 28, pos := "outright.go:75", after := #[{ on := 11, ground := Go.Ground.data }, { on := 13, ground := Go.Ground.chain }, { on := 0, ground := Go.Ground.phase }, { on := 1, ground := Go.Ground.phase }, { on := 2, ground := Go.Ground.phase }, { on := 3, ground := Go.Ground.phase }, { on := 4, ground := Go.Ground.phase }, { on := 5, ground := Go.Ground.phase }, { on := 6, ground := Go.Ground.phase }, { on := 7, ground := Go.Ground.phase }, { on := 8, ground := Go.Ground.phase }, { on := 9, ground := Go.Ground.phase }, { on := 10, ground := Go.Ground.phase }, { on := 11, ground := Go.Ground.phase }, { on := 12, ground := Go.Ground.phase }, { on := 13, ground := Go.Ground.phase }], guard := none }) (v := ?_) rfl (by kernel_rfl) (by kernel_rfl) (by kernel_rfl) (fun _ _ _ h => h) (Or.inl ⟨by rfl, ?_⟩) (by assumption) ?_
            rotate_left 1
            · intro w' hSw; (go_simp <;> (with_reducible rfl))
            (try simp only [Act.put, List.setIfInBounds_toArray, List.set_cons_zero, List.set_cons_succ])
            refine wpAnyH_done (by kernel_rfl) ?_ _
            refine NoPanic.normal ?_
            go_wp2_with fail
            go_meet
            exact ⟨⟨_, rfl⟩, rfl, Lib.hid (Hcc.out.alloc Hcc.out.size _)⟩
          ·
            have Hq := Lib.hid (heap_alloc_new w12 (.cells #[.int .u16 0, .int .u16 0, .slice none 0 0] 57))
            have Hqs := Lib.hid (show w3.heap.size ≤ w12.heap.size from Hc.out.size)
            obtain ⟨q, eq⟩ : ∃ q, w12.heap.size = q := ⟨_, rfl⟩
            go_simp
            have Hc := Lib.hid (Hc.out.alloc Hc.out.size (.cells #[.int .u16 0, .int .u16 0, .slice none 0 0] 57))
            refine hK.out _ _ ?_ (fun hHeld => ?_)
            · exact HKK.out _ Hc.out
            clear hK K
            (try simp only [Act.put, List.setIfInBounds_toArray, List.set_cons_zero, List.set_cons_succ])
            rw [eq] at Hq Hqs
            have Ho := Lib.hid (Ho.out.alloc (.cells #[.int .u16 0, .int .u16 0, .slice none 0 0] 57))
            refine wpAnyH_ready (rs := [8]) (by kernel_rfl) (by simp) ?_
            refine AllReadyH.cons (o := { dst := some 92, op := Go.Op.call { callee := Go.Callee.value (Go.Operand.func 39), args := #[Go.Operand.tmp 85, Go.Operand.tmp 87, Go.Operand.tmp 91], argTypes := #[22, 22, 25] }, type := 63, pos := "outright.go:75", after := #[{ on := 1, ground := Go.Ground.data }, { on := 3, ground := Go.Ground.data }, { on := 7, ground := Go.Ground.data }, { on := 7, ground := Go.Ground.chain }], guard := none }) rfl (fun K hK => ?_) AllReadyH.nil
            go_simp
            refine (uparse_x src dst A2 (8 + n + m) c2 (L ++ dB) x2 _ ⟨Ho.out.cap, Ho.out.capMax⟩ (Ho.out.rd HbLB.out) EB.out).mono ?_
            rintro e w13 ⟨a5, b5, A5, n5, m5, rfl, hb13⟩
            have Hcc := Lib.hid (below_trans Hc.out hb13)
            have Hc := Hcc
            have Hb13 := Lib.hid hb13
            refine hK.out _ _ ?_ (fun hHeld => ?_)
            · exact HKK.out _ Hc.out
            clear hK K hb13
            (try simp only [Act.put, List.setIfInBounds_toArray, List.set_cons_zero, List.set_cons_succ])
            have Hq := Lib.hid (blk_on Hq.out Hb13.out)
            refine wpAnyH_take (i := 9) (oi := { dst := some 83, op := Go.Op.move (Go.Operand.tmp 92), type := 63, pos := "outright.go:75", after := #[{ on := 8, ground := Go.Ground.data }], guard := none }) (v := ?_) rfl (by kernel_rfl) (by kernel_rfl) (by kernel_rfl) (fun _ _ _ h => h) (Or.inl ⟨by rfl, ?_⟩) (by assumption) ?_
            rotate_left 1
            · intro w' hSw; (go_simp <;> (with_reducible rfl))
            (try simp only [Act.put, List.setIfInBounds_toArray, List.set_cons_zero, List.set_cons_succ])
            refine wpAnyH_take (i := 10) (oi := { dst := some 93, op := Go.Op.extract (Go.Operand.tmp 83) 0, type := 57, pos := "outright.go:75", after := #[{ on := 9, ground := Go.Ground.data }], guard := none }) (v := ?_) rfl (by kernel_rfl) (by kernel_rfl) (by kernel_rfl) (fun _ _ _ h => h) (Or.inl ⟨by rfl, ?_⟩) (by assumption) ?_
            rotate_left 1
            · intro w' hSw; (go_simp <;> (with_reducible rfl))
            (try simp only [Act.put, List.setIfInBounds_toArray, List.set_cons_zero, List.set_cons_succ])
            refine wpAnyH_take (i := 11) (oi := { dst := some 94, op := Go.Op.extract (Go.Operand.tmp 83) 1, type := 28, pos := "outright.go:75", after := #[{ on := 9, ground := Go.Ground.data }, { on := 13, ground := Go.Ground.gcOnly Go.Departure.lateStores }], guard := none }) (v := ?_) rfl (by kernel_rfl) (by kernel_rfl) (by kernel_rfl) (fun _ _ _ h => h) (Or.inl ⟨by rfl, ?_⟩) (by assumption) ?_
            rotate_left 1
            · intro w' hSw; (go_simp <;> (with_reducible rfl))
            (try simp only [Act.put, List.setIfInBounds_toArray, List.set_cons_zero, List.set_cons_succ])
            obtain ⟨y0, y1, y2⟩ := cells3 Hq.out
            have yf := blk_free Hq.out
            refine wpAnyH_ready (rs := [13]) (by kernel_rfl) (by simp) ?_
            refine AllReadyH.cons (o := { dst := none, op := Go.Op.store 57 (Go.Operand.tmp 14) (Go.Operand.tmp 93), type := 0, pos := "outright.go:75", after := #[{ on := 12, ground := Go.Ground.data }, { on := 10, ground := Go.Ground.data }, { on := 8, ground := Go.Ground.chain }, { on := 0, ground := Go.Ground.phase }, { on := 1, ground := Go.Ground.phase }, { on := 2, ground := Go.Ground.phase }, { on := 3, ground := Go.Ground.phase }, { on := 4, ground := Go.Ground.phase }, { on := 5, ground := Go.Ground.phase }, { on := 6, ground := Go.Ground.phase }, { on := 7, ground := Go.Ground.phase }, { on := 8, ground := Go.Ground.phase }, { on := 9, ground := Go.Ground.phase }, { on := 10, ground := Go.Ground.phase }, { on := 11, ground := Go.Ground.textOnly Go.Departure.lateStores }, { on := 12, ground := Go.Ground.phase }], guard := none }) rfl (fun K hK => ?_) AllReadyH.nil
            go_simp
            refine hK.out _ _ ?_ (fun hHeld => ?_)
            · exact HKK.out _ (((Hc.out.setCell Hqs.out _).setCell Hqs.out _).setCell Hqs.out _)
            clear hK K
            (try simp only [Act.put, List.setIfInBounds_toArray, List.set_cons_zero, List.set_cons_succ])
            refine wpAnyH_take (i := 14) (oi := { dst := some 15, op := Go.Op.assign (Go.Operand.tmp 94), type := 28, pos := "outright.go:75", after := #[{ on := 11, ground := Go.Ground.data }, { on := 13, ground := Go.Ground.chain }, { on := 0, ground := Go.Ground.phase }, { on := 1, ground := Go.Ground.phase }, { on := 2, ground := Go.Ground.phase }, { on := 3, ground := Go.Ground.phase }, { on := 4, ground := Go.Ground.phase }, { on := 5, ground := Go.Ground.phase }, { on := 6, ground := Go.Ground.phase }, { on := 7, ground := Go.Ground.phase }, { on := 8, ground := Go.Ground.phase }, { on := 9, ground := Go.Ground.phase }, { on := 10, ground := Go.Ground.phase }, { on := 11, ground := Go.Ground.phase }, { on := 12, ground := Go.Ground.phase }, { on := 13, ground := Go.Ground.phase }], guard := none }) (v := ?_) rfl (by kernel_rfl) (by kernel_rfl) (by kernel_rfl) (fun _ _ _ h => h) (Or.inl ⟨by rfl, ?_⟩) (by assumption) ?_
            rotate_left 1
            · intro w' hSw; (go_simp <;> (with_reducible rfl))
            (try simp only [Act.put, List.setIfInBounds_toArray, List.set_cons_zero, List.set_cons_succ])
            refine wpAnyH_done (by kernel_rfl) ?_ _
            refine NoPanic.normal ?_
            go_wp2_with fail
            go_meet
            exact ⟨⟨_, rfl⟩, rfl, Lib.hid (((Hc.out.setCell Hqs.out _).setCell Hqs.out _).setCell Hqs.out _)⟩
        ·
          have Hq := Lib.hid (heap_alloc_new w11 (.cells #[.int .u16 0, .int .u16 0, .slice none 0 0] 57))
          have Hqs := Lib.hid (show w3.heap.size ≤ w11.heap.size from Hc.out.size)
          have Hne := Lib.hid (show ∀ g, (Value.slice AA (8 + n) cA).ownBlock = some g → g ≠ w11.heap.size from fun g e => by have := (own_block Ho.out g e).2; omega)
          obtain ⟨q, eq⟩ : ∃ q, w11.heap.size = q := ⟨_, rfl⟩
          go_simp
          have Hc := Lib.hid (Hc.out.alloc Hc.out.size (.cells #[.int .u16 0, .int .u16 0, .slice none 0 0] 57))
          refine hK.out _ _ ?_ (fun hHeld => ?_)
          · exact HKK.out _ Hc.out
          clear hK K
          (try simp only [Act.put, List.setIfInBounds_toArray, List.set_cons_zero, List.set_cons_succ])
          rw [eq] at Hq Hqs Hne
          have Ho := Lib.hid (Ho.out.alloc (.cells #[.int .u16 0, .int .u16 0, .slice none 0 0] 57))
          refine wpAnyH_ready (rs := [7]) (by kernel_rfl) (by simp) ?_
          refine AllReadyH.cons (o := { dst := some 91, op := Go.Op.call { callee := Go.Callee.builtin Go.Builtin.append, args := #[Go.Operand.tmp 89, Go.Operand.tmp 90], argTypes := #[25, 25] }, type := 25, pos := "outright.go:75", after := #[{ on := 5, ground := Go.Ground.data }, { on := 6, ground := Go.Ground.data }, { on := 5, ground := Go.Ground.chain }], guard := none }) rfl (fun K hK => ?_) AllReadyH.nil
          refine step_app rfl (.tmp 89) (.tmp 90) rfl w3.heap.size AA AB (8 + n) cA m cB L dB (8 + n + m) (L ++ dB) rfl rfl rfl rfl Ho.out (HR.out _ Hc.out) (by omega) Hc.out.size ?_
          intro A2 c2 w12 ho12 hg12 hb12
          have Ho := Lib.hid ho12
          have Hg12 := Lib.hid hg12.block
          have Hc := Lib.hid (Hc.out.trans hb12)
          refine hK.out _ _ ?_ (fun hHeld => ?_)
          · exact HKK.out _ Hc.out
          clear hK K ho12 hg12 hb12
          (try simp only [Act.put, List.setIfInBounds_toArray, List.set_cons_zero, List.set_cons_succ])
          have Hq := Lib.hid ((Hg12.out q (lt_of_block Hq.out) (fun e => Hne.out q e.symm rfl)).trans Hq.out)
          refine wpAnyH_ready (rs := [8]) (by kernel_rfl) (by simp) ?_
          refine AllReadyH.cons (o := { dst := some 92, op := Go.Op.call { callee := Go.Callee.value (Go.Operand.func 39), args := #[Go.Operand.tmp 85, Go.Operand.tmp 87, Go.Operand.tmp 91], argTypes := #[22, 22, 25] }, type := 63, pos := "outright.go:75", after := #[{ on := 1, ground := Go.Ground.data }, { on := 3, ground := Go.Ground.data }, { on := 7, ground := Go.Ground.data }, { on := 7, ground := Go.Ground.chain }], guard := none }) rfl (fun K hK => ?_) AllReadyH.nil
          go_simp
          refine (uparse_x src dst A2 (8 + n + m) c2 (L ++ dB) x2 _ ⟨Ho.out.cap, Ho.out.capMax⟩ (Ho.out.rd HbLB.out) EB.out).mono ?_
          rintro e w13 ⟨a5, b5, A5, n5, m5, rfl, hb13⟩
          have Hcc := Lib.hid (below_trans Hc.out hb13)
          have Hc := Hcc
          have Hb13 := Lib.hid hb13
          refine hK.out _ _ ?_ (fun hHeld => ?_)
          · exact HKK.out _ Hc.out
          clear hK K hb13
          (try simp only [Act.put, List.setIfInBounds_toArray, List.set_cons_zero, List.set_cons_succ])
          have Hq := Lib.hid (blk_on Hq.out Hb13.out)
          refine wpAnyH_take (i := 9) (oi := { dst := some 83, op := Go.Op.move (Go.Operand.tmp 92), type := 63, pos := "outright.go:75", after := #[{ on := 8, ground := Go.Ground.data }], guard := none }) (v := ?_) rfl (by kernel_rfl) (by kernel_rfl) (by kernel_rfl) (fun _ _ _ h => h) (Or.inl ⟨by rfl, ?_⟩) (by assumption) ?_
          rotate_left 1
          · intro w' hSw; (go_simp <;> (with_reducible rfl))
          (try simp only [Act.put, List.setIfInBounds_toArray, List.set_cons_zero, List.set_cons_succ])
          refine wpAnyH_take (i := 10) (oi := { dst := some 93, op := Go.Op.extract (Go.Operand.tmp 83) 0, type := 57, pos := "outright.go:75", after := #[{ on := 9, ground := Go.Ground.data }], guard := none }) (v := ?_) rfl (by kernel_rfl) (by kernel_rfl) (by kernel_rfl) (fun _ _ _ h => h) (Or.inl ⟨by rfl, ?_⟩) (by assumption) ?_
          rotate_left 1
          · intro w' hSw; (go_simp <;> (with_reducible rfl))
          (try simp only [Act.put, List.setIfInBounds_toArray, List.set_cons_zero, List.set_cons_succ])
          refine wpAnyH_take (i := 11) (oi := { dst := some 94, op := Go.Op.extract (Go.Operand.tmp 83) 1, type := 28, pos := "outright.go:75", after := #[{ on := 9, ground := Go.Ground.data }, { on := 13, ground := Go.Ground.gcOnly Go.Departure.lateStores }], guard := none }) (v := ?_) rfl (by kernel_rfl) (by kernel_rfl) (by kernel_rfl) (fun _ _ _ h => h) (Or.inl ⟨by rfl, ?_⟩) (by assumption) ?_
          rotate_left 1
          · intro w' hSw; (go_simp <;> (with_reducible rfl))
          (try simp only [Act.put, List.setIfInBounds_toArray, List.set_cons_zero, List.set_cons_succ])
          obtain ⟨y0, y1, y2⟩ := cells3 Hq.out
          have yf := blk_free Hq.out
          refine wpAnyH_ready (rs := [13]) (by kernel_rfl) (by simp) ?_
          refine AllReadyH.cons (o := { dst := none, op := Go.Op.store 57 (Go.Operand.tmp 14) (Go.Operand.tmp 93), type := 0, pos := "outright.go:75", after := #[{ on := 12, ground := Go.Ground.data }, { on := 10, ground := Go.Ground.data }, { on := 8, ground := Go.Ground.chain }, { on := 0, ground := Go.Ground.phase }, { on := 1, ground := Go.Ground.phase }, { on := 2, ground := Go.Ground.phase }, { on := 3, ground := Go.Ground.phase }, { on := 4, ground := Go.Ground.phase }, { on := 5, ground := Go.Ground.phase }, { on := 6, ground := Go.Ground.phase }, { on := 7, ground := Go.Ground.phase }, { on := 8, ground := Go.Ground.phase }, { on := 9, ground := Go.Ground.phase }, { on := 10, ground := Go.Ground.phase }, { on := 11, ground := Go.Ground.textOnly Go.Departure.lateStores }, { on := 12, ground := Go.Ground.phase }], guard := none }) rfl (fun K hK => ?_) AllReadyH.nil
          go_simp
          refine hK.out _ _ ?_ (fun hHeld => ?_)
          · exact HKK.out _ (((Hc.out.setCell Hqs.out _).setCell Hqs.out _).setCell Hqs.out _)
          clear hK K
          (try simp only [Act.put, List.setIfInBounds_toArray, List.set_cons_zero, List.set_cons_succ])
          refine wpAnyH_take (i := 14) (oi := { dst := some 15, op := Go.Op.assign (Go.Operand.tmp 94), type := 28, pos := "outright.go:75", after := #[{ on := 11, ground := Go.Ground.data }, { on := 13, ground := Go.Ground.chain }, { on := 0, ground := Go.Ground.phase }, { on := 1, ground := Go.Ground.phase }, { on := 2, ground := Go.Ground.phase }, { on := 3, ground := Go.Ground.phase }, { on := 4, ground := Go.Ground.phase }, { on := 5, ground := Go.Ground.phase }, { on := 6, ground := Go.Ground.phase }, { on := 7, ground := Go.Ground.phase }, { on := 8, ground := Go.Ground.phase }, { on := 9, ground := Go.Ground.phase }, { on := 10, ground := Go.Ground.phase }, { on := 11, ground := Go.Ground.phase }, { on := 12, ground := Go.Ground.phase }, { on := 13, ground := Go.Ground.phase }], guard := none }) (v := ?_) rfl (by kernel_rfl) (by kernel_rfl) (by kernel_rfl) (fun _ _ _ h => h) (Or.inl ⟨by rfl, ?_⟩) (by assumption) ?_
          rotate_left 1
          · intro w' hSw; (go_simp <;> (with_reducible rfl))
          (try simp only [Act.put, List.setIfInBounds_toArray, List.set_cons_zero, List.set_cons_succ])
          refine wpAnyH_done (by kernel_rfl) ?_ _
          refine NoPanic.normal ?_
          go_wp2_with fail
          go_meet
          exact ⟨⟨_, rfl⟩, rfl, Lib.hid (((Hc.out.setCell Hqs.out _).setCell Hqs.out _).setCell Hqs.out _)⟩
      ·
        have Hq := Lib.hid (heap_alloc_new v4 (.cells #[.int .u16 0, .int .u16 0, .slice none 0 0] 57))
        have Hqs := Lib.hid (show w3.heap.size ≤ v4.heap.size from Hc.out.size)
        obtain ⟨q, eq⟩ : ∃ q, v4.heap.size = q := ⟨_, rfl⟩
        go_simp
        have Hc := Lib.hid (Hc.out.alloc Hc.out.size (.cells #[.int .u16 0, .int .u16 0, .slice none 0 0] 57))
        refine hK.out _ _ ?_ (fun hHeld => ?_)
        · exact HKK.out _ Hc.out
        clear hK K
        (try simp only [Act.put, List.setIfInBounds_toArray, List.set_cons_zero, List.set_cons_succ])
        rw [eq] at Hq Hqs
        refine wpAnyH_ready (rs := [5]) (by kernel_rfl) (by simp) ?_
        refine AllReadyH.cons (o := { dst := some 89, op := Go.Op.call { callee := Go.Callee.value (Go.Operand.func 41), args := #[Go.Operand.tmp 88], argTypes := #[25] }, type := 25, pos := "outright.go:75", after := #[{ on := 4, ground := Go.Ground.data }], guard := none }) rfl (fun K hK => ?_) AllReadyH.nil
        go_simp
        refine (bclone_any ⟨g3, 0, none⟩ (8 + n) c3 L _ (by omega) (HL.out _ Hc.out)).mono ?_
        rintro e w11 ⟨AA, cA, rfl, kA, mA, hoA, hbA⟩
        have Ho := Lib.hid (hoA.mono (B' := w3.heap.size) Hc.out.size)
        have Hc := Lib.hid (below_trans Hc.out hbA)
        have HoA := Lib.hid hoA
        have HbA := Lib.hid hbA
        refine hK.out _ _ ?_ (fun hHeld => ?_)
        · exact HKK.out _ Hc.out
        clear hK K hoA hbA
        (try simp only [Act.put, List.setIfInBounds_toArray, List.set_cons_zero, List.set_cons_succ])
        have Hne := Lib.hid (show ∀ g, (Value.slice AA (8 + n) cA).ownBlock = some g → g ≠ q from fun g e => by
          have h1 := (own_block Ho.out g e).1
          have := HoA.out.addr (by omega)
          obtain ⟨g', e', h2, _⟩ := this
          rw [h1] at e'
          injection e' with e'
          injection e' with e'
          subst e'
          simp at h2
          omega)
        have Hq := Lib.hid (blk_on Hq.out HbA.out)
        refine wpAnyH_ready (rs := [7]) (by kernel_rfl) (by simp) ?_
        refine AllReadyH.cons (o := { dst := some 91, op := Go.Op.call { callee := Go.Callee.builtin Go.Builtin.append, args := #[Go.Operand.tmp 89, Go.Operand.tmp 90], argTypes := #[25, 25] }, type := 25, pos := "outright.go:75", after := #[{ on := 5, ground := Go.Ground.data }, { on := 6, ground := Go.Ground.data }, { on := 5, ground := Go.Ground.chain }], guard := none }) rfl (fun K hK => ?_) AllReadyH.nil
        refine step_app rfl (.tmp 89) (.tmp 90) rfl w3.heap.size AA AB (8 + n) cA m cB L dB (8 + n + m) (L ++ dB) rfl rfl rfl rfl Ho.out (HR.out _ Hc.out) (by omega) Hc.out.size ?_
        intro A2 c2 w12 ho12 hg12 hb12
        have Ho := Lib.hid ho12
        have Hg12 := Lib.hid hg12.block
        have Hc := Lib.hid (Hc.out.trans hb12)
        refine hK.out _ _ ?_ (fun hHeld => ?_)
        · exact HKK.out _ Hc.out
        clear hK K ho12 hg12 hb12
        (try simp only [Act.put, List.setIfInBounds_toArray, List.set_cons_zero, List.set_cons_succ])
        have Hq := Lib.hid ((Hg12.out q (lt_of_block Hq.out) (fun e => Hne.out q e.symm rfl)).trans Hq.out)
        refine wpAnyH_ready (rs := [8]) (by kernel_rfl) (by simp) ?_
        refine AllReadyH.cons (o := { dst := some 92, op := Go.Op.call { callee := Go.Callee.value (Go.Operand.func 39), args := #[Go.Operand.tmp 85, Go.Operand.tmp 87, Go.Operand.tmp 91], argTypes := #[22, 22, 25] }, type := 63, pos := "outright.go:75", after := #[{ on := 1, ground := Go.Ground.data }, { on := 3, ground := Go.Ground.data }, { on := 7, ground := Go.Ground.data }, { on := 7, ground := Go.Ground.chain }], guard := none }) rfl (fun K hK => ?_) AllReadyH.nil
        go_simp
        refine (uparse_x src dst A2 (8 + n + m) c2 (L ++ dB) x2 _ ⟨Ho.out.cap, Ho.out.capMax⟩ (Ho.out.rd HbLB.out) EB.out).mono ?_
        rintro e w13 ⟨a5, b5, A5, n5, m5, rfl, hb13⟩
        have Hcc := Lib.hid (below_trans Hc.out hb13)
        have Hc := Hcc
        have Hb13 := Lib.hid hb13
        refine hK.out _ _ ?_ (fun hHeld => ?_)
        · exact HKK.out _ Hc.out
        clear hK K hb13
        (try simp only [Act.put, List.setIfInBounds_toArray, List.set_cons_zero, List.set_cons_succ])
        have Hq := Lib.hid (blk_on Hq.out Hb13.out)
        refine wpAnyH_take (i := 9) (oi := { dst := some 83, op := Go.Op.move (Go.Operand.tmp 92), type := 63, pos := "outright.go:75", after := #[{ on := 8, ground := Go.Ground.data }], guard := none }) (v := ?_) rfl (by kernel_rfl) (by kernel_rfl) (by kernel_rfl) (fun _ _ _ h => h) (Or.inl ⟨by rfl, ?_⟩) (by assumption) ?_
        rotate_left 1
        · intro w' hSw; (go_simp <;> (with_reducible rfl))
        (try simp only [Act.put, List.setIfInBounds_toArray, List.set_cons_zero, List.set_cons_succ])
        refine wpAnyH_take (i := 10) (oi := { dst := some 93, op := Go.Op.extract (Go.Operand.tmp 83) 0, type := 57, pos := "outright.go:75", after := #[{ on := 9, ground := Go.Ground.data }], guard := none }) (v := ?_) rfl (by kernel_rfl) (by kernel_rfl) (by kernel_rfl) (fun _ _ _ h => h) (Or.inl ⟨by rfl, ?_⟩) (by assumption) ?_
        rotate_left 1
        · intro w' hSw; (go_simp <;> (with_reducible rfl))
        (try simp only [Act.put, List.setIfInBounds_toArray, List.set_cons_zero, List.set_cons_succ])
        refine wpAnyH_take (i := 11) (oi := { dst := some 94, op := Go.Op.extract (Go.Operand.tmp 83) 1, type := 28, pos := "outright.go:75", after := #[{ on := 9, ground := Go.Ground.data }, { on := 13, ground := Go.Ground.gcOnly Go.Departure.lateStores }], guard := none }) (v := ?_) rfl (by kernel_rfl) (by kernel_rfl) (by kernel_rfl) (fun _ _ _ h => h) (Or.inl ⟨by rfl, ?_⟩) (by assumption) ?_
        rotate_left 1
        · intro w' hSw; (go_simp <;> (with_reducible rfl))
        (try simp only [Act.put, List.setIfInBounds_toArray, List.set_cons_zero, List.set_cons_succ])
        obtain ⟨y0, y1, y2⟩ := cells3 Hq.out
        have yf := blk_free Hq.out
        refine wpAnyH_ready (rs := [13]) (by kernel_rfl) (by simp) ?_
        refine AllReadyH.cons (o := { dst := none, op := Go.Op.store 57 (Go.Operand.tmp 14) (Go.Operand.tmp 93), type := 0, pos := "outright.go:75", after := #[{ on := 12, ground := Go.Ground.data }, { on := 10, ground := Go.Ground.data }, { on := 8, ground := Go.Ground.chain }, { on := 0, ground := Go.Ground.phase }, { on := 1, ground := Go.Ground.phase }, { on := 2, ground := Go.Ground.phase }, { on := 3, ground := Go.Ground.phase }, { on := 4, ground := Go.Ground.phase }, { on := 5, ground := Go.Ground.phase }, { on := 6, ground := Go.Ground.phase }, { on := 7, ground := Go.Ground.phase }, { on := 8, ground := Go.Ground.phase }, { on := 9, ground := Go.Ground.phase }, { on := 10, ground := Go.Ground.phase }, { on := 11, ground := Go.Ground.textOnly Go.Departure.lateStores }, { on := 12, ground := Go.Ground.phase }], guard := none }) rfl (fun K hK => ?_) AllReadyH.nil
        go_simp
        refine hK.out _ _ ?_ (fun hHeld => ?_)
        · exact HKK.out _ (((Hc.out.setCell Hqs.out _).setCell Hqs.out _).setCell Hqs.out _)
        clear hK K
        (try simp only [Act.put, List.setIfInBounds_toArray, List.set_cons_zero, List.set_cons_succ])
        refine wpAnyH_take (i := 14) (oi := { dst := some 15, op := Go.Op.assign (Go.Operand.tmp 94), type := 28, pos := "outright.go:75", after := #[{ on := 11, ground := Go.Ground.data }, { on := 13, ground := Go.Ground.chain }, { on := 0, ground := Go.Ground.phase }, { on := 1, ground := Go.Ground.phase }, { on := 2, ground := Go.Ground.phase }, { on := 3, ground := Go.Ground.phase }, { on := 4, ground := Go.Ground.phase }, { on := 5, ground := Go.Ground.phase }, { on := 6, ground := Go.Ground.phase }, { on := 7, ground := Go.Ground.phase }, { on := 8, ground := Go.Ground.phase }, { on := 9, ground := Go.Ground.phase }, { on := 10, ground := Go.Ground.phase }, { on := 11, ground := Go.Ground.phase }, { on := 12, ground := Go.Ground.phase }, { on := 13, ground := Go.Ground.phase }], guard := none }) (v := ?_) rfl (by kernel_rfl) (by kernel_rfl) (by kernel_rfl) (fun _ _ _ h => h) (Or.inl ⟨by rfl, ?_⟩) (by assumption) ?_
        rotate_left 1
        · intro w' hSw; (go_simp <;> (with_reducible rfl))
        (try simp only [Act.put, List.setIfInBounds_toArray, List.set_cons_zero, List.set_cons_succ])
        refine wpAnyH_done (by kernel_rfl) ?_ _
        refine NoPanic.normal ?_
        go_wp2_with fail
        go_meet
        exact ⟨⟨_, rfl⟩, rfl, Lib.hid (((Hc.out.setCell Hqs.out _).setCell Hqs.out _).setCell Hqs.out _)⟩
    case rest =>
    obtain ⟨⟨q9, rfl⟩, rfl, Hc⟩ := hcut
    have Hb9 := Lib.hid (below_trans HbW.out (below_trans Hb.out Hc.out))
    clear f0 f1 q0 q1 q2 p0 p1 hmi hminB EB
    by_cases h0 : m = 0
    · obtain rfl : x2 = 0 := by have := Ex2.out; rw [if_pos h0] at this; exact this.symm
      subst h0
      go_wp2_with fail
      refine (uawake_any _).mono ?_
      rintro e w14 ⟨rfl, hb14⟩
      have Hb9 := Lib.hid (below_trans Hb9.out hb14)
      clear hb14
      go_wp2_with fail
      go_ret
      exact ⟨rfl, Hb9.out⟩
    · have h0b : ((m : Int) == 0) = false := by simpa using h0
      by_cases h1480 : 1480 < 8 + n + m
      · obtain rfl : x2 = 3 := by have := Ex2.out; rw [if_neg h0, if_pos h1480] at this; exact this.symm
        have hbig : 1480 < 8 + (n : Int) + (m : Int) := by omega
        clear h0 h1480
        go_wp2_with fail
        refine (uawake_any _).mono ?_
        rintro e w14 ⟨rfl, hb14⟩
        have Hb9 := Lib.hid (below_trans Hb9.out hb14)
        clear hb14
        go_wp2_with fail
        go_ret
        exact ⟨rfl, Hb9.out⟩
      · obtain rfl : x2 = 5 := by have := Ex2.out; rw [if_neg h0, if_neg h1480] at this; exact this.symm
        have hbig : ¬ 1480 < 8 + (n : Int) + (m : Int) := by omega
        clear h0 h1480
        go_wp2_with fail
        refine (uawake_any _).mono ?_
        rintro e w14 ⟨rfl, hb14⟩
        have Hb9 := Lib.hid (below_trans Hb9.out hb14)
        clear hb14
        go_wp2_with fail
        go_ret
        exact ⟨rfl, Hb9.out⟩
theorem own : ownKnob Try.prog.godebug = none := by kernel_rfl
theorem laidOut : laidOutB Try.prog = true := by kernel_rfl

set_option maxRecDepth 100000 in
theorem lifted (os : Os) (started : os.Started) (H : Type) (enc : TypeId × Value → H) :
    ReturnsInHanded {} Try.checked os 13 .any (Rows.udpCutSpec.pre6 enc Try.prog Try.f13 Rows.udpCutRow.domain false) (Rows.udpCutSpec.post enc Try.prog Try.f13 false true false false) := by
  refine returnsInHanded_of_change (C := Try.checked) own started (by kernel_rfl) Try.func13
    (ChangeSpec.witness6 (enc := enc) (C := Try.checked) false ⟨#[], #[(.agg #[.int .u32 0, .int .u32 0]), (.agg #[.int .u16 0, .int .u16 0, .slice none 0 0]), (.agg #[.int .u16 0, .slice none 0 0])], []⟩ 8 (by kernel_rfl) (by kernel_rfl) (by kernel_rfl) (by kernel_rfl)) ?_
  intro W base args ds gs before hval0 hW hcnd _
  have hval : ∀ (j : Nat) t v, Try.f13.params[j]? = some t → args[j]? = some v → Value.okWide Try.prog W .any base t v := hval0
  have hW' := hW
  obtain ⟨p, q, hA0, hV, rfl, hfz, hnd⟩ := hW
  have hA : DataW.TrodAll enc Try.prog W 0 (fun _ => true) true Try.f13.params.toList args.toList ds p := hA0
  rw [Try.params13] at hA hval
  obtain ⟨v0, vs0, d0, ds0, p0, q0, hargs, rfl, rfl, h0, r0⟩ := trodAll_cons hA
  obtain ⟨v1, vs1, d1, ds1, p1, q1, rfl, rfl, rfl, h1, r1⟩ := trodAll_cons r0
  obtain ⟨v2, vs2, d2, ds2, p2, q2, rfl, rfl, rfl, h2, r2⟩ := trodAll_cons r1
  obtain ⟨rfl, rfl, rfl⟩ := trodAll_nil r2
  obtain rfl : args = #[v0, v1, v2] := by cases args; simp_all
  obtain ⟨rfl, rfl⟩ := trodVars_none hV
  have k0 := ends_open (hval 0 55 v0 rfl rfl) h0
  have lt0 : ∀ x ∈ p0, x.block < W.heap.size := by obtain ⟨m, hm⟩ := h0; exact DataW.trod_lt m _ _ _ hm
  have k1 := dg_open (hval 1 57 v1 rfl rfl) h1
  have lt1 : ∀ x ∈ p1, x.block < W.heap.size := by obtain ⟨m, hm⟩ := h1; exact DataW.trod_lt m _ _ _ hm
  have k2 := ragged_open (hval 2 73 v2 rfl rfl) h2
  have lt2 : ∀ x ∈ p2, x.block < W.heap.size := by obtain ⟨m, hm⟩ := h2; exact DataW.trod_lt m _ _ _ hm
  clear hA0 hval0
  refine (walk W v0 k0 v1 k1 v2 k2).mono fun e W' ⟨he, bel⟩ => ?_
  subst he
  exact ⟨_, rfl, _, _, _, [], _, [], hW', trodAll_mk1 (shut_bool Try.underlying4 _), (trodAll_cons_mk (Below.trod laidOut (by kernel_rfl) (of_decide_eq_true (by kernel_rfl)) h0 bel lt0) (trodAll_cons_mk (Below.trod laidOut (by kernel_rfl) (of_decide_eq_true (by kernel_rfl)) h1 bel lt1) (trodAll_cons_mk (Below.trod laidOut (by kernel_rfl) (of_decide_eq_true (by kernel_rfl)) h2 bel lt2) trodAll_mk0))), rfl, bel.frame _, fun h => by cases h⟩

theorem over : Rows.udpCutRow.holds Try.pinned (OpenSpec.ofChange Rows.udpCutSpec) :=
  OpenClaim.holds_of_wide 13 Try.f13 rfl rfl rfl rfl rfl rfl rfl ⟨rfl, rfl, rfl, rfl, rfl⟩ rfl rfl rfl rfl rfl (by kernel_rfl) Try.func13 (by kernel_rfl)
    (of_decide_eq_true (by kernel_rfl)) (by unfold Func.isWrapper; first | (rw [if_pos (by decide +kernel)]; kernel_rfl) | (rw [if_neg (by decide +kernel)]; exact ⟨rfl, rfl⟩))
    (fun os started H enc _ => lifted os started H enc)

/-- The statement. -/
theorem proved : Rows.UdpCutSaid := over
#print axioms proved
end Go.Proofs.Ytoblllgefmajiaa.udpCut
