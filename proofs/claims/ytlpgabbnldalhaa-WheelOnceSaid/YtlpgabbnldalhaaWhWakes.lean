/-
  culvertlaw12's wakes: the document's examples.
-/
import Derived.Test.YtlpgabbnldalhaaWhTold
import Derived.Deep.CutRange
import Derived.RegionTactic
namespace Go.Proofs.Ytlpgabbnldalhaa
set_option maxRecDepth 10000
open Go.RowKit
set_option linter.unusedSimpArgs false
set_option linter.unusedVariables false
variable {WAt : WA}
def WokeW (w : World) (e : Ending) (w' : World) : Prop := e = .returned (.bool true) ∧ Below w.heap.size w w'
set_option maxHeartbeats 2000000 in
theorem whwake_any (F : WFace WAt) (w : World) : Calls Try.prog 23 #[] w (WokeW w) := by
  obtain ⟨L1, e1⟩ : ∃ s, setA 3 5 [] = s := ⟨_, rfl⟩
  obtain ⟨L2, e2⟩ : ∃ s, setA 1 9 L1 = s := ⟨_, rfl⟩
  obtain ⟨L3, e3⟩ : ∃ s, setA 2 5 L2 = s := ⟨_, rfl⟩
  obtain ⟨L4, e4⟩ : ∃ s, tickA 0 4 L3 = s := ⟨_, rfl⟩
  obtain ⟨L5, e5⟩ : ∃ s, tickA 4 5 L4 = s := ⟨_, rfl⟩
  obtain ⟨L6, e6⟩ : ∃ s, setA 1 7 L5 = s := ⟨_, rfl⟩
  obtain ⟨L7, e7⟩ : ∃ s, tickA 5 8 L6 = s := ⟨_, rfl⟩
  obtain ⟨L8, e8⟩ : ∃ s, stopW 1 L7 = s := ⟨_, rfl⟩
  obtain ⟨L9, e9⟩ : ∃ s, tickA 8 7 L8 = s := ⟨_, rfl⟩
  obtain ⟨L10, e10⟩ : ∃ s, setA 9 2 L9 = s := ⟨_, rfl⟩
  obtain ⟨L11, e11⟩ : ∃ s, tickA 8 8 L10 = s := ⟨_, rfl⟩
  have V : (L1.length ≤ 1000000 ∧ L2.length ≤ 1000000 ∧ L3.length ≤ 1000000 ∧ L4.length ≤ 1000000 ∧ L5.length ≤ 1000000 ∧ L6.length ≤ 1000000 ∧ L7.length ≤ 1000000 ∧ L8.length ≤ 1000000 ∧ L9.length ≤ 1000000 ∧ L10.length ≤ 1000000) ∧
      nextW L3 = (5, true) ∧ (decide (tickE 0 4 = 0) && decide (tickL 0 4 L3 = [])) = true ∧ (decide (tickE 4 5 = 0) && decide (tickL 4 5 L4 = [2, 3])) = true ∧ (decide (tickE 5 8 = 0) && decide (tickL 5 8 L6 = [1])) = true ∧ stopE 1 L7 = 6 ∧ (decide (tickE 8 8 = 0) && decide (tickL 8 8 L10 = [9])) = true ∧ tickL 8 7 L8 = [] := by
    subst e1; subst e2; subst e3; subst e4; subst e5; subst e6; subst e7; subst e8; subst e9; subst e10
    decide +kernel
  obtain ⟨⟨n1, n2, n3, n4, n5, n6, n7, n8, n9, n10⟩, v1, v2, v3, v4, v5, v6, v7⟩ := V
  have T1 := Lib.hid (fun w g B h hB => set_own F B g 0 3 5 0 [] L1 w h hB (by simp) (by decide) (by decide) (by decide) e1)
  have T2 := Lib.hid (fun w g B h hB => set_own F B g 0 1 9 0 L1 L2 w h hB n1 (by decide) (by decide) (by decide) e2)
  have T3 := Lib.hid (fun w g B h hB => set_own F B g 0 2 5 0 L2 L3 w h hB n2 (by decide) (by decide) (by decide) e3)
  have T4 := Lib.hid (fun w g B h hB => next_own F B g 0 5 true L3 w h hB n3 v1)
  have T5 := Lib.hid (fun w g B h hB => told_nil F B g 0 4 4 L3 L4 true w h hB n3 (by decide) (by decide) e4 v2)
  have T6 := Lib.hid (fun w g B z h hB hz => told_lit F B g z 4 5 5 L4 L5 [2, 3] true w hz h hB n4 (by decide) (by decide) e5 (by simp [maxLen]) v3)
  have T7 := Lib.hid (fun w g B h hB => set_own F B g 5 1 7 0 L5 L6 w h hB n5 (by decide) (by decide) (by decide) e6)
  have T8 := Lib.hid (fun w g B z h hB hz => told_lit F B g z 5 8 8 L6 L7 [1] true w hz h hB n6 (by decide) (by decide) e7 (by simp [maxLen]) v4)
  have T9 := Lib.hid (fun w g B h hB => stop_own F B g 8 1 6 L7 L8 w h hB n7 (by decide) v5 e8)
  have T10 := Lib.hid (fun w g B h hB => tick_own F B g 8 7 8 1 L8 L9 [] w h hB n8 (by decide) (by decide) (by decide) e9 v7)
  have T11 := Lib.hid (fun w g B h hB => set_own F B g 8 9 2 0 L9 L10 w h hB n9 (by decide) (by decide) (by decide) e10)
  have T12 := Lib.hid (fun w g B z h hB hz => told_lit F B g z 8 8 8 L10 L11 [9] true w hz h hB n10 (by decide) (by decide) e11 (by simp [maxLen]) v6)
  have Hn := Lib.hid (new_ownW F w)
  clear e1 e2 e3 e4 e5 e6 e7 e8 e9 e10 e11 n1 n2 n3 n4 n5 n6 n7 n8 n9 n10 v1 v2 v3 v4 v5 v6 v7
  go_enter Try.func23, Try.ntmps23
  go_wp2_with fail
  refine Hn.out.mono ?_
  rintro e w1 ⟨g, rfl, hp, hb⟩
  have HP := Lib.hid hp
  have HB := Lib.hid hb
  have HS := Lib.hid hb.size
  clear hp hb Hn
  go_wp2_with fail
  refine (T1.out _ _ _ HP.out HS.out).mono ?_
  rintro e w2 ⟨rfl, hp, hb⟩
  have HP2 := Lib.hid hp
  have HB2 := Lib.hid (HB.out.trans hb)
  have HS2 := Lib.hid (Nat.le_trans HS.out hb.size)
  clear hp hb HP HB HS
  have HP := HP2
  have HB := HB2
  have HS := HS2
  clear HP2 HB2 HS2
  go_wp2_with fail
  refine (T2.out _ _ _ HP.out HS.out).mono ?_
  rintro e w3 ⟨rfl, hp, hb⟩
  have HP2 := Lib.hid hp
  have HB2 := Lib.hid (HB.out.trans hb)
  have HS2 := Lib.hid (Nat.le_trans HS.out hb.size)
  clear hp hb HP HB HS
  have HP := HP2
  have HB := HB2
  have HS := HS2
  clear HP2 HB2 HS2
  go_wp2_with fail
  refine (T3.out _ _ _ HP.out HS.out).mono ?_
  rintro e w4 ⟨rfl, hp, hb⟩
  have HP2 := Lib.hid hp
  have HB2 := Lib.hid (HB.out.trans hb)
  have HS2 := Lib.hid (Nat.le_trans HS.out hb.size)
  clear hp hb HP HB HS
  have HP := HP2
  have HB := HB2
  have HS := HS2
  clear HP2 HB2 HS2
  go_wp2_with fail
  refine (T4.out _ _ _ HP.out HS.out).mono ?_
  rintro e w5 ⟨rfl, hp, hb⟩
  have HP2 := Lib.hid hp
  have HB2 := Lib.hid (HB.out.trans hb)
  have HS2 := Lib.hid (Nat.le_trans HS.out hb.size)
  clear hp hb HP HB HS
  have HP := HP2
  have HB := HB2
  have HS := HS2
  clear HP2 HB2 HS2
  go_wp2_with fail
  refine (T5.out _ _ _ HP.out HS.out).mono ?_
  rintro e w6 ⟨rfl, hp, hb⟩
  have HP2 := Lib.hid hp
  have HB2 := Lib.hid (HB.out.trans hb)
  have HS2 := Lib.hid (Nat.le_trans HS.out hb.size)
  clear hp hb HP HB HS
  have HP := HP2
  have HB := HB2
  have HS := HS2
  clear HP2 HB2 HS2
  go_wp2_with fail
  obtain ⟨z, hz⟩ : ∃ z, w6.heap.size = z := ⟨_, rfl⟩
  have hsub := T6.out _ _ _ z HP.out HS.out hz
  simp only [hz]
  refine Calls.mono hsub ?_
  clear hsub
  rintro e w7 ⟨rfl, hp, hb⟩
  clear hz
  have HP2 := Lib.hid hp
  have HB2 := Lib.hid (HB.out.trans hb)
  have HS2 := Lib.hid (Nat.le_trans HS.out (show w6.heap.size ≤ w7.heap.size from hb.size))
  clear hp hb HP HB HS
  have HP := HP2
  have HB := HB2
  have HS := HS2
  clear HP2 HB2 HS2
  go_wp2_with fail
  refine (T7.out _ _ _ HP.out HS.out).mono ?_
  rintro e w8 ⟨rfl, hp, hb⟩
  have HP2 := Lib.hid hp
  have HB2 := Lib.hid (HB.out.trans hb)
  have HS2 := Lib.hid (Nat.le_trans HS.out hb.size)
  clear hp hb HP HB HS
  have HP := HP2
  have HB := HB2
  have HS := HS2
  clear HP2 HB2 HS2
  go_wp2_with fail
  obtain ⟨z, hz⟩ : ∃ z, w8.heap.size = z := ⟨_, rfl⟩
  have hsub := T8.out _ _ _ z HP.out HS.out hz
  simp only [hz]
  refine Calls.mono hsub ?_
  clear hsub
  rintro e w9 ⟨rfl, hp, hb⟩
  clear hz
  have HP2 := Lib.hid hp
  have HB2 := Lib.hid (HB.out.trans hb)
  have HS2 := Lib.hid (Nat.le_trans HS.out (show w8.heap.size ≤ w9.heap.size from hb.size))
  clear hp hb HP HB HS
  have HP := HP2
  have HB := HB2
  have HS := HS2
  clear HP2 HB2 HS2
  go_wp2_with fail
  refine (T9.out _ _ _ HP.out HS.out).mono ?_
  rintro e w10 ⟨rfl, hp, hb⟩
  have HP2 := Lib.hid hp
  have HB2 := Lib.hid (HB.out.trans hb)
  have HS2 := Lib.hid (Nat.le_trans HS.out hb.size)
  clear hp hb HP HB HS
  have HP := HP2
  have HB := HB2
  have HS := HS2
  clear HP2 HB2 HS2
  go_wp2_with fail
  refine (T10.out _ _ _ HP.out HS.out).mono ?_
  rintro e w11 ⟨v, rfl, hl, hp, hb, -⟩
  clear hl
  have HP2 := Lib.hid hp
  have HB2 := Lib.hid (HB.out.trans hb)
  have HS2 := Lib.hid (Nat.le_trans HS.out hb.size)
  clear hp hb HP HB HS
  have HP := HP2
  have HB := HB2
  have HS := HS2
  clear HP2 HB2 HS2
  go_wp2_with fail
  refine (T11.out _ _ _ HP.out HS.out).mono ?_
  rintro e w12 ⟨rfl, hp, hb⟩
  have HP2 := Lib.hid hp
  have HB2 := Lib.hid (HB.out.trans hb)
  have HS2 := Lib.hid (Nat.le_trans HS.out hb.size)
  clear hp hb HP HB HS
  have HP := HP2
  have HB := HB2
  have HS := HS2
  clear HP2 HB2 HS2
  go_wp2_with fail
  obtain ⟨z, hz⟩ : ∃ z, w12.heap.size = z := ⟨_, rfl⟩
  have hsub := T12.out _ _ _ z HP.out HS.out hz
  simp only [hz]
  refine Calls.mono hsub ?_
  clear hsub
  rintro e w13 ⟨rfl, hp, hb⟩
  clear hz
  have HP2 := Lib.hid hp
  have HB2 := Lib.hid (HB.out.trans hb)
  have HS2 := Lib.hid (Nat.le_trans HS.out (show w12.heap.size ≤ w13.heap.size from hb.size))
  clear hp hb HP HB HS
  have HP := HP2
  have HB := HB2
  have HS := HS2
  clear HP2 HB2 HS2
  go_wp2_with fail
  go_ret
  exact ⟨rfl, HB.out⟩
end Go.Proofs.Ytlpgabbnldalhaa
