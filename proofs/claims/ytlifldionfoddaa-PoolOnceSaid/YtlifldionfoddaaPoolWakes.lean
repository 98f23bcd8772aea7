/-
  culvertlaw11's awake: the document's examples.
-/
import Derived.Test.YtlifldionfoddaaPoolTold
import Derived.Deep.CutRange
import Derived.RegionTactic
namespace Go.Proofs.Ytlifldionfoddaa
set_option maxRecDepth 10000
open Go.RowKit
set_option linter.unusedSimpArgs false
set_option linter.unusedVariables false

set_option maxHeartbeats 2000000 in
theorem poolwake_any (w : World) : Calls Try.prog 9 #[] w (Woke w) := by
  obtain ⟨s0, e0⟩ : ∃ s, newA 5 6 10 = s := ⟨_, rfl⟩
  obtain ⟨s1, e1⟩ : ∃ s, takeA s0 1 = s := ⟨_, rfl⟩
  obtain ⟨s2, e2⟩ : ∃ s, takeA s1 1 = s := ⟨_, rfl⟩
  obtain ⟨s3, e3⟩ : ∃ s, takeA s2 1 = s := ⟨_, rfl⟩
  obtain ⟨s4, e4⟩ : ∃ s, giveA s3 5 3 = s := ⟨_, rfl⟩
  obtain ⟨s5, e5⟩ : ∃ s, takeA s4 12 = s := ⟨_, rfl⟩
  obtain ⟨s6, e6⟩ : ∃ s, takeA s5 13 = s := ⟨_, rfl⟩
  have Hn := Lib.hid (new_own 5 6 10 s0 w (by decide) (by decide) (by decide) (by decide) e0)
  have V := Lib.hid (show ((takeP s0 1 = 5 ∧ takeE s0 1 = 0) ∧ (takeP s1 1 = 6 ∧ takeE s1 1 = 0) ∧ (takeP s2 1 = 0 ∧ takeE s2 1 = 7)) ∧ (giveE s3 5 3 = 0 ∧ (takeP s4 12 = 0 ∧ takeE s4 12 = 7) ∧ (takeP s5 13 = 5 ∧ takeE s5 13 = 0)) by
    subst e0; subst e1; subst e2; subst e3; subst e4; subst e5
    decide +kernel)
  have T1 := Lib.hid (fun w g B h hB => take_own B g s0 s1 1 5 0 w h hB (by decide) V.out.1.1.1 V.out.1.1.2 e1)
  have T2 := Lib.hid (fun w g B h hB => take_own B g s1 s2 1 6 0 w h hB (by decide) V.out.1.2.1.1 V.out.1.2.1.2 e2)
  have T3 := Lib.hid (fun w g B h hB => take_own B g s2 s3 1 0 7 w h hB (by decide) V.out.1.2.2.1 V.out.1.2.2.2 e3)
  have T4 := Lib.hid (fun w g B h hB => give_own B g s3 s4 5 3 0 w h hB (by decide) (by decide) V.out.2.1 e4)
  have T5 := Lib.hid (fun w g B h hB => take_own B g s4 s5 12 0 7 w h hB (by decide) V.out.2.2.1.1 V.out.2.2.1.2 e5)
  have T6 := Lib.hid (fun w g B h hB => take_own B g s5 s6 13 5 0 w h hB (by decide) V.out.2.2.2.1 V.out.2.2.2.2 e6)
  clear e0 e1 e2 e3 e4 e5 e6 V
  go_enter Try.func9, Try.ntmps9
  go_wp2_with fail
  refine Hn.out.mono ?_
  rintro e w1 ⟨g, rfl, hp, hb⟩
  have HP := Lib.hid hp
  have HB := Lib.hid hb
  have HS := Lib.hid hb.size
  clear hp hb Hn
  go_wp2_with fail
  refine (T1.out _ _ _ HP.out HS.out).mono ?_
  rintro e w2 ⟨rfl, hp, hb⟩
  have HP2 := Lib.hid hp
  have HB2 := Lib.hid (HB.out.trans hb)
  have HS2 := Lib.hid (Nat.le_trans HS.out hb.size)
  clear hp hb HP HB HS
  have HP := HP2
  have HB := HB2
  have HS := HS2
  clear HP2 HB2 HS2
  go_wp2_with fail
  refine (T2.out _ _ _ HP.out HS.out).mono ?_
  rintro e w3 ⟨rfl, hp, hb⟩
  have HP2 := Lib.hid hp
  have HB2 := Lib.hid (HB.out.trans hb)
  have HS2 := Lib.hid (Nat.le_trans HS.out hb.size)
  clear hp hb HP HB HS
  have HP := HP2
  have HB := HB2
  have HS := HS2
  clear HP2 HB2 HS2
  go_wp2_with fail
  refine (T3.out _ _ _ HP.out HS.out).mono ?_
  rintro e w4 ⟨rfl, hp, hb⟩
  have HP2 := Lib.hid hp
  have HB2 := Lib.hid (HB.out.trans hb)
  have HS2 := Lib.hid (Nat.le_trans HS.out hb.size)
  clear hp hb HP HB HS
  have HP := HP2
  have HB := HB2
  have HS := HS2
  clear HP2 HB2 HS2
  go_wp2_with fail
  refine (T4.out _ _ _ HP.out HS.out).mono ?_
  rintro e w5 ⟨rfl, hp, hb⟩
  have HP2 := Lib.hid hp
  have HB2 := Lib.hid (HB.out.trans hb)
  have HS2 := Lib.hid (Nat.le_trans HS.out hb.size)
  clear hp hb HP HB HS
  have HP := HP2
  have HB := HB2
  have HS := HS2
  clear HP2 HB2 HS2
  go_wp2_with fail
  refine (T5.out _ _ _ HP.out HS.out).mono ?_
  rintro e w6 ⟨rfl, hp, hb⟩
  have HP2 := Lib.hid hp
  have HB2 := Lib.hid (HB.out.trans hb)
  have HS2 := Lib.hid (Nat.le_trans HS.out hb.size)
  clear hp hb HP HB HS
  have HP := HP2
  have HB := HB2
  have HS := HS2
  clear HP2 HB2 HS2
  go_wp2_with fail
  refine (T6.out _ _ _ HP.out HS.out).mono ?_
  rintro e w7 ⟨rfl, hp, hb⟩
  have HP2 := Lib.hid hp
  have HB2 := Lib.hid (HB.out.trans hb)
  have HS2 := Lib.hid (Nat.le_trans HS.out hb.size)
  clear hp hb HP HB HS
  have HP := HP2
  have HB := HB2
  have HS := HS2
  clear HP2 HB2 HS2
  go_wp2_with fail
  go_ret
  exact ⟨rfl, HB.out⟩
end Go.Proofs.Ytlifldionfoddaa
