/-
  CookieKnown's walk, over the face (closed).
-/
import Derived.Test.YtgcliijngaohdaaDoorCkFace
namespace Go.Proofs.YtgcliijngaohdaaDoor.cookieKnownW
set_option maxRecDepth 10000
open Go.RowKit
set_option linter.unusedVariables false
set_option linter.unusedSimpArgs false

theorem hash0 : hashC 0 ⟨0, 0, 0, 0, 0⟩ 0 0 = 0 := by decide +kernel
set_option maxHeartbeats 4000000 in
theorem walk (fc : ClassF17) (fh : HashF17) (fm : MakeF17) (w : World) (hsz : SzW w) :
    Calls Tryd.prog 8 #[] w fun e w' => e = .returned (.bool true) ∧ Below w.heap.size w w' := by
  have HL := Lib.hid (Below.refl w.heap.size w)
  have HZ := Lib.hid (fun W (hW : Below w.heap.size w W) => hsz.on hW)
  clear hsz
  have A1 := Lib.hid (fun W => awake17_any fc fm W)
  have ht : TuNum ⟨0, 0, 0, 0, 0⟩ := ⟨by simp, by simp, by simp, by simp, by simp⟩
  have z : U64C 0 := ⟨by decide, by decide⟩
  have M := Lib.hid (fun (c s y e : Int) (W : World) (hi : InfoN c s) (hy : makeV 0 ⟨0, 0, 0, 0, 0⟩ 0 0 c false s = y) (he : makeE c s = e) => fm 0 ⟨0, 0, 0, 0, 0⟩ 0 0 c false s y e W z ht (by decide) z hi hy he)
  have H1 := Lib.hid (fun W => fh 0 ⟨0, 0, 0, 0, 0⟩ 0 0 0 W z ht (by decide) z hash0)
  have h15 : makeV 0 ⟨0, 0, 0, 0, 0⟩ 0 0 0 false (-1) = 15 := by
    unfold makeV hiC
    rw [if_pos (by decide), show (0 : Int) / 64 = 0 by decide, hash0]
    decide
  have Fc := Lib.hid fc
  have H15 := Lib.hid h15
  clear fc fh fm ht z h15
  go_enter Tryd.func8, Tryd.ntmps8
  go_wp2_with fail
  refine (M.out 8 0 0 1 _ ⟨by decide, by decide⟩ (by unfold makeV; rw [if_neg (by decide)]) (by decide) (HZ.out _ HL.out)).mono ?_
  rintro e w1 ⟨rfl, hb⟩
  have HL := Lib.hid (below_trans HL.out hb)
  clear hb
  go_wp2_with fail
  refine (M.out (-1) 0 0 1 _ ⟨by decide, by decide⟩ (by unfold makeV; rw [if_neg (by decide)]) (by decide) (HZ.out _ HL.out)).mono ?_
  rintro e w2 ⟨rfl, hb⟩
  have HL := Lib.hid (below_trans HL.out hb)
  clear hb
  go_wp2_with fail
  refine (M.out 0 15 0 1 _ ⟨by decide, by decide⟩ (by unfold makeV; rw [if_neg (by decide)]) (by decide) (HZ.out _ HL.out)).mono ?_
  rintro e w3 ⟨rfl, hb⟩
  have HL := Lib.hid (below_trans HL.out hb)
  clear hb
  go_wp2_with fail
  refine (M.out 0 (-2) 0 1 _ ⟨by decide, by decide⟩ (by unfold makeV; rw [if_neg (by decide)]) (by decide) (HZ.out _ HL.out)).mono ?_
  rintro e w4 ⟨rfl, hb⟩
  have HL := Lib.hid (below_trans HL.out hb)
  clear hb
  go_wp2_with fail
  refine (M.out 0 (-1) 15 0 _ ⟨by decide, by decide⟩ H15.out (by decide) (HZ.out _ HL.out)).mono ?_
  rintro e w5 ⟨rfl, hb⟩
  have HL := Lib.hid (below_trans HL.out hb)
  clear hb
  go_wp2_with fail
  refine (Fc.out 536 2 true _ (by decide) (by decide) (by decide) (HZ.out _ HL.out)).mono ?_
  rintro e w6 ⟨rfl, hb⟩
  have HL := Lib.hid (below_trans HL.out hb)
  clear hb
  go_wp2_with fail
  refine (Fc.out 65535 7 true _ (by decide) (by decide) (by decide) (HZ.out _ HL.out)).mono ?_
  rintro e w7 ⟨rfl, hb⟩
  have HL := Lib.hid (below_trans HL.out hb)
  clear hb
  go_wp2_with fail
  refine (A1.out _ (HZ.out _ HL.out)).mono ?_
  rintro e w8 ⟨rfl, hb⟩
  have HL := Lib.hid (below_trans HL.out hb)
  clear hb
  go_wp2_with fail
  refine (H1.out _).mono ?_
  rintro e w9 ⟨rfl, hb⟩
  have HL := Lib.hid (below_trans HL.out hb)
  clear hb
  go_wp2_with fail
  go_ret
  exact ⟨rfl, HL.out⟩
end Go.Proofs.YtgcliijngaohdaaDoor.cookieKnownW
