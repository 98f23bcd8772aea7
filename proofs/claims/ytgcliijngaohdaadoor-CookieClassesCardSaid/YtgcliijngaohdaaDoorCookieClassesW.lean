/-
  CookieClasses' walk, over the face.
-/
import Derived.Test.YtgcliijngaohdaaDoorCkFace
namespace Go.Proofs.YtgcliijngaohdaaDoor.cookieClassesW
set_option maxRecDepth 10000
open Go.RowKit
set_option linter.unusedVariables false
set_option linter.unusedSimpArgs false

set_option maxHeartbeats 4000000 in
theorem walk (fc : ClassF17) (fs : SizeF17) (fm : MakeF17) (w : World) (m c : Int) (hm : 0 ≤ m ∧ m < 65536) (hc : -9223372036854775808 ≤ c ∧ c ≤ 9223372036854775807) (hsz : SzW w) :
    Calls Tryd.prog 6 #[.int .u16 m, .int .i64 c] w fun e w' => e = .returned (.bool true) ∧ Below w.heap.size w w' := by
  have HLw := Lib.hid (Below.refl w.heap.size w)
  have HZ := Lib.hid (fun W (hW : Below w.heap.size w W) => hsz.on hW)
  clear hsz
  have A1 := Lib.hid (fun W => awake17_any fc fm W)
  have fcl := Lib.hid fc
  have fsz := Lib.hid fs
  have hcs : c < 0 ∨ (¬ c < 0 ∧ 7 < c) ∨ c = 0 ∨ (0 < c ∧ c ≤ 7) := by omega
  obtain ⟨i, ei⟩ : ∃ x, clsI m = x := ⟨_, rfl⟩
  have hi := cls_bd m
  have hcl := cls_size m hm.1
  rw [ei] at hi hcl
  have S1 := Lib.hid (fun W => fs i (szC i) 0 W rfl (by unfold szE; rw [if_pos hi]))
  have q1 : wrap64 (i + 1) = i + 1 := IntWalk.wrap64_in _ (by omega)
  cases eb : clsB m with
  | true =>
    obtain ⟨h1, h2⟩ := hcl.1 eb
    have C1 := Lib.hid (fun W => fc m i true W hm ei eb)
    obtain ⟨n, en⟩ : ∃ x, szC i = x := ⟨_, rfl⟩
    rw [en] at h1 S1
    have p1 : ¬ m < n := by omega
    by_cases h7 : i < 7
    · have h2 := h2 h7
      obtain ⟨n2, en2⟩ : ∃ x, szC (i + 1) = x := ⟨_, rfl⟩
      rw [en2] at h2
      have p2 : ¬ n2 ≤ m := by omega
      have S2 := Lib.hid (fun W => fs (i + 1) n2 0 W en2 (by unfold szE; rw [if_pos ⟨by omega, by omega⟩]))
      clear hcl h1 h2 en en2 ei eb hi hm hc fc fs fm h7
      go_enter Tryd.func6, Tryd.ntmps6
      go_wp2_with fail
      refine (C1.out _ (HZ.out _ HLw.out)).mono ?_
      rintro e w1 ⟨rfl, hb⟩
      have HLw1 := Lib.hid (below_trans HLw.out hb)
      clear hb
      go_wp2_with fail
      refine (S1.out _ (HZ.out _ HLw1.out)).mono ?_
      rintro e w2 ⟨rfl, hb⟩
      have HLw2 := Lib.hid (below_trans HLw1.out hb)
      clear hb
      go_wp2_with fail
      refine (S2.out _ (HZ.out _ HLw2.out)).mono ?_
      rintro e w3 ⟨rfl, hb⟩
      have HLw3 := Lib.hid (below_trans HLw2.out hb)
      clear hb
      clear C1 S1 S2
      rcases hcs with h | ⟨h0, h⟩ | h | ⟨h0, h⟩
      · obtain ⟨k1, ek⟩ : ∃ x, szC c = x := ⟨_, rfl⟩
        have hs := szE_cases c
        obtain rfl : k1 = 0 := by omega
        have S3 := Lib.hid (fun W => fsz.out c 0 1 W ek (by omega))
        clear hs ek
        go_wp2_with fail
        refine (S3.out _ (HZ.out _ HLw3.out)).mono ?_
        rintro e y1 ⟨rfl, hb⟩
        have HLy1 := Lib.hid (below_trans HLw3.out hb)
        clear hb
        go_wp2_with fail
        refine (A1.out _ (HZ.out _ HLy1.out)).mono ?_
        rintro e y2 ⟨rfl, hb⟩
        have HLy2 := Lib.hid (below_trans HLy1.out hb)
        clear hb
        go_wp2_with fail
        go_ret
        exact ⟨rfl, HLy2.out⟩
      · obtain ⟨k1, ek⟩ : ∃ x, szC c = x := ⟨_, rfl⟩
        have hs := szE_cases c
        obtain rfl : k1 = 0 := by omega
        have S3 := Lib.hid (fun W => fsz.out c 0 1 W ek (by omega))
        clear hs ek
        go_wp2_with fail
        refine (S3.out _ (HZ.out _ HLw3.out)).mono ?_
        rintro e y1 ⟨rfl, hb⟩
        have HLy1 := Lib.hid (below_trans HLw3.out hb)
        clear hb
        go_wp2_with fail
        refine (A1.out _ (HZ.out _ HLy1.out)).mono ?_
        rintro e y2 ⟨rfl, hb⟩
        have HLy2 := Lib.hid (below_trans HLy1.out hb)
        clear hb
        go_wp2_with fail
        go_ret
        exact ⟨rfl, HLy2.out⟩
      · subst h
        have S3 := Lib.hid (fun W => fsz.out 0 88 0 W (by decide) (by decide))
        have C2 := Lib.hid (fun W => fcl.out 88 0 true W (by decide) (by decide) (by decide))
        have C3 := Lib.hid (fun W => fcl.out 87 0 false W (by decide) (by decide) (by decide))
        go_wp2_with fail
        refine (S3.out _ (HZ.out _ HLw3.out)).mono ?_
        rintro e y1 ⟨rfl, hb⟩
        have HLy1 := Lib.hid (below_trans HLw3.out hb)
        clear hb
        go_wp2_with fail
        refine (C2.out _ (HZ.out _ HLy1.out)).mono ?_
        rintro e y2 ⟨rfl, hb⟩
        have HLy2 := Lib.hid (below_trans HLy1.out hb)
        clear hb
        go_wp2_with fail
        refine (C3.out _ (HZ.out _ HLy2.out)).mono ?_
        rintro e y3 ⟨rfl, hb⟩
        have HLy3 := Lib.hid (below_trans HLy2.out hb)
        clear hb
        go_wp2_with fail
        refine (A1.out _ (HZ.out _ HLy3.out)).mono ?_
        rintro e y4 ⟨rfl, hb⟩
        have HLy4 := Lib.hid (below_trans HLy3.out hb)
        clear hb
        go_wp2_with fail
        go_ret
        exact ⟨rfl, HLy4.out⟩
      · obtain ⟨k1, ek⟩ : ∃ x, szC c = x := ⟨_, rfl⟩
        obtain ⟨e1, e2, e3, e4, e5, e6⟩ := size_cls c ⟨by omega, h⟩
        have e4 := e4 h0
        rw [ek] at e1 e2 e3 e4 e5 e6
        rw [decide_eq_true h0] at e3
        have hE : szE c = 0 := by unfold szE; rw [if_pos ⟨by omega, h⟩]
        have S3 := Lib.hid (fun W => fsz.out c k1 0 W ek hE)
        have C2 := Lib.hid (fun W => fcl.out k1 c true W ⟨by omega, by omega⟩ e1 e2)
        have C3 := Lib.hid (fun W => fcl.out (k1 - 1) (c - 1) true W ⟨by omega, by omega⟩ e4 e3)
        have v1 : IntKind.u16.wrap (k1 - 1) = k1 - 1 := by simp [IntKind.wrap, IntKind.bits, IntKind.signed]; omega
        have v2 : wrap64 (c - 1) = c - 1 := IntWalk.wrap64_in _ (by omega)
        have v3 : ¬ c < 0 := by omega
        have v4 : ¬ 7 < c := by omega
        have v5 : (c == 0) = false := by simp; omega
        clear e1 e2 e3 e4 e5 e6 hE ek
        go_wp2_with fail
        refine (S3.out _ (HZ.out _ HLw3.out)).mono ?_
        rintro e y1 ⟨rfl, hb⟩
        have HLy1 := Lib.hid (below_trans HLw3.out hb)
        clear hb
        go_wp2_with fail
        refine (C2.out _ (HZ.out _ HLy1.out)).mono ?_
        rintro e y2 ⟨rfl, hb⟩
        have HLy2 := Lib.hid (below_trans HLy1.out hb)
        clear hb
        go_wp2_with fail
        refine (C3.out _ (HZ.out _ HLy2.out)).mono ?_
        rintro e y3 ⟨rfl, hb⟩
        have HLy3 := Lib.hid (below_trans HLy2.out hb)
        clear hb
        go_wp2_with fail
        refine (A1.out _ (HZ.out _ HLy3.out)).mono ?_
        rintro e y4 ⟨rfl, hb⟩
        have HLy4 := Lib.hid (below_trans HLy3.out hb)
        clear hb
        go_wp2_with fail
        go_ret
        exact ⟨rfl, HLy4.out⟩
    · obtain rfl : i = 7 := by omega
      have S2 := Lib.hid (fun W => fs 8 0 1 W (by decide) (by decide))
      clear hcl h1 h2 en ei eb hi hm hc fc fs fm h7
      go_enter Tryd.func6, Tryd.ntmps6
      go_wp2_with fail
      refine (C1.out _ (HZ.out _ HLw.out)).mono ?_
      rintro e w1 ⟨rfl, hb⟩
      have HLw1 := Lib.hid (below_trans HLw.out hb)
      clear hb
      go_wp2_with fail
      refine (S1.out _ (HZ.out _ HLw1.out)).mono ?_
      rintro e w2 ⟨rfl, hb⟩
      have HLw2 := Lib.hid (below_trans HLw1.out hb)
      clear hb
      go_wp2_with fail
      refine (S2.out _ (HZ.out _ HLw2.out)).mono ?_
      rintro e w3 ⟨rfl, hb⟩
      have HLw3 := Lib.hid (below_trans HLw2.out hb)
      clear hb
      clear C1 S1 S2
      rcases hcs with h | ⟨h0, h⟩ | h | ⟨h0, h⟩
      · obtain ⟨k1, ek⟩ : ∃ x, szC c = x := ⟨_, rfl⟩
        have hs := szE_cases c
        obtain rfl : k1 = 0 := by omega
        have S3 := Lib.hid (fun W => fsz.out c 0 1 W ek (by omega))
        clear hs ek
        go_wp2_with fail
        refine (S3.out _ (HZ.out _ HLw3.out)).mono ?_
        rintro e y1 ⟨rfl, hb⟩
        have HLy1 := Lib.hid (below_trans HLw3.out hb)
        clear hb
        go_wp2_with fail
        refine (A1.out _ (HZ.out _ HLy1.out)).mono ?_
        rintro e y2 ⟨rfl, hb⟩
        have HLy2 := Lib.hid (below_trans HLy1.out hb)
        clear hb
        go_wp2_with fail
        go_ret
        exact ⟨rfl, HLy2.out⟩
      · obtain ⟨k1, ek⟩ : ∃ x, szC c = x := ⟨_, rfl⟩
        have hs := szE_cases c
        obtain rfl : k1 = 0 := by omega
        have S3 := Lib.hid (fun W => fsz.out c 0 1 W ek (by omega))
        clear hs ek
        go_wp2_with fail
        refine (S3.out _ (HZ.out _ HLw3.out)).mono ?_
        rintro e y1 ⟨rfl, hb⟩
        have HLy1 := Lib.hid (below_trans HLw3.out hb)
        clear hb
        go_wp2_with fail
        refine (A1.out _ (HZ.out _ HLy1.out)).mono ?_
        rintro e y2 ⟨rfl, hb⟩
        have HLy2 := Lib.hid (below_trans HLy1.out hb)
        clear hb
        go_wp2_with fail
        go_ret
        exact ⟨rfl, HLy2.out⟩
      · subst h
        have S3 := Lib.hid (fun W => fsz.out 0 88 0 W (by decide) (by decide))
        have C2 := Lib.hid (fun W => fcl.out 88 0 true W (by decide) (by decide) (by decide))
        have C3 := Lib.hid (fun W => fcl.out 87 0 false W (by decide) (by decide) (by decide))
        go_wp2_with fail
        refine (S3.out _ (HZ.out _ HLw3.out)).mono ?_
        rintro e y1 ⟨rfl, hb⟩
        have HLy1 := Lib.hid (below_trans HLw3.out hb)
        clear hb
        go_wp2_with fail
        refine (C2.out _ (HZ.out _ HLy1.out)).mono ?_
        rintro e y2 ⟨rfl, hb⟩
        have HLy2 := Lib.hid (below_trans HLy1.out hb)
        clear hb
        go_wp2_with fail
        refine (C3.out _ (HZ.out _ HLy2.out)).mono ?_
        rintro e y3 ⟨rfl, hb⟩
        have HLy3 := Lib.hid (below_trans HLy2.out hb)
        clear hb
        go_wp2_with fail
        refine (A1.out _ (HZ.out _ HLy3.out)).mono ?_
        rintro e y4 ⟨rfl, hb⟩
        have HLy4 := Lib.hid (below_trans HLy3.out hb)
        clear hb
        go_wp2_with fail
        go_ret
        exact ⟨rfl, HLy4.out⟩
      · obtain ⟨k1, ek⟩ : ∃ x, szC c = x := ⟨_, rfl⟩
        obtain ⟨e1, e2, e3, e4, e5, e6⟩ := size_cls c ⟨by omega, h⟩
        have e4 := e4 h0
        rw [ek] at e1 e2 e3 e4 e5 e6
        rw [decide_eq_true h0] at e3
        have hE : szE c = 0 := by unfold szE; rw [if_pos ⟨by omega, h⟩]
        have S3 := Lib.hid (fun W => fsz.out c k1 0 W ek hE)
        have C2 := Lib.hid (fun W => fcl.out k1 c true W ⟨by omega, by omega⟩ e1 e2)
        have C3 := Lib.hid (fun W => fcl.out (k1 - 1) (c - 1) true W ⟨by omega, by omega⟩ e4 e3)
        have v1 : IntKind.u16.wrap (k1 - 1) = k1 - 1 := by simp [IntKind.wrap, IntKind.bits, IntKind.signed]; omega
        have v2 : wrap64 (c - 1) = c - 1 := IntWalk.wrap64_in _ (by omega)
        have v3 : ¬ c < 0 := by omega
        have v4 : ¬ 7 < c := by omega
        have v5 : (c == 0) = false := by simp; omega
        clear e1 e2 e3 e4 e5 e6 hE ek
        go_wp2_with fail
        refine (S3.out _ (HZ.out _ HLw3.out)).mono ?_
        rintro e y1 ⟨rfl, hb⟩
        have HLy1 := Lib.hid (below_trans HLw3.out hb)
        clear hb
        go_wp2_with fail
        refine (C2.out _ (HZ.out _ HLy1.out)).mono ?_
        rintro e y2 ⟨rfl, hb⟩
        have HLy2 := Lib.hid (below_trans HLy1.out hb)
        clear hb
        go_wp2_with fail
        refine (C3.out _ (HZ.out _ HLy2.out)).mono ?_
        rintro e y3 ⟨rfl, hb⟩
        have HLy3 := Lib.hid (below_trans HLy2.out hb)
        clear hb
        go_wp2_with fail
        refine (A1.out _ (HZ.out _ HLy3.out)).mono ?_
        rintro e y4 ⟨rfl, hb⟩
        have HLy4 := Lib.hid (below_trans HLy3.out hb)
        clear hb
        go_wp2_with fail
        go_ret
        exact ⟨rfl, HLy4.out⟩
  | false =>
    obtain ⟨rfl, h88⟩ := hcl.2 eb
    have C1 := Lib.hid (fun W => fc m 0 false W hm ei eb)
    have S2 := Lib.hid (fun W => fs 1 216 0 W (by decide) (by decide))
    have p3 : ¬ 88 ≤ m := by omega
    clear hcl ei eb hi hm hc fc fs fm h88
    go_enter Tryd.func6, Tryd.ntmps6
    go_wp2_with fail
    refine (C1.out _ (HZ.out _ HLw.out)).mono ?_
    rintro e w1 ⟨rfl, hb⟩
    have HLw1 := Lib.hid (below_trans HLw.out hb)
    clear hb
    go_wp2_with fail
    refine (S1.out _ (HZ.out _ HLw1.out)).mono ?_
    rintro e w2 ⟨rfl, hb⟩
    have HLw2 := Lib.hid (below_trans HLw1.out hb)
    clear hb
    go_wp2_with fail
    refine (S2.out _ (HZ.out _ HLw2.out)).mono ?_
    rintro e w3 ⟨rfl, hb⟩
    have HLw3 := Lib.hid (below_trans HLw2.out hb)
    clear hb
    clear C1 S1 S2
    rcases hcs with h | ⟨h0, h⟩ | h | ⟨h0, h⟩
    · obtain ⟨k1, ek⟩ : ∃ x, szC c = x := ⟨_, rfl⟩
      have hs := szE_cases c
      obtain rfl : k1 = 0 := by omega
      have S3 := Lib.hid (fun W => fsz.out c 0 1 W ek (by omega))
      clear hs ek
      go_wp2_with fail
      refine (S3.out _ (HZ.out _ HLw3.out)).mono ?_
      rintro e y1 ⟨rfl, hb⟩
      have HLy1 := Lib.hid (below_trans HLw3.out hb)
      clear hb
      go_wp2_with fail
      refine (A1.out _ (HZ.out _ HLy1.out)).mono ?_
      rintro e y2 ⟨rfl, hb⟩
      have HLy2 := Lib.hid (below_trans HLy1.out hb)
      clear hb
      go_wp2_with fail
      go_ret
      exact ⟨rfl, HLy2.out⟩
    · obtain ⟨k1, ek⟩ : ∃ x, szC c = x := ⟨_, rfl⟩
      have hs := szE_cases c
      obtain rfl : k1 = 0 := by omega
      have S3 := Lib.hid (fun W => fsz.out c 0 1 W ek (by omega))
      clear hs ek
      go_wp2_with fail
      refine (S3.out _ (HZ.out _ HLw3.out)).mono ?_
      rintro e y1 ⟨rfl, hb⟩
      have HLy1 := Lib.hid (below_trans HLw3.out hb)
      clear hb
      go_wp2_with fail
      refine (A1.out _ (HZ.out _ HLy1.out)).mono ?_
      rintro e y2 ⟨rfl, hb⟩
      have HLy2 := Lib.hid (below_trans HLy1.out hb)
      clear hb
      go_wp2_with fail
      go_ret
      exact ⟨rfl, HLy2.out⟩
    · subst h
      have S3 := Lib.hid (fun W => fsz.out 0 88 0 W (by decide) (by decide))
      have C2 := Lib.hid (fun W => fcl.out 88 0 true W (by decide) (by decide) (by decide))
      have C3 := Lib.hid (fun W => fcl.out 87 0 false W (by decide) (by decide) (by decide))
      go_wp2_with fail
      refine (S3.out _ (HZ.out _ HLw3.out)).mono ?_
      rintro e y1 ⟨rfl, hb⟩
      have HLy1 := Lib.hid (below_trans HLw3.out hb)
      clear hb
      go_wp2_with fail
      refine (C2.out _ (HZ.out _ HLy1.out)).mono ?_
      rintro e y2 ⟨rfl, hb⟩
      have HLy2 := Lib.hid (below_trans HLy1.out hb)
      clear hb
      go_wp2_with fail
      refine (C3.out _ (HZ.out _ HLy2.out)).mono ?_
      rintro e y3 ⟨rfl, hb⟩
      have HLy3 := Lib.hid (below_trans HLy2.out hb)
      clear hb
      go_wp2_with fail
      refine (A1.out _ (HZ.out _ HLy3.out)).mono ?_
      rintro e y4 ⟨rfl, hb⟩
      have HLy4 := Lib.hid (below_trans HLy3.out hb)
      clear hb
      go_wp2_with fail
      go_ret
      exact ⟨rfl, HLy4.out⟩
    · obtain ⟨k1, ek⟩ : ∃ x, szC c = x := ⟨_, rfl⟩
      obtain ⟨e1, e2, e3, e4, e5, e6⟩ := size_cls c ⟨by omega, h⟩
      have e4 := e4 h0
      rw [ek] at e1 e2 e3 e4 e5 e6
      rw [decide_eq_true h0] at e3
      have hE : szE c = 0 := by unfold szE; rw [if_pos ⟨by omega, h⟩]
      have S3 := Lib.hid (fun W => fsz.out c k1 0 W ek hE)
      have C2 := Lib.hid (fun W => fcl.out k1 c true W ⟨by omega, by omega⟩ e1 e2)
      have C3 := Lib.hid (fun W => fcl.out (k1 - 1) (c - 1) true W ⟨by omega, by omega⟩ e4 e3)
      have v1 : IntKind.u16.wrap (k1 - 1) = k1 - 1 := by simp [IntKind.wrap, IntKind.bits, IntKind.signed]; omega
      have v2 : wrap64 (c - 1) = c - 1 := IntWalk.wrap64_in _ (by omega)
      have v3 : ¬ c < 0 := by omega
      have v4 : ¬ 7 < c := by omega
      have v5 : (c == 0) = false := by simp; omega
      clear e1 e2 e3 e4 e5 e6 hE ek
      go_wp2_with fail
      refine (S3.out _ (HZ.out _ HLw3.out)).mono ?_
      rintro e y1 ⟨rfl, hb⟩
      have HLy1 := Lib.hid (below_trans HLw3.out hb)
      clear hb
      go_wp2_with fail
      refine (C2.out _ (HZ.out _ HLy1.out)).mono ?_
      rintro e y2 ⟨rfl, hb⟩
      have HLy2 := Lib.hid (below_trans HLy1.out hb)
      clear hb
      go_wp2_with fail
      refine (C3.out _ (HZ.out _ HLy2.out)).mono ?_
      rintro e y3 ⟨rfl, hb⟩
      have HLy3 := Lib.hid (below_trans HLy2.out hb)
      clear hb
      go_wp2_with fail
      refine (A1.out _ (HZ.out _ HLy3.out)).mono ?_
      rintro e y4 ⟨rfl, hb⟩
      have HLy4 := Lib.hid (below_trans HLy3.out hb)
      clear hb
      go_wp2_with fail
      go_ret
      exact ⟨rfl, HLy4.out⟩
end Go.Proofs.YtgcliijngaohdaaDoor.cookieClassesW
