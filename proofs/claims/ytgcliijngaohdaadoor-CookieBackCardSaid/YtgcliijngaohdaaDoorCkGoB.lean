/-
  The program's own classes and sizes.
-/
import Derived.Test.YtgcliijngaohdaaDoorCkGoA
namespace Go.Proofs.YtgcliijngaohdaaDoor
set_option maxRecDepth 10000
open Go.RowKit
set_option linter.unusedSimpArgs false
set_option linter.unusedVariables false

set_option maxHeartbeats 1000000 in
theorem sizef17 : SizeF17 := by
  intro c n e w hn he hsz
  have hs := szE_cases c
  by_cases hc : 0 ≤ c ∧ c ≤ 7
  · obtain ⟨j, rfl⟩ := Int.eq_ofNat_of_zero_le hc.1
    obtain rfl : e = 0 := by omega
    have hcell := hsz.2 j (by omega)
    rw [hn] at hcell
    have g1 : ¬ ((j : Int) < 0) := by omega
    have g2 : ¬ ((8 : Int) ≤ (j : Int)) := by omega
    have g3 : ((j : Int) < 8) := by omega
    have g4 : (0 : Int) ≤ (j : Int) := by omega
    clear hn he hsz hs hc
    go_enter Tryd.func11, Tryd.ntmps11
    go_wp2_with fail
    go_ret2
    exact ⟨rfl, Below.refl _ _⟩
  · have hx : e = 1 ∧ n = 0 := by omega
    obtain ⟨rfl, rfl⟩ := hx
    clear hn he hsz hs
    by_cases h : c < 0
    · go_enter Tryd.func11, Tryd.ntmps11
      go_wp2_with fail
      go_ret2
      exact ⟨rfl, Below.refl _ _⟩
    · have g2 : (8 : Int) ≤ c := by omega
      go_enter Tryd.func11, Tryd.ntmps11
      go_wp2_with fail
      go_ret2
      exact ⟨rfl, Below.refl _ _⟩

set_option maxHeartbeats 1000000 in
theorem classf17 : ClassF17 := by
  intro m i b w hm hi hb hsz
  have Hi := Lib.hid hi
  have Hb := Lib.hid hb
  have HZ := Lib.hid hsz.2
  clear hi hb hsz
  go_enter Tryd.func9, Tryd.ntmps9
  go_wp2_with fail
  go_loopg [4] 8 (fun gk x wr => Hid (gk ≤ 8) ∧ x = .int .i64 ((gk : Int) - 1) ∧ Hid (∀ c : Int, (gk : Int) ≤ c → c ≤ 7 → m < szC c) ∧ wr = w)
  case atStart => exact ⟨Lib.hid (Nat.le_refl _), rfl, Lib.hid (fun c h1 h2 => by omega), rfl⟩
  case round =>
    obtain ⟨hgk, rfl, hno, rfl⟩ := hrel
    by_cases h0 : gk = 0
    · subst h0
      obtain ⟨e1, e2⟩ := cls_none (hno.out 0 (by omega) (by omega))
      rw [Hi.out] at e1
      rw [Hb.out] at e2
      subst e1
      subst e2
      go_wp2_with fail
      go_ret2
      exact ⟨rfl, Below.refl _ _⟩
    · obtain ⟨j, rfl⟩ : ∃ j, gk = j + 1 := ⟨gk - 1, by omega⟩
      have hj : j ≤ 7 := by have := hgk.out; omega
      rw [show ((j + 1 : Nat) : Int) - 1 = (j : Int) by omega]
      obtain ⟨n, en⟩ : ∃ n, szC (j : Int) = n := ⟨_, rfl⟩
      have hcell := HZ.out j (by omega)
      rw [en] at hcell
      have En := Lib.hid en
      have Hj := Lib.hid hj
      have hge : (0 : Int) ≤ (j : Int) := by omega
      have hge3 : ((j : Int) < 8) := by omega
      clear h0 en hj
      by_cases hn : n ≤ m
      · obtain ⟨e1, e2⟩ := cls_when (m := m) (i := (j : Int)) ⟨by omega, by have := Hj.out; omega⟩ (by rw [En.out]; exact hn) (fun c h1 h2 => hno.out c (by omega) h2)
        rw [Hi.out] at e1
        rw [Hb.out] at e2
        subst e1
        subst e2
        go_wp2_with fail
        go_ret2
        exact ⟨rfl, Below.refl _ _⟩
      · have hw : wrap64 ((j : Int) - 1) = (j : Int) - 1 := IntWalk.wrap64_in _ (by have := Hj.out; omega)
        have Hn := Lib.hid hn
        have hn2 : ¬ n ≤ m := hn
        clear hn
        go_wp2_with fail
        go_roundg j
        case measure => omega
        case rel =>
          refine ⟨Lib.hid (by have := Hj.out; omega), rfl, Lib.hid (fun c h1 h2 => ?_), rfl⟩
          by_cases hc : c = (j : Int)
          · subst hc; rw [En.out]; have := Hn.out; omega
          · exact hno.out c (by omega) h2
/-- What is said, as bits. -/
theorem or16_nat : ∀ c : Nat, c < 8 → ∀ s : Nat, s < 16 → bits .or .u32 ((c * 32 + s : Nat) : Int) 16 = ((c * 32 + 16 + s : Nat) : Int) := by decide +kernel
theorem or5_nat : ∀ c : Nat, c < 8 → ∀ s : Nat, s < 16 → bits .or .u32 ((c * 32 : Nat) : Int) (s : Int) = ((c * 32 + s : Nat) : Int) := by decide +kernel
theorem or_enc (c s : Int) (hc : 0 ≤ c ∧ c ≤ 7) (hs : 0 ≤ s ∧ s ≤ 15) : bits .or .u32 (c * 32) s = c * 32 + s ∧ bits .or .u32 (c * 32 + s) 16 = c * 32 + 16 + s := by
  obtain ⟨a, rfl⟩ := Int.eq_ofNat_of_zero_le hc.1
  obtain ⟨b, rfl⟩ := Int.eq_ofNat_of_zero_le hs.1
  have h1 := or5_nat a (by omega) b (by omega)
  have h2 := or16_nat a (by omega) b (by omega)
  exact ⟨by simpa using h1, by simpa using h2⟩
set_option maxHeartbeats 1000000 in
theorem bits17_any (c : Int) (k : Bool) (s : Int) (w : World) (hm : mayC c s) :
    Calls Tryd.prog 22 #[.agg #[.int .i64 c, .bool k, .int .i64 s]] w (TellsC (.int .u32 (encC c k s)) w) := by
  obtain ⟨z, hz⟩ : ∃ z, w.heap.size = z := ⟨_, rfl⟩
  obtain ⟨w0, ew⟩ : ∃ v, w.alloc (.cells #[.int .i64 c, .bool k, .int .i64 s] 30) = v := ⟨_, rfl⟩
  have hb0 : Below w.heap.size w w0 := by rw [← ew]; exact (Below.refl _ _).alloc (Nat.le_refl _) _
  have hk0 : w0.heap[z]? = some (.cells #[.int .i64 c, .bool k, .int .i64 s] 30 (0, 0)) := by rw [← ew, ← hz]; exact heap_alloc_new w _
  obtain ⟨i0, i1, i2⟩ := cells3C hk0
  obtain ⟨⟨a1, a2⟩, ⟨a3, a4⟩⟩ := hm
  have q1 : IntKind.u32.wrap c = c := by rw [IntKind.wrap_u32]; omega
  have q2 : IntKind.u32.wrap (c * 32) = c * 32 := by rw [IntKind.wrap_u32]; omega
  have Ew := Lib.hid ew
  have Hz := Lib.hid hz
  have HB := Lib.hid hb0
  by_cases hs : s = -1
  · subst hs
    obtain ⟨o1, o2⟩ := or_enc c 15 ⟨a1, a2⟩ ⟨by omega, by omega⟩
    have En := Lib.hid (show encC c k (-1) = if k then c * 32 + 16 + 15 else c * 32 + 15 by unfold encC; cases k <;> simp)
    clear a1 a2 a3 a4 ew hz hb0 hk0
    cases k
    · skip
      go_enter Tryd.func22, Tryd.ntmps22
      go_upto_region 1 with (fail)
      rw [Ew.out]
      try rw [Hz.out]
      go_wp2_with fail
      go_ret
      exact ⟨by rw [En.out]; rfl, HB.out⟩
    · skip
      go_enter Tryd.func22, Tryd.ntmps22
      go_upto_region 1 with (fail)
      rw [Ew.out]
      try rw [Hz.out]
      go_wp2_with fail
      go_ret
      exact ⟨by rw [En.out]; rfl, HB.out⟩
  · have h0 : ¬ s < 0 := by omega
    obtain ⟨o1, o2⟩ := or_enc c s ⟨a1, a2⟩ ⟨by omega, by omega⟩
    have q3 : IntKind.u32.wrap s = s := by rw [IntKind.wrap_u32]; omega
    have En := Lib.hid (show encC c k s = if k then c * 32 + 16 + s else c * 32 + s by unfold encC; rw [if_neg hs]; cases k <;> simp)
    clear a1 a2 a3 a4 ew hz hb0 hk0 hs
    cases k
    · skip
      go_enter Tryd.func22, Tryd.ntmps22
      go_upto_region 1 with (fail)
      rw [Ew.out]
      try rw [Hz.out]
      go_wp2_with fail
      go_ret
      exact ⟨by rw [En.out]; rfl, HB.out⟩
    · skip
      go_enter Tryd.func22, Tryd.ntmps22
      go_upto_region 1 with (fail)
      rw [Ew.out]
      try rw [Hz.out]
      go_wp2_with fail
      go_ret
      exact ⟨by rw [En.out]; rfl, HB.out⟩
end Go.Proofs.YtgcliijngaohdaaDoor
