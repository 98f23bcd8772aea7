/-
  Texts laid together: IcmpAsk, IcmpPut, IcmpParse, IcmpBoth.
-/
import Derived.Test.YtoegfgbalcholaaZD22
import Derived.Test.YtoegfgbalcholaaZD08
import Derived.Test.YtoegfgbalcholaaZD04
import Derived.RegionTactic
import Derived.Test.YtoegfgbalcholaaZD01
import Derived.BigRegion
import Derived.Deep.DeepCutAuto
import Derived.Deep.CutRange
import Derived.Deep.RegionHeld3
import Derived.Test.YtoegfgbalcholaaZD10
import Derived.Test.YtoegfgbalcholaaZD02

/-
  The contracts of package icmp's Echo, WithId, Exceeded, Same; of bytes.Clone of any slice.
-/
namespace Go.Proofs.Ytoegfgbalcholaa
set_option maxRecDepth 10000
open Go.RowKit
set_option linter.unusedSimpArgs false
set_option linter.unusedVariables false

theorem bclone_all (A : Option Addr) (n c : Nat) (l : List Int) (w : World) (hn : n ≤ 140737488355328) (h : Rd w A n l) :
    Calls Try.prog 26 #[.slice A n c] w (RowIs n l w) := by
  have hnil : ∀ W : World, (binOp .eql 22 (.slice A n c) (.slice none 0 0)).run Try.prog W = .ok (.bool A.isNone) W := fun W => Lib.run_eql_slice_nil W _ _ A n c 0 0 Try.underlying22
  cases A with
  | none =>
    obtain rfl : n = 0 := by
      rcases Nat.eq_zero_or_pos n with h0 | h0
      · exact h0
      · obtain ⟨b, o, e, _⟩ := h.at_ h0; cases e
    have hl : l = [] := List.eq_nil_of_length_eq_zero h.len
    subst hl
    have Ho := Lib.hid (OwnB.nil w w.heap.size)
    clear h
    go_enter Try.func26, Try.ntmps26
    go_wp2_with fail
    go_ret
    exact ⟨none, 0, rfl, Nat.le_refl _, by simp [maxLen], Ho.out, Below.refl _ _⟩
  | some a =>
    have hb := (Below.refl w.heap.size w).alloc (Nat.le_refl _) (.cells #[] 5)
    have Ho := Lib.hid (OwnB.made (w := w.alloc (.cells #[] 5)) (B := w.heap.size) (g := w.heap.size) (cap := 0) (cur := #[]) (heap_alloc_new w _) (Nat.le_refl _) (by simp [maxLen]) rfl)
    have Hr := Lib.hid (h.below hb)
    have Hb := Lib.hid hb
    clear h hb
    go_enter Try.func26, Try.ntmps26
    go_wp2_with (refine wpList_app rfl (.tmp 5) (.tmp 6) rfl w.heap.size (some ⟨w.heap.size, 0, none⟩) (some a) 0 0 n c [] l rfl rfl Ho.out Hr.out (by omega) (by simp) ?_; intro A2 c2 w2 hown2 _ hb2 _)
    go_ret
    have h2 := hown2
    rw [Nat.zero_add, List.nil_append] at h2
    exact ⟨A2, c2, by simp, h2.cap, h2.capMax, h2, Hb.out.trans hb2⟩

theorem echo8_any (ty cd rs : Int) (A : Option Addr) (n c : Nat) (w : World) (hr : 0 ≤ rs ∧ rs < 4294967296) :
    Calls Try.prog 17 #[.agg #[.int .u8 ty, .int .u8 cd, .int .u32 rs, .slice A n c]] w (EchoIs ty cd rs w) := by
  obtain ⟨z, hz⟩ : ∃ z, w.heap.size = z := ⟨_, rfl⟩
  have hb0 := (Below.refl w.heap.size w).alloc (Nat.le_refl _) (.cells #[.int .u8 ty, .int .u8 cd, .int .u32 rs, .slice A n c] 50)
  have hk := heap_alloc_new w (.cells #[.int .u8 ty, .int .u8 cd, .int .u32 rs, .slice A n c] 50)
  rw [hz] at hk
  obtain ⟨x, ex⟩ : ∃ x, sortM ty cd = x := ⟨_, rfl⟩
  have Hs := Lib.hid (fun W => sort8_any ty cd rs A n c x W ex)
  have Hb := Lib.hid hb0
  have Hk := Lib.hid hk
  have hse := sort_echo ty cd
  rw [ex] at hse
  have hq1 : IntKind.u16.wrap (rs / 65536) = rs / 65536 := by (simp [IntKind.wrap, IntKind.bits, IntKind.signed] <;> omega)
  have hq2 : IntKind.u16.wrap rs = rs % 65536 := by (simp [IntKind.wrap, IntKind.bits, IntKind.signed] <;> omega)
  have hq5 : IntKind.u32.wrap (rs / 65536) = rs / 65536 := by (simp [IntKind.wrap, IntKind.bits, IntKind.signed] <;> omega)
  clear hb0 hk ex
  have Hr := Lib.hid hr
  rcases hse with ⟨he, hx⟩ | ⟨he, hx⟩
  · have He := Lib.hid he
    clear he
    rcases hx with rfl | rfl
    ·
      go_enter Try.func17, Try.ntmps17
      go_wp2_with fail
      refine (Hs.out _).mono ?_
      rintro e w1 ⟨rfl, hb1⟩
      have hk1 := blk_on Hk.out hb1
      obtain ⟨c0, c1, c2, c3⟩ := cells4 hk1
      have Hb1 := Lib.hid (below_trans Hb.out hb1)
      clear hb1 hk1
      go_wp2_with fail
      go_region
      go_wp2_with fail
      refine bodyPost_ret (v := .tuple #[.int .u16 (rs / 65536), .int .u16 (rs % 65536), .bool true]) (by simp [results, Try.results17, go_sem]) rfl ?_
      exact ⟨by rw [if_pos He.out], Hb1.out.drew⟩
    ·
      go_enter Try.func17, Try.ntmps17
      go_wp2_with fail
      refine (Hs.out _).mono ?_
      rintro e w1 ⟨rfl, hb1⟩
      have hk1 := blk_on Hk.out hb1
      obtain ⟨c0, c1, c2, c3⟩ := cells4 hk1
      have Hb1 := Lib.hid (below_trans Hb.out hb1)
      clear hb1 hk1
      go_wp2_with fail
      go_region
      go_wp2_with fail
      refine bodyPost_ret (v := .tuple #[.int .u16 (rs / 65536), .int .u16 (rs % 65536), .bool true]) (by simp [results, Try.results17, go_sem]) rfl ?_
      exact ⟨by rw [if_pos He.out], Hb1.out.drew⟩
  · have He := Lib.hid (show ¬ echoM ty cd = true by rw [he]; simp)
    clear he hr
    rcases hx with rfl | rfl
    ·
      go_enter Try.func17, Try.ntmps17
      go_wp2_with fail
      refine (Hs.out _).mono ?_
      rintro e w1 ⟨rfl, hb1⟩
      have Hb1 := Lib.hid (below_trans Hb.out hb1)
      clear hb1
      go_wp2_with fail
      refine bodyPost_ret (v := .tuple #[.int .u16 0, .int .u16 0, .bool false]) (by simp [results, Try.results17, go_sem]) rfl ?_
      exact ⟨by rw [if_neg He.out], Hb1.out⟩
    ·
      go_enter Try.func17, Try.ntmps17
      go_wp2_with fail
      refine (Hs.out _).mono ?_
      rintro e w1 ⟨rfl, hb1⟩
      have Hb1 := Lib.hid (below_trans Hb.out hb1)
      clear hb1
      go_wp2_with fail
      refine bodyPost_ret (v := .tuple #[.int .u16 0, .int .u16 0, .bool false]) (by simp [results, Try.results17, go_sem]) rfl ?_
      exact ⟨by rw [if_neg He.out], Hb1.out⟩

def WithOwn (s : Msg) (id : Int) (n : Nat) (w : World) (e : Ending) (w' : World) : Prop :=
  ∃ A' c', e = .returned (.agg #[.int .u8 (withM s id).ty, .int .u8 (withM s id).cd, .int .u32 (withM s id).rs, .slice A' n c']) ∧ n ≤ c' ∧ c' ≤ maxLen ∧ OwnB w' w.heap.size A' n c' s.d ∧ Below w.heap.size w w'
theorem or32h (x y : Int) (hx : 0 ≤ x ∧ x < 65536) (hy : 0 ≤ y ∧ y < 65536) : bits .or .u32 (x * 65536) y = x * 65536 + y :=
  bits_join .u32 32 (by decide) wraps_u32 16 (x * 65536) y (by omega) (by omega) (by omega) (by omega) (by omega) (by omega)
theorem with8_any (s : Msg) (id : Int) (A : Option Addr) (n c : Nat) (w : World) (hr : 0 ≤ s.rs ∧ s.rs < 4294967296) (hi : 0 ≤ id ∧ id < 65536) (hn : n ≤ 140737488355328) (hrd : Rd w A n s.d) :
    Calls Try.prog 16 #[.agg #[.int .u8 s.ty, .int .u8 s.cd, .int .u32 s.rs, .slice A n c], .int .u16 id] w (WithOwn s id n w) := by
  have hy := @withM_yes s
  have hno := @withM_no s
  obtain ⟨ty, cd, rs, d⟩ := s
  simp only at hr hy hno hrd ⊢
  have He := Lib.hid (fun W => echo8_any ty cd rs A n c W hr)
  have Hcl := Lib.hid (fun W h => bclone_all A n c d W hn h)
  obtain ⟨z, hz⟩ : ∃ z, w.heap.size = z := ⟨_, rfl⟩
  obtain ⟨w0, ew⟩ : ∃ w0, (w.alloc (.cells #[.int .u8 ty, .int .u8 cd, .int .u32 rs, .slice A n c] 50)).alloc (.cells #[.int .u8 0, .int .u8 0, .int .u32 0, .slice none 0 0] 50) = w0 := ⟨_, rfl⟩
  have hb0 : Below w.heap.size w w0 := by rw [← ew]; exact ((Below.refl _ _).alloc (Nat.le_refl _) _).alloc (by simp) _
  have hk : w0.heap[z]? = some (.cells #[.int .u8 ty, .int .u8 cd, .int .u32 rs, .slice A n c] 50 (0, 0)) := by rw [← ew, Below.heap_alloc _ _ _ (by simp [hz]), ← hz]; exact heap_alloc_new w _
  have hk1 : w0.heap[z + 1]? = some (.cells #[.int .u8 0, .int .u8 0, .int .u32 0, .slice none 0 0] 50 (0, 0)) := by
    rw [← ew, ← hz]; simpa using heap_alloc_new (w.alloc (.cells #[.int .u8 ty, .int .u8 cd, .int .u32 rs, .slice A n c] 50)) (.cells #[.int .u8 0, .int .u8 0, .int .u32 0, .slice none 0 0] 50)
  have hc0 : w0.heap.size = z + 2 := by rw [← ew, ← hz]; simp
  have HK := Lib.hid (show ∀ w', Below w0.heap.size w0 w' → w'.heap[z]? = some (.cells #[.int .u8 ty, .int .u8 cd, .int .u32 rs, .slice A n c] 50 (0, 0)) ∧ w'.heap[z + 1]? = some (.cells #[.int .u8 0, .int .u8 0, .int .u32 0, .slice none 0 0] 50 (0, 0)) ∧ Rd w' A n d ∧ Below w.heap.size w w' ∧ z + 2 ≤ w'.heap.size from fun w' hb => ⟨blk_on hk hb, blk_on hk1 hb, (hrd.below hb0).below hb, below_trans hb0 hb, by have := hb.size; omega⟩)
  have Hdz := Lib.hid (show ∀ k o, A = some ⟨k, o, none⟩ → 0 < n → k < z from fun k o e h0 => by
    obtain ⟨b, o', e', hlt, _⟩ := hrd.at_ h0
    rw [e] at e'; injection e' with e'; injection e' with e' _; omega)
  have Hz := Lib.hid hz
  have hq1 : IntKind.u32.wrap id = id := by (simp [IntKind.wrap, IntKind.bits, IntKind.signed] <;> omega)
  have hq2 : IntKind.u32.wrap (id * 65536) = id * 65536 := by (simp [IntKind.wrap, IntKind.bits, IntKind.signed] <;> omega)
  have hq3 : IntKind.u32.wrap (rs % 65536) = rs % 65536 := by (simp [IntKind.wrap, IntKind.bits, IntKind.signed] <;> omega)
  have hq4 := or32h id (rs % 65536) hi (by omega)
  have Hew := Lib.hid ew
  have Hsz0 := Lib.hid hc0
  clear hb0 hk hk1 ew hc0 hr hrd
  obtain ⟨c0, c1, c2, c3⟩ := cells4 (HK.out w0 (Below.refl _ _)).1
  by_cases h : echoM ty cd = true
  · have Hy := Lib.hid (hy h id)
    have H := Lib.hid h
    clear hy hno h
    rw [show (65536 : Int) * id = id * 65536 from Int.mul_comm _ _] at Hy
    go_enter Try.func16, Try.ntmps16
    go_upto_region 1 with (fail)
    rw [Hew.out]
    go_wp2_with fail
    refine (He.out _).mono ?_
    rintro e w1 ⟨h1, hb1⟩
    rw [if_pos H.out] at h1
    subst h1
    clear c0 c1 c2 c3
    obtain ⟨k0, k1, hrd, hB, hsz⟩ := HK.out w1 hb1
    obtain ⟨c0, c1, c2, c3⟩ := cells4 k0
    have hf := blk_free k0
    have KB := Lib.hid (set_cell4 k0 (.int .u32 (id * 65536 + rs % 65536)))
    have KR := Lib.hid (other_blk (i := 2) k1 (show z ≠ z + 1 by omega) (.int .u32 (id * 65536 + rs % 65536)))
    have hbS : But (fun k => k = z) w1 (w1.setCell ⟨z, 2, none⟩ (.int .u32 (id * 65536 + rs % 65536))) := (But.refl (fun k => k = z) w1).setCell (p := ⟨z, 2, none⟩) rfl _
    have Hrd := Lib.hid (hrd.but hbS (fun g o e h0 hh => by have := Hdz.out g o e h0; omega))
    have HB := Lib.hid (hB.setCell (p := ⟨z, 2, none⟩) (by have := Hz.out; simp <;> omega) (.int .u32 (id * 65536 + rs % 65536)))
    have Hzw := Lib.hid (show z + 1 < (w1.setCell ⟨z, 2, none⟩ (.int .u32 (id * 65536 + rs % 65536))).heap.size by simp; omega)
    clear k0 k1 hb1 hrd hB hbS hsz
    go_upto_region 4 with (fail)
    obtain ⟨v1, ev1⟩ : ∃ v1, w1.setCell ⟨z, 2, none⟩ (.int .u32 (id * 65536 + rs % 65536)) = v1 := ⟨_, rfl⟩
    try rw [ev1]
    rw [ev1] at KB KR Hrd HB Hzw
    clear ev1 c0 c1 c2 c3 hf
    obtain ⟨c0, c1, c2, c3⟩ := cells4 KB.out
    go_wp2_with fail
    refine (Hcl.out _ Hrd.out).mono ?_
    rintro e w2 ⟨A2, k2, rfl, hk2, hm2, ho2, hb2⟩
    clear c0 c1 c2 c3
    have k3 := blk_on KB.out hb2
    have k4 := blk_on KR.out hb2
    obtain ⟨c0, c1, c2, c3⟩ := cells4 k3
    have f0 := blk_free k3
    have K5 := Lib.hid (set_cell4d k3 (.slice A2 n k2))
    have K6 := Lib.hid (other_blk (i := 3) k4 (show z ≠ z + 1 by omega) (.slice A2 n k2))
    have Ho := Lib.hid (own_store (i := 3) ho2 (show z < _ by have := Hzw.out; omega) (.slice A2 n k2))
    have Hbb := Lib.hid ((below_trans HB.out hb2).setCell (p := ⟨z, 3, none⟩) (by have := Hz.out; simp <;> omega) (.slice A2 n k2))
    have Hcc := Lib.hid (And.intro hk2 hm2)
    clear k3 k4 hb2 ho2
    obtain ⟨w3, ew3⟩ : ∃ w3, w2.setCell ⟨z, 3, none⟩ (.slice A2 n k2) = w3 := ⟨_, rfl⟩
    rw [ew3] at K5 K6 Ho Hbb
    go_upto_region 5 with (fail)
    try rw [ew3]
    clear c0 c1 c2 c3 ew3
    obtain ⟨c0, c1, c2, c3⟩ := cells4 K5.out
    have gf := blk_free K6.out
    obtain ⟨r0, r1, r2, r3⟩ := cells4 K6.out
    have hne : ¬ z = z + 1 := by omega
    have hne2 : ¬ z + 1 = z := by omega
    have K7 := Lib.hid (set4_blk K6.out (.int .u8 ty) (.int .u8 cd) (.int .u32 (id * 65536 + rs % 65536)) (.slice A2 n k2))
    go_wp2_with fail
    obtain ⟨s0, s1, s2, s3⟩ := cells4 K7.out
    refine bodyPost_ret (v := .agg #[.int .u8 ty, .int .u8 cd, .int .u32 (id * 65536 + rs % 65536), .slice A2 n k2]) (by simp [results, Try.results16, go_sem, s0, s1, s2, s3]) rfl ?_
    have hzz := Hz.out
    have hw := Hzw.out
    have hlt : z + 1 < _ := hw
    exact ⟨A2, k2, by rw [Hy.out], Hcc.out.1, Hcc.out.2, (own_store (own_store (own_store (own_store Ho.out hlt _) hlt _) hlt _) hlt _).mono (by omega), ((((Hbb.out.setCell (by simp <;> omega) _).setCell (by simp <;> omega) _).setCell (by simp <;> omega) _).setCell (by simp <;> omega) _)⟩
  · have Hy := Lib.hid (hno h id)
    have H := Lib.hid h
    clear hy hno h
    go_enter Try.func16, Try.ntmps16
    go_upto_region 1 with (fail)
    rw [Hew.out]
    go_wp2_with fail
    refine (He.out _).mono ?_
    rintro e w1 ⟨h1, hb1⟩
    rw [if_neg H.out] at h1
    subst h1
    clear c0 c1 c2 c3
    obtain ⟨k0, k1, hrd, hB, hsz⟩ := HK.out w1 hb1
    obtain ⟨c0, c1, c2, c3⟩ := cells4 k0
    have KB := Lib.hid k0
    have KR := Lib.hid k1
    have Hrd := Lib.hid hrd
    have HB := Lib.hid hB
    have Hzw := Lib.hid (show z + 1 < w1.heap.size by omega)
    clear k0 k1 hb1 hrd hB hsz
    go_wp2_with fail
    refine (Hcl.out _ Hrd.out).mono ?_
    rintro e w2 ⟨A2, k2, rfl, hk2, hm2, ho2, hb2⟩
    clear c0 c1 c2 c3
    have k3 := blk_on KB.out hb2
    have k4 := blk_on KR.out hb2
    obtain ⟨c0, c1, c2, c3⟩ := cells4 k3
    have f0 := blk_free k3
    have K5 := Lib.hid (set_cell4d k3 (.slice A2 n k2))
    have K6 := Lib.hid (other_blk (i := 3) k4 (show z ≠ z + 1 by omega) (.slice A2 n k2))
    have Ho := Lib.hid (own_store (i := 3) ho2 (show z < _ by have := Hzw.out; omega) (.slice A2 n k2))
    have Hbb := Lib.hid ((below_trans HB.out hb2).setCell (p := ⟨z, 3, none⟩) (by have := Hz.out; simp <;> omega) (.slice A2 n k2))
    have Hcc := Lib.hid (And.intro hk2 hm2)
    clear k3 k4 hb2 ho2
    obtain ⟨w3, ew3⟩ : ∃ w3, w2.setCell ⟨z, 3, none⟩ (.slice A2 n k2) = w3 := ⟨_, rfl⟩
    rw [ew3] at K5 K6 Ho Hbb
    go_upto_region 5 with (fail)
    try rw [ew3]
    clear c0 c1 c2 c3 ew3
    obtain ⟨c0, c1, c2, c3⟩ := cells4 K5.out
    have gf := blk_free K6.out
    obtain ⟨r0, r1, r2, r3⟩ := cells4 K6.out
    have hne : ¬ z = z + 1 := by omega
    have hne2 : ¬ z + 1 = z := by omega
    have K7 := Lib.hid (set4_blk K6.out (.int .u8 ty) (.int .u8 cd) (.int .u32 rs) (.slice A2 n k2))
    go_wp2_with fail
    obtain ⟨s0, s1, s2, s3⟩ := cells4 K7.out
    refine bodyPost_ret (v := .agg #[.int .u8 ty, .int .u8 cd, .int .u32 rs, .slice A2 n k2]) (by simp [results, Try.results16, go_sem, s0, s1, s2, s3]) rfl ?_
    have hzz := Hz.out
    have hw := Hzw.out
    have hlt : z + 1 < _ := hw
    exact ⟨A2, k2, by rw [Hy.out], Hcc.out.1, Hcc.out.2, (own_store (own_store (own_store (own_store Ho.out hlt _) hlt _) hlt _) hlt _).mono (by omega), ((((Hbb.out.setCell (by simp <;> omega) _).setCell (by simp <;> omega) _).setCell (by simp <;> omega) _).setCell (by simp <;> omega) _)⟩

end Go.Proofs.Ytoegfgbalcholaa

/-
  The contract of package icmp's Put.
-/
namespace Go.Proofs.Ytoegfgbalcholaa
set_option maxRecDepth 10000
open Go.RowKit
set_option linter.unusedSimpArgs false
set_option linter.unusedVariables false

theorem field_skip (s : Msg) : 65535 - sumL [headM s, be32 s.rs, s.d].flatten = fieldM s := by
  have e : ws false (headM s ++ (be16 0 ++ tailM s)) = ws false (headM s ++ tailM s) := by
    rw [ws_even _ _ (by simp [headM]), ws_even _ _ (by simp [be16]), ws_b16, ws_even (headM s) _ (by simp [headM])]; omega
  unfold fieldM sumL
  rw [e]
  simp [tailM]
theorem flat_msgB (s : Msg) (f : Int) (hf : fieldM s = f) : [headM s, be16 f, be32 s.rs, s.d].flatten = msgB s := by
  unfold msgB tailM; rw [hf]; simp
theorem headM_bytes (ty cd : Int) (h : 0 ≤ ty ∧ ty < 256) (h' : 0 ≤ cd ∧ cd < 256) : ∀ x ∈ [ty, cd], 0 ≤ x ∧ x < 256 := by intro x hx; simp at hx; omega
theorem RdL.threeM (w : World) (g : Nat) (hg : w.heap.size = g) (t : TypeId) (A B C : Option Addr) (n c n1 c1 n2 c2 : Nat) (l l1 l2 : List Int)
    (hc : n ≤ c ∧ c ≤ maxLen) (hc1 : n1 ≤ c1 ∧ c1 ≤ maxLen) (hc2 : n2 ≤ c2 ∧ c2 ≤ maxLen) (h : Rd w A n l) (h1 : Rd w B n1 l1) (h2 : Rd w C n2 l2) :
    RdL (w.alloc (.cells #[.slice A n c, .slice B n1 c1, .slice C n2 c2] t)) (some ⟨g, 0, none⟩) 3 [l, l1, l2] := by
  have := h.len; have := h1.len; have := h2.len
  subst n n1 n2
  refine RdL.row w g hg t (0, 0) [.slice A l.length c, .slice B l1.length c1, .slice C l2.length c2] [l, l1, l2] (fun i hi => ?_)
  match i, hi with
  | 0, _ => exact ⟨A, c, rfl, hc.1, hc.2, h⟩
  | 1, _ => exact ⟨B, c1, rfl, hc1.1, hc1.2, h1⟩
  | 2, _ => exact ⟨C, c2, rfl, hc2.1, hc2.2, h2⟩
theorem RdL.fourM (w : World) (g : Nat) (hg : w.heap.size = g) (t : TypeId) (A B C D : Option Addr) (n c n1 c1 n2 c2 n3 c3 : Nat) (l l1 l2 l3 : List Int)
    (hc : n ≤ c ∧ c ≤ maxLen) (hc1 : n1 ≤ c1 ∧ c1 ≤ maxLen) (hc2 : n2 ≤ c2 ∧ c2 ≤ maxLen) (hc3 : n3 ≤ c3 ∧ c3 ≤ maxLen) (h : Rd w A n l) (h1 : Rd w B n1 l1) (h2 : Rd w C n2 l2) (h3 : Rd w D n3 l3) :
    RdL (w.alloc (.cells #[.slice A n c, .slice B n1 c1, .slice C n2 c2, .slice D n3 c3] t)) (some ⟨g, 0, none⟩) 4 [l, l1, l2, l3] := by
  have := h.len; have := h1.len; have := h2.len; have := h3.len
  subst n n1 n2 n3
  refine RdL.row w g hg t (0, 0) [.slice A l.length c, .slice B l1.length c1, .slice C l2.length c2, .slice D l3.length c3] [l, l1, l2, l3] (fun i hi => ?_)
  match i, hi with
  | 0, _ => exact ⟨A, c, rfl, hc.1, hc.2, h⟩
  | 1, _ => exact ⟨B, c1, rfl, hc1.1, hc1.2, h1⟩
  | 2, _ => exact ⟨C, c2, rfl, hc2.1, hc2.2, h2⟩
  | 3, _ => exact ⟨D, c3, rfl, hc3.1, hc3.2, h3⟩

theorem put8_bad (ty cd rs : Int) (A : Option Addr) (n c : Nat) (w : World) (hn : 1472 < n) :
    Calls Try.prog 32 #[.agg #[.int .u8 ty, .int .u8 cd, .int .u32 rs, .slice A n c]] w (PutM [] 0 3 w) := by
  have hni : (1472 : Int) < (n : Int) := by omega
  have Hb := Lib.hid ((Below.refl w.heap.size w).alloc (Nat.le_refl _) (.cells #[.int .u8 ty, .int .u8 cd, .int .u32 rs, .slice A n c] 50))
  go_enter Try.func32, Try.ntmps32
  go_wp2_with fail
  go_ret2
  exact ⟨none, 0, rfl, Nat.le_refl _, by simp [maxLen], OwnB.nil _ _, Hb.out⟩

set_option maxHeartbeats 1000000 in
theorem put8_ok (s : Msg) (A : Option Addr) (n c : Nat) (w : World) (hnum : MsgNum s) (hc : n ≤ c ∧ c ≤ maxLen) (hr : Rd w A n s.d) (hn : n ≤ 1472) :
    Calls Try.prog 32 #[.agg #[.int .u8 s.ty, .int .u8 s.cd, .int .u32 s.rs, .slice A n c]] w (PutM (msgB s) (8 + n) 0 w) := by
  have hf := fieldM_bd s
  obtain ⟨f, ef⟩ : ∃ f, fieldM s = f := ⟨_, rfl⟩
  rw [ef] at hf
  have hfs := field_skip s
  rw [ef] at hfs
  have hlm : (msgB s).length = 8 + n := by rw [msgB_len, hr.len]
  have hln := hr.len
  obtain ⟨ty, cd, rs, d⟩ := s
  have ht := hnum.ty
  have hcd := hnum.cd
  have hrs := hnum.rs
  simp only at hr ht hcd hrs hfs hln ⊢
  obtain ⟨z, hz⟩ : ∃ z, w.heap.size = z := ⟨_, rfl⟩
  obtain ⟨w0, ew⟩ : ∃ w0, w.alloc (.cells #[.int .u8 ty, .int .u8 cd, .int .u32 rs, .slice A n c] 50) = w0 := ⟨_, rfl⟩
  have hb0 : Below w.heap.size w w0 := by rw [← ew]; exact (Below.refl _ _).alloc (Nat.le_refl _) _
  have hk : w0.heap[z]? = some (.cells #[.int .u8 ty, .int .u8 cd, .int .u32 rs, .slice A n c] 50 (0, 0)) := by rw [← ew, ← hz]; exact heap_alloc_new w _
  have HK := Lib.hid (show ∀ w', Below w0.heap.size w0 w' → (w'.cell? ⟨z, 0, none⟩ = some (.int .u8 ty) ∧ w'.cell? ⟨z, 1, none⟩ = some (.int .u8 cd) ∧ w'.cell? ⟨z, 2, none⟩ = some (.int .u32 rs) ∧ w'.cell? ⟨z, 3, none⟩ = some (.slice A n c)) ∧ Rd w' A n d from fun w' hb => ⟨cells4 (blk_on hk hb), (hr.below hb0).below hb⟩)
  have Hb0 := Lib.hid hb0
  have Hew := Lib.hid ew
  have Hfs := Lib.hid hfs
  have Hef := Lib.hid ef
  have Hlm := Lib.hid hlm
  have Hln := Lib.hid hln
  have Hf := Lib.hid (show 0 ≤ f ∧ f < 65536 by omega)
  have Hc := Lib.hid hc
  have Hbt := Lib.hid (headM_bytes ty cd ht hcd)
  have hni : ¬ (1472 : Int) < (n : Int) := by omega
  obtain ⟨⟨c0, c1, c2, c3⟩, _⟩ := HK.out w0 (Below.refl _ _)
  clear hk hb0 ew hr hfs ef hlm hnum ht hcd hf hln hc
  go_enter Try.func32, Try.ntmps32
  go_upto_region 1 with (fail)
  rw [Hew.out]
  go_upto_region 3 with (fail)
  clear c0 c1 c2 c3
  go_cut [4, 5] (fun s4 s5 wx => ∃ (g4 : Nat) (A5 : Option Addr) (c5 : Nat), s4 = .slice (some ⟨g4, 0, none⟩) 2 2 ∧ s5 = .slice A5 4 c5 ∧ Hid (Rd wx (some ⟨g4, 0, none⟩) 2 [ty, cd]) ∧ Hid (Rd wx A5 4 (be32 rs)) ∧ Hid (4 ≤ c5 ∧ c5 ≤ maxLen) ∧ Hid (Below w0.heap.size w0 wx))
  case first =>
    have Hd := Lib.hid (Below.drew (Below.refl w0.heap.size w0))
    refine wp_region_noPanic ?_
    refine wp_region_held_drew (S := fun w' => (w'.cell? ⟨z, 0, none⟩ = some (.int .u8 ty) ∧ w'.cell? ⟨z, 1, none⟩ = some (.int .u8 cd) ∧ w'.cell? ⟨z, 2, none⟩ = some (.int .u32 rs) ∧ w'.cell? ⟨z, 3, none⟩ = some (.slice A n c))) (by kernel_rfl) (HK.out _ Hd.out).1 (fun hHeld => ?_)
    obtain ⟨wd, ewd⟩ : ∃ wd, w0.drew = wd := ⟨_, rfl⟩
    rw [ewd] at Hd hHeld ⊢
    clear ewd
    refine tk 0 ?_ rfl ?_ ?_
    rotate_left
    · intro w' hSw; (go_simp <;> (with_reducible rfl))
    try simp only [Act.put, putL]
    refine tk 1 ?_ rfl ?_ ?_
    rotate_left
    · intro w' hSw; (go_simp <;> (with_reducible rfl))
    try simp only [Act.put, putL]
    refine tk 2 ?_ rfl ?_ ?_
    rotate_left
    · intro w' hSw; (go_simp <;> (with_reducible rfl))
    try simp only [Act.put, putL]
    refine tk 3 ?_ rfl ?_ ?_
    rotate_left
    · intro w' hSw; (go_simp <;> (with_reducible rfl))
    try simp only [Act.put, putL]
    refine tk 5 ?_ rfl ?_ ?_
    rotate_left
    · intro w' hSw; (go_simp <;> (with_reducible rfl))
    try simp only [Act.put, putL]
    refine tk 6 ?_ rfl ?_ ?_
    rotate_left
    · intro w' hSw; (go_simp <;> (with_reducible rfl))
    try simp only [Act.put, putL]
    refine wpAnyH_ready (rs := [4, 7]) (by kernel_rfl) (by simp) ?_
    refine AllReadyH.cons (o := { dst := some 15, op := Go.Op.buildSlice 22 2 #[(0, Go.Operand.tmp 12), (1, Go.Operand.tmp 14)], type := 22, pos := "icmp.go:57", after := #[{ on := 1, ground := Go.Ground.data }, { on := 3, ground := Go.Ground.data }], guard := none }) rfl (fun K hK => ?_) (AllReadyH.cons (o := { dst := some 18, op := Go.Op.call { callee := Go.Callee.value (Go.Operand.func 65), args := #[Go.Operand.const (Go.Value.slice none 0 0), Go.Operand.tmp 17], argTypes := #[22, 23] }, type := 22, pos := "icmp.go:57", after := #[{ on := 6, ground := Go.Ground.data }], guard := none }) rfl (fun K hK => ?_) AllReadyH.nil)
    · have hba := (Below.refl wd.heap.size wd).alloc (Nat.le_refl _) (.cells #[.int .u8 ty, .int .u8 cd] 5)
      have Hd2 := Lib.hid (below_trans Hd.out hba)
      have Hr4 := Lib.hid (Rd.const wd [ty, cd] 5 (0, 0) Hbt.out)
      go_simp
      refine hK.out _ _ ?_ (fun hHeld => ?_)
      · exact (HK.out _ Hd2.out).1
      clear hK K
      (try simp only [Act.put, List.setIfInBounds_toArray, List.set_cons_zero, List.set_cons_succ])
      refine wpAnyH_ready (rs := [7]) (by kernel_rfl) (by simp) ?_
      refine AllReadyH.cons (o := { dst := some 18, op := Go.Op.call { callee := Go.Callee.value (Go.Operand.func 65), args := #[Go.Operand.const (Go.Value.slice none 0 0), Go.Operand.tmp 17], argTypes := #[22, 23] }, type := 22, pos := "icmp.go:57", after := #[{ on := 6, ground := Go.Ground.data }], guard := none }) rfl (fun K hK => ?_) AllReadyH.nil
      (try go_simp)
      refine (u32_lays none 0 0 [] rs _ hrs (by simp [maxLen]) (by omega) (Rd.nil _ _)).mono ?_
      rintro e w6 ⟨A5, c5, rfl, hk5, hm5, ho5, hb5⟩
      rw [List.nil_append, Nat.zero_add] at ho5
      rw [Nat.zero_add] at hk5
      have Ho5 := Lib.hid ho5
      have Hb5 := Lib.hid hb5
      refine hK.out _ _ ?_ (fun hHeld => ?_)
      · exact (HK.out _ (below_trans Hd2.out Hb5.out)).1
      clear hK K ho5 hb5
      (try simp only [Act.put, List.setIfInBounds_toArray, List.set_cons_zero, List.set_cons_succ])
      refine tk 8 ?_ rfl ?_ ?_
      rotate_left
      · intro w' hSw; (go_simp <;> (with_reducible rfl))
      try simp only [Act.put, putL]
      refine tk 9 ?_ rfl ?_ ?_
      rotate_left
      · intro w' hSw; (go_simp <;> (with_reducible rfl))
      try simp only [Act.put, putL]
      refine wpAnyH_done (by kernel_rfl) ?_ _
      refine NoPanic.normal ?_
      go_wp2_with fail
      go_meet
      exact ⟨wd.heap.size, A5, c5, rfl, rfl, Lib.hid (Hr4.out.below Hb5.out), Lib.hid (Ho5.out.rd (be32_by hrs)), Lib.hid ⟨hk5, hm5⟩, Lib.hid (below_trans Hd2.out Hb5.out)⟩
    · 
      (try go_simp)
      refine (u32_lays none 0 0 [] rs _ hrs (by simp [maxLen]) (by omega) (Rd.nil _ _)).mono ?_
      rintro e w6 ⟨A5, c5, rfl, hk5, hm5, ho5, hb5⟩
      rw [List.nil_append, Nat.zero_add] at ho5
      rw [Nat.zero_add] at hk5
      have Ho5 := Lib.hid ho5
      have Hb5 := Lib.hid hb5
      refine hK.out _ _ ?_ (fun hHeld => ?_)
      · exact (HK.out _ (below_trans Hd.out Hb5.out)).1
      clear hK K ho5 hb5
      (try simp only [Act.put, List.setIfInBounds_toArray, List.set_cons_zero, List.set_cons_succ])
      refine wpAnyH_ready (rs := [4]) (by kernel_rfl) (by simp) ?_
      refine AllReadyH.cons (o := { dst := some 15, op := Go.Op.buildSlice 22 2 #[(0, Go.Operand.tmp 12), (1, Go.Operand.tmp 14)], type := 22, pos := "icmp.go:57", after := #[{ on := 1, ground := Go.Ground.data }, { on := 3, ground := Go.Ground.data }], guard := none }) rfl (fun K hK => ?_) AllReadyH.nil
      have hba := (Below.refl w6.heap.size w6).alloc (Nat.le_refl _) (.cells #[.int .u8 ty, .int .u8 cd] 5)
      have Hd2 := Lib.hid (below_trans (below_trans Hd.out Hb5.out) hba)
      have Hr4 := Lib.hid (Rd.const w6 [ty, cd] 5 (0, 0) Hbt.out)
      have Hr5 := Lib.hid ((Ho5.out.rd (be32_by hrs)).below hba)
      go_simp
      refine hK.out _ _ ?_ (fun hHeld => ?_)
      · exact (HK.out _ Hd2.out).1
      clear hK K
      (try simp only [Act.put, List.setIfInBounds_toArray, List.set_cons_zero, List.set_cons_succ])
      refine tk 8 ?_ rfl ?_ ?_
      rotate_left
      · intro w' hSw; (go_simp <;> (with_reducible rfl))
      try simp only [Act.put, putL]
      refine tk 9 ?_ rfl ?_ ?_
      rotate_left
      · intro w' hSw; (go_simp <;> (with_reducible rfl))
      try simp only [Act.put, putL]
      refine wpAnyH_done (by kernel_rfl) ?_ _
      refine NoPanic.normal ?_
      go_wp2_with fail
      go_meet
      exact ⟨w6.heap.size, A5, c5, rfl, rfl, Hr4, Hr5, Lib.hid ⟨hk5, hm5⟩, Hd2⟩
  case rest =>
    obtain ⟨g4, A5, c5, rfl, rfl, Hr4, Hr5, Hk5, HB⟩ := hcut
    obtain ⟨⟨c0, c1, c2, c3⟩, Hrd⟩ := HK.out _ HB.out
    have hk5 := Hk5.out.1
    have hm5 := Hk5.out.2
    have Hfd := Lib.hid (field_told (some ⟨wc.heap.size, 0, none⟩) 3 3 [headM ⟨ty, cd, rs, d⟩, be32 rs, d] _ f (by omega) (RdL.threeM wc _ rfl 22 (some ⟨g4, 0, none⟩) A5 A 2 2 4 c5 n c [ty, cd] (be32 rs) d (by simp [maxLen]) ⟨hk5, hm5⟩ Hc.out Hr4.out Hr5.out Hrd) Hfs.out)
    clear Hrd
    go_wp2_with fail
    refine Hfd.out.mono ?_
    rintro e w5 ⟨rfl, hb5⟩
    have hb5 := on_alloc hb5
    have Hr4 := Lib.hid (Hr4.out.below hb5)
    have Hr5 := Lib.hid (Hr5.out.below hb5)
    have HB := Lib.hid (below_trans HB.out hb5)
    clear c0 c1 c2 c3 hb5 Hfd
    go_wp2_with fail
    have Hbd := Lib.hid (Below.drew (Below.refl w5.heap.size w5))
    have HB6 := Lib.hid (below_trans HB.out Hbd.out)
    have Hr4 := Lib.hid (Hr4.out.below Hbd.out)
    have Hr5 := Lib.hid (Hr5.out.below Hbd.out)
    refine wp_region_held_drew (S := fun w' => (w'.cell? ⟨z, 0, none⟩ = some (.int .u8 ty) ∧ w'.cell? ⟨z, 1, none⟩ = some (.int .u8 cd) ∧ w'.cell? ⟨z, 2, none⟩ = some (.int .u32 rs) ∧ w'.cell? ⟨z, 3, none⟩ = some (.slice A n c))) (by kernel_rfl) (HK.out _ HB6.out).1 (fun hHeld => ?_)
    obtain ⟨wd, ewd⟩ : ∃ wd, w5.drew = wd := ⟨_, rfl⟩
    rw [ewd] at HB6 Hr4 Hr5 hHeld ⊢
    clear ewd Hbd HB
    refine tk 0 ?_ rfl ?_ ?_
    rotate_left
    · intro w' hSw; (go_simp <;> (with_reducible rfl))
    try simp only [Act.put, putL]
    refine tk 1 ?_ rfl ?_ ?_
    rotate_left
    · intro w' hSw; (go_simp <;> (with_reducible rfl))
    try simp only [Act.put, putL]
    refine tk 3 ?_ rfl ?_ ?_
    rotate_left
    · intro w' hSw; (go_simp <;> (with_reducible rfl))
    try simp only [Act.put, putL]
    refine tk 4 ?_ rfl ?_ ?_
    rotate_left
    · intro w' hSw; (go_simp <;> (with_reducible rfl))
    try simp only [Act.put, putL]
    refine tk 5 ?_ rfl ?_ ?_
    rotate_left
    · intro w' hSw; (go_simp <;> (with_reducible rfl))
    try simp only [Act.put, putL]
    refine tkC 2 rfl (fun K hK => ?_)
    go_simp
    (refine (u16_lays none 0 0 [] f _ Hf.out (by simp [maxLen]) (by omega) (Rd.nil _ _)).mono ?_; rintro e w7 ⟨A7, c7, rfl, hk7, hm7, ho7, hb7⟩; rw [List.nil_append, Nat.zero_add] at ho7; have Hr7 := Lib.hid (ho7.rd (be16_by Hf.out)); have Hb7 := Lib.hid hb7; have HB7 := Lib.hid (below_trans HB6.out hb7); clear ho7 hb7)
    refine hK.out _ _ ?_ (fun hHeld => ?_)
    · exact (HK.out _ HB7.out).1
    clear hK K
    try simp only [Act.put, putL]
    refine tkC 6 rfl (fun K hK => ?_)
    go_simp
    skip
    refine hK.out _ _ ?_ (fun hHeld => ?_)
    · exact (HK.out _ (HB7.out.alloc HB7.out.size _)).1
    clear hK K
    try simp only [Act.put, putL]
    refine tkC 7 rfl (fun K hK => ?_)
    go_simp
    (refine (concat_any (some ⟨w7.heap.size, 0, none⟩) 4 4 [headM ⟨ty, cd, rs, d⟩, be16 f, be32 rs, d] _ (by omega) (RdL.fourM w7 _ rfl 22 (some ⟨g4, 0, none⟩) A7 A5 A 2 2 2 c7 4 c5 n c [ty, cd] (be16 f) (be32 rs) d (by simp [maxLen]) ⟨hk7, hm7⟩ ⟨hk5, hm5⟩ Hc.out (Hr4.out.below Hb7.out) Hr7.out (Hr5.out.below Hb7.out) (HK.out _ HB7.out).2) (by have := Hln.out; simp [headM, be16, be32]; omega)).mono ?_; intro e w8 h8; rw [flat_msgB ⟨ty, cd, rs, d⟩ f Hef.out, Hlm.out] at h8; obtain ⟨A8, c8, rfl, hk8, hm8, ho8, hb8⟩ := h8; have Ho8 := Lib.hid ho8; have HB8 := Lib.hid (below_trans HB7.out (on_alloc hb8)); clear ho8 hb8)
    refine hK.out _ _ ?_ (fun hHeld => ?_)
    · exact (HK.out _ HB8.out).1
    clear hK K
    try simp only [Act.put, putL]
    refine tk 8 ?_ rfl ?_ ?_
    rotate_left
    · intro w' hSw; (go_simp <;> (with_reducible rfl))
    try simp only [Act.put, putL]
    refine tk 9 ?_ rfl ?_ ?_
    rotate_left
    · intro w' hSw; (go_simp <;> (with_reducible rfl))
    try simp only [Act.put, putL]
    refine wpAnyH_done (by kernel_rfl) ?_ _
    have Hbb := Lib.hid (below_trans Hb0.out HB8.out)
    have Hs7 := Lib.hid (show w.heap.size ≤ w7.heap.size from Nat.le_trans Hb0.out.size HB7.out.size)
    clear Hr4 Hr5 Hr7 HB6 HB7 hHeld
    go_wp2_with fail
    go_ret2
    exact ⟨A8, c8, rfl, hk8, hm8, Ho8.out.mono (by have := Hs7.out; simp; omega), Hbb.out⟩
theorem put8_any (s : Msg) (A : Option Addr) (n c : Nat) (w : World) (L : List Int) (m : Nat) (x : Int) (hnum : MsgNum s) (hc : n ≤ c ∧ c ≤ maxLen) (hr : Rd w A n s.d) (hx : errP s = x) (hL : toldM s = L) (hm : L.length = m) :
    Calls Try.prog 32 #[.agg #[.int .u8 s.ty, .int .u8 s.cd, .int .u32 s.rs, .slice A n c]] w (PutM L m x w) := by
  have hl := hr.len
  unfold errP at hx
  unfold toldM at hL
  rw [hl] at hx hL
  by_cases h : 1472 < n
  · rw [if_pos h] at hx hL
    subst hx; subst hL; subst hm
    exact put8_bad s.ty s.cd s.rs A n c w h
  · rw [if_neg h] at hx hL
    subst hx; subst hL
    rw [← hm, msgB_len, hl]
    exact put8_ok s A n c w hnum hc hr (by omega)
end Go.Proofs.Ytoegfgbalcholaa

/-
  The contract of package icmp's Parse, and of the closure in it: what is wrong is told in the document's own order; else the message, its data in a row of the call's own.
-/
namespace Go.Proofs.Ytoegfgbalcholaa
set_option maxRecDepth 10000
open Go.RowKit
set_option linter.unusedSimpArgs false
set_option linter.unusedVariables false

end Go.Proofs.Ytoegfgbalcholaa

/-
  Package icmp's Parse and the document's own, by one word: the message, or noughts, its data in a row of the call's own.
-/
namespace Go.Proofs.Ytoegfgbalcholaa
set_option maxRecDepth 10000
open Go.RowKit

theorem toldM_by {s : Msg} (h : MsgNum s) (hd : ∀ x ∈ s.d, 0 ≤ x ∧ x < 256) : ∀ x ∈ toldM s, 0 ≤ x ∧ x < 256 := by
  unfold toldM
  split
  · simp
  · exact msgB_by h hd
end Go.Proofs.Ytoegfgbalcholaa
