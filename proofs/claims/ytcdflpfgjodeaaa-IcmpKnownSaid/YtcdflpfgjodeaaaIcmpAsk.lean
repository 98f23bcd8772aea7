/-
  The contracts of package icmp's Echo, WithId, Exceeded, Same; of bytes.Clone of any slice.
-/
import Derived.Test.YtcdflpfgjodeaaaIcmpSort
import Derived.Test.YtcdflpfgjodeaaaIcmpRefRead
import Derived.Test.YtcdflpfgjodeaaaBytesEq
import Derived.Test.YtcdflpfgjodeaaaBits16
import Derived.RegionTactic
namespace Go.Proofs.Ytcdflpfgjodeaaa
set_option maxRecDepth 10000
open Go.RowKit
set_option linter.unusedSimpArgs false
set_option linter.unusedVariables false

theorem bclone_all (A : Option Addr) (n c : Nat) (l : List Int) (w : World) (hn : n ≤ 140737488355328) (h : Rd w A n l) :
    Calls Try.prog 40 #[.slice A n c] w (RowIs n l w) := by
  have hnil : ∀ W : World, (binOp .eql 23 (.slice A n c) (.slice none 0 0)).run Try.prog W = .ok (.bool A.isNone) W := fun W => Lib.run_eql_slice_nil W _ _ A n c 0 0 Try.underlying23
  cases A with
  | none =>
    obtain rfl : n = 0 := by
      rcases Nat.eq_zero_or_pos n with h0 | h0
      · exact h0
      · obtain ⟨b, o, e, _⟩ := h.at_ h0; cases e
    have hl : l = [] := List.eq_nil_of_length_eq_zero h.len
    subst hl
    have Ho := Lib.hid (OwnB.nil w w.heap.size)
    clear h
    go_enter Try.func40, Try.ntmps40
    go_wp2_with fail
    go_ret
    exact ⟨none, 0, rfl, Nat.le_refl _, by simp [maxLen], Ho.out, Below.refl _ _⟩
  | some a =>
    have hb := (Below.refl w.heap.size w).alloc (Nat.le_refl _) (.cells #[] 5)
    have Ho := Lib.hid (OwnB.made (w := w.alloc (.cells #[] 5)) (B := w.heap.size) (g := w.heap.size) (cap := 0) (cur := #[]) (heap_alloc_new w _) (Nat.le_refl _) (by simp [maxLen]) rfl)
    have Hr := Lib.hid (h.below hb)
    have Hb := Lib.hid hb
    clear h hb
    go_enter Try.func40, Try.ntmps40
    go_wp2_with (refine wpList_app rfl (.tmp 5) (.tmp 6) rfl w.heap.size (some ⟨w.heap.size, 0, none⟩) (some a) 0 0 n c [] l rfl rfl Ho.out Hr.out (by omega) (by simp) ?_; intro A2 c2 w2 hown2 _ hb2 _)
    go_ret
    have h2 := hown2
    rw [Nat.zero_add, List.nil_append] at h2
    exact ⟨A2, c2, by simp, h2.cap, h2.capMax, h2, Hb.out.trans hb2⟩

theorem echo8_any (ty cd rs : Int) (A : Option Addr) (n c : Nat) (w : World) (hr : 0 ≤ rs ∧ rs < 4294967296) :
    Calls Try.prog 15 #[.agg #[.int .u8 ty, .int .u8 cd, .int .u32 rs, .slice A n c]] w (EchoIs ty cd rs w) := by
  obtain ⟨z, hz⟩ : ∃ z, w.heap.size = z := ⟨_, rfl⟩
  have hb0 := (Below.refl w.heap.size w).alloc (Nat.le_refl _) (.cells #[.int .u8 ty, .int .u8 cd, .int .u32 rs, .slice A n c] 25)
  have hk := heap_alloc_new w (.cells #[.int .u8 ty, .int .u8 cd, .int .u32 rs, .slice A n c] 25)
  rw [hz] at hk
  obtain ⟨x, ex⟩ : ∃ x, sortM ty cd = x := ⟨_, rfl⟩
  have Hs := Lib.hid (fun W => sort8_any ty cd rs A n c x W ex)
  have Hb := Lib.hid hb0
  have Hk := Lib.hid hk
  have hse := sort_echo ty cd
  rw [ex] at hse
  have hq1 : IntKind.u16.wrap (rs / 65536) = rs / 65536 := by (simp [IntKind.wrap, IntKind.bits, IntKind.signed] <;> omega)
  have hq2 : IntKind.u16.wrap rs = rs % 65536 := by (simp [IntKind.wrap, IntKind.bits, IntKind.signed] <;> omega)
  have hq5 : IntKind.u32.wrap (rs / 65536) = rs / 65536 := by (simp [IntKind.wrap, IntKind.bits, IntKind.signed] <;> omega)
  clear hb0 hk ex
  have Hr := Lib.hid hr
  rcases hse with ⟨he, hx⟩ | ⟨he, hx⟩
  · have He := Lib.hid he
    clear he
    rcases hx with rfl | rfl
    ·
      go_enter Try.func15, Try.ntmps15
      go_wp2_with fail
      refine (Hs.out _).mono ?_
      rintro e w1 ⟨rfl, hb1⟩
      have hk1 := blk_on Hk.out hb1
      obtain ⟨c0, c1, c2, c3⟩ := cells4 hk1
      have Hb1 := Lib.hid (below_trans Hb.out hb1)
      clear hb1 hk1
      go_wp2_with fail
      go_region
      go_wp2_with fail
      refine bodyPost_ret (v := .tuple #[.int .u16 (rs / 65536), .int .u16 (rs % 65536), .bool true]) (by simp [results, Try.results15, go_sem]) rfl ?_
      exact ⟨by rw [if_pos He.out], Hb1.out.drew⟩
    ·
      go_enter Try.func15, Try.ntmps15
      go_wp2_with fail
      refine (Hs.out _).mono ?_
      rintro e w1 ⟨rfl, hb1⟩
      have hk1 := blk_on Hk.out hb1
      obtain ⟨c0, c1, c2, c3⟩ := cells4 hk1
      have Hb1 := Lib.hid (below_trans Hb.out hb1)
      clear hb1 hk1
      go_wp2_with fail
      go_region
      go_wp2_with fail
      refine bodyPost_ret (v := .tuple #[.int .u16 (rs / 65536), .int .u16 (rs % 65536), .bool true]) (by simp [results, Try.results15, go_sem]) rfl ?_
      exact ⟨by rw [if_pos He.out], Hb1.out.drew⟩
  · have He := Lib.hid (show ¬ echoM ty cd = true by rw [he]; simp)
    clear he hr
    rcases hx with rfl | rfl
    ·
      go_enter Try.func15, Try.ntmps15
      go_wp2_with fail
      refine (Hs.out _).mono ?_
      rintro e w1 ⟨rfl, hb1⟩
      have Hb1 := Lib.hid (below_trans Hb.out hb1)
      clear hb1
      go_wp2_with fail
      refine bodyPost_ret (v := .tuple #[.int .u16 0, .int .u16 0, .bool false]) (by simp [results, Try.results15, go_sem]) rfl ?_
      exact ⟨by rw [if_neg He.out], Hb1.out⟩
    ·
      go_enter Try.func15, Try.ntmps15
      go_wp2_with fail
      refine (Hs.out _).mono ?_
      rintro e w1 ⟨rfl, hb1⟩
      have Hb1 := Lib.hid (below_trans Hb.out hb1)
      clear hb1
      go_wp2_with fail
      refine bodyPost_ret (v := .tuple #[.int .u16 0, .int .u16 0, .bool false]) (by simp [results, Try.results15, go_sem]) rfl ?_
      exact ⟨by rw [if_neg He.out], Hb1.out⟩

def WithOwn (s : Msg) (id : Int) (n : Nat) (w : World) (e : Ending) (w' : World) : Prop :=
  ∃ A' c', e = .returned (.agg #[.int .u8 (withM s id).ty, .int .u8 (withM s id).cd, .int .u32 (withM s id).rs, .slice A' n c']) ∧ n ≤ c' ∧ c' ≤ maxLen ∧ OwnB w' w.heap.size A' n c' s.d ∧ Below w.heap.size w w'
theorem or32h (x y : Int) (hx : 0 ≤ x ∧ x < 65536) (hy : 0 ≤ y ∧ y < 65536) : bits .or .u32 (x * 65536) y = x * 65536 + y :=
  bits_join .u32 32 (by decide) wraps_u32 16 (x * 65536) y (by omega) (by omega) (by omega) (by omega) (by omega) (by omega)
theorem with8_any (s : Msg) (id : Int) (A : Option Addr) (n c : Nat) (w : World) (hr : 0 ≤ s.rs ∧ s.rs < 4294967296) (hi : 0 ≤ id ∧ id < 65536) (hn : n ≤ 140737488355328) (hrd : Rd w A n s.d) :
    Calls Try.prog 17 #[.agg #[.int .u8 s.ty, .int .u8 s.cd, .int .u32 s.rs, .slice A n c], .int .u16 id] w (WithOwn s id n w) := by
  have hy := @withM_yes s
  have hno := @withM_no s
  obtain ⟨ty, cd, rs, d⟩ := s
  simp only at hr hy hno hrd ⊢
  have He := Lib.hid (fun W => echo8_any ty cd rs A n c W hr)
  have Hcl := Lib.hid (fun W h => bclone_all A n c d W hn h)
  obtain ⟨z, hz⟩ : ∃ z, w.heap.size = z := ⟨_, rfl⟩
  obtain ⟨w0, ew⟩ : ∃ w0, (w.alloc (.cells #[.int .u8 ty, .int .u8 cd, .int .u32 rs, .slice A n c] 25)).alloc (.cells #[.int .u8 0, .int .u8 0, .int .u32 0, .slice none 0 0] 25) = w0 := ⟨_, rfl⟩
  have hb0 : Below w.heap.size w w0 := by rw [← ew]; exact ((Below.refl _ _).alloc (Nat.le_refl _) _).alloc (by simp) _
  have hk : w0.heap[z]? = some (.cells #[.int .u8 ty, .int .u8 cd, .int .u32 rs, .slice A n c] 25 (0, 0)) := by rw [← ew, Below.heap_alloc _ _ _ (by simp [hz]), ← hz]; exact heap_alloc_new w _
  have hk1 : w0.heap[z + 1]? = some (.cells #[.int .u8 0, .int .u8 0, .int .u32 0, .slice none 0 0] 25 (0, 0)) := by
    rw [← ew, ← hz]; simpa using heap_alloc_new (w.alloc (.cells #[.int .u8 ty, .int .u8 cd, .int .u32 rs, .slice A n c] 25)) (.cells #[.int .u8 0, .int .u8 0, .int .u32 0, .slice none 0 0] 25)
  have hc0 : w0.heap.size = z + 2 := by rw [← ew, ← hz]; simp
  have HK := Lib.hid (show ∀ w', Below w0.heap.size w0 w' → w'.heap[z]? = some (.cells #[.int .u8 ty, .int .u8 cd, .int .u32 rs, .slice A n c] 25 (0, 0)) ∧ w'.heap[z + 1]? = some (.cells #[.int .u8 0, .int .u8 0, .int .u32 0, .slice none 0 0] 25 (0, 0)) ∧ Rd w' A n d ∧ Below w.heap.size w w' ∧ z + 2 ≤ w'.heap.size from fun w' hb => ⟨blk_on hk hb, blk_on hk1 hb, (hrd.below hb0).below hb, below_trans hb0 hb, by have := hb.size; omega⟩)
  have Hdz := Lib.hid (show ∀ k o, A = some ⟨k, o, none⟩ → 0 < n → k < z from fun k o e h0 => by
    obtain ⟨b, o', e', hlt, _⟩ := hrd.at_ h0
    rw [e] at e'; injection e' with e'; injection e' with e' _; omega)
  have Hz := Lib.hid hz
  have hq1 : IntKind.u32.wrap id = id := by (simp [IntKind.wrap, IntKind.bits, IntKind.signed] <;> omega)
  have hq2 : IntKind.u32.wrap (id * 65536) = id * 65536 := by (simp [IntKind.wrap, IntKind.bits, IntKind.signed] <;> omega)
  have hq3 : IntKind.u32.wrap (rs % 65536) = rs % 65536 := by (simp [IntKind.wrap, IntKind.bits, IntKind.signed] <;> omega)
  have hq4 := or32h id (rs % 65536) hi (by omega)
  have Hew := Lib.hid ew
  have Hsz0 := Lib.hid hc0
  clear hb0 hk hk1 ew hc0 hr hrd
  obtain ⟨c0, c1, c2, c3⟩ := cells4 (HK.out w0 (Below.refl _ _)).1
  by_cases h : echoM ty cd = true
  · have Hy := Lib.hid (hy h id)
    have H := Lib.hid h
    clear hy hno h
    rw [show (65536 : Int) * id = id * 65536 from Int.mul_comm _ _] at Hy
    go_enter Try.func17, Try.ntmps17
    go_upto_region 1 with (fail)
    rw [Hew.out]
    go_wp2_with fail
    refine (He.out _).mono ?_
    rintro e w1 ⟨h1, hb1⟩
    rw [if_pos H.out] at h1
    subst h1
    clear c0 c1 c2 c3
    obtain ⟨k0, k1, hrd, hB, hsz⟩ := HK.out w1 hb1
    obtain ⟨c0, c1, c2, c3⟩ := cells4 k0
    have hf := blk_free k0
    have KB := Lib.hid (set_cell4 k0 (.int .u32 (id * 65536 + rs % 65536)))
    have KR := Lib.hid (other_blk (i := 2) k1 (show z ≠ z + 1 by omega) (.int .u32 (id * 65536 + rs % 65536)))
    have hbS : But (fun k => k = z) w1 (w1.setCell ⟨z, 2, none⟩ (.int .u32 (id * 65536 + rs % 65536))) := (But.refl (fun k => k = z) w1).setCell (p := ⟨z, 2, none⟩) rfl _
    have Hrd := Lib.hid (hrd.but hbS (fun g o e h0 hh => by have := Hdz.out g o e h0; omega))
    have HB := Lib.hid (hB.setCell (p := ⟨z, 2, none⟩) (by have := Hz.out; simp <;> omega) (.int .u32 (id * 65536 + rs % 65536)))
    have Hzw := Lib.hid (show z + 1 < (w1.setCell ⟨z, 2, none⟩ (.int .u32 (id * 65536 + rs % 65536))).heap.size by simp; omega)
    clear k0 k1 hb1 hrd hB hbS hsz
    go_upto_region 4 with (fail)
    obtain ⟨v1, ev1⟩ : ∃ v1, w1.setCell ⟨z, 2, none⟩ (.int .u32 (id * 65536 + rs % 65536)) = v1 := ⟨_, rfl⟩
    try rw [ev1]
    rw [ev1] at KB KR Hrd HB Hzw
    clear ev1 c0 c1 c2 c3 hf
    obtain ⟨c0, c1, c2, c3⟩ := cells4 KB.out
    go_wp2_with fail
    refine (Hcl.out _ Hrd.out).mono ?_
    rintro e w2 ⟨A2, k2, rfl, hk2, hm2, ho2, hb2⟩
    clear c0 c1 c2 c3
    have k3 := blk_on KB.out hb2
    have k4 := blk_on KR.out hb2
    obtain ⟨c0, c1, c2, c3⟩ := cells4 k3
    have f0 := blk_free k3
    have K5 := Lib.hid (set_cell4d k3 (.slice A2 n k2))
    have K6 := Lib.hid (other_blk (i := 3) k4 (show z ≠ z + 1 by omega) (.slice A2 n k2))
    have Ho := Lib.hid (own_store (i := 3) ho2 (show z < _ by have := Hzw.out; omega) (.slice A2 n k2))
    have Hbb := Lib.hid ((below_trans HB.out hb2).setCell (p := ⟨z, 3, none⟩) (by have := Hz.out; simp <;> omega) (.slice A2 n k2))
    have Hcc := Lib.hid (And.intro hk2 hm2)
    clear k3 k4 hb2 ho2
    obtain ⟨w3, ew3⟩ : ∃ w3, w2.setCell ⟨z, 3, none⟩ (.slice A2 n k2) = w3 := ⟨_, rfl⟩
    rw [ew3] at K5 K6 Ho Hbb
    go_upto_region 5 with (fail)
    try rw [ew3]
    clear c0 c1 c2 c3 ew3
    obtain ⟨c0, c1, c2, c3⟩ := cells4 K5.out
    have gf := blk_free K6.out
    obtain ⟨r0, r1, r2, r3⟩ := cells4 K6.out
    have hne : ¬ z = z + 1 := by omega
    have hne2 : ¬ z + 1 = z := by omega
    have K7 := Lib.hid (set4_blk K6.out (.int .u8 ty) (.int .u8 cd) (.int .u32 (id * 65536 + rs % 65536)) (.slice A2 n k2))
    go_wp2_with fail
    obtain ⟨s0, s1, s2, s3⟩ := cells4 K7.out
    refine bodyPost_ret (v := .agg #[.int .u8 ty, .int .u8 cd, .int .u32 (id * 65536 + rs % 65536), .slice A2 n k2]) (by simp [results, Try.results17, go_sem, s0, s1, s2, s3]) rfl ?_
    have hzz := Hz.out
    have hw := Hzw.out
    have hlt : z + 1 < _ := hw
    exact ⟨A2, k2, by rw [Hy.out], Hcc.out.1, Hcc.out.2, (own_store (own_store (own_store (own_store Ho.out hlt _) hlt _) hlt _) hlt _).mono (by omega), ((((Hbb.out.setCell (by simp <;> omega) _).setCell (by simp <;> omega) _).setCell (by simp <;> omega) _).setCell (by simp <;> omega) _)⟩
  · have Hy := Lib.hid (hno h id)
    have H := Lib.hid h
    clear hy hno h
    go_enter Try.func17, Try.ntmps17
    go_upto_region 1 with (fail)
    rw [Hew.out]
    go_wp2_with fail
    refine (He.out _).mono ?_
    rintro e w1 ⟨h1, hb1⟩
    rw [if_neg H.out] at h1
    subst h1
    clear c0 c1 c2 c3
    obtain ⟨k0, k1, hrd, hB, hsz⟩ := HK.out w1 hb1
    obtain ⟨c0, c1, c2, c3⟩ := cells4 k0
    have KB := Lib.hid k0
    have KR := Lib.hid k1
    have Hrd := Lib.hid hrd
    have HB := Lib.hid hB
    have Hzw := Lib.hid (show z + 1 < w1.heap.size by omega)
    clear k0 k1 hb1 hrd hB hsz
    go_wp2_with fail
    refine (Hcl.out _ Hrd.out).mono ?_
    rintro e w2 ⟨A2, k2, rfl, hk2, hm2, ho2, hb2⟩
    clear c0 c1 c2 c3
    have k3 := blk_on KB.out hb2
    have k4 := blk_on KR.out hb2
    obtain ⟨c0, c1, c2, c3⟩ := cells4 k3
    have f0 := blk_free k3
    have K5 := Lib.hid (set_cell4d k3 (.slice A2 n k2))
    have K6 := Lib.hid (other_blk (i := 3) k4 (show z ≠ z + 1 by omega) (.slice A2 n k2))
    have Ho := Lib.hid (own_store (i := 3) ho2 (show z < _ by have := Hzw.out; omega) (.slice A2 n k2))
    have Hbb := Lib.hid ((below_trans HB.out hb2).setCell (p := ⟨z, 3, none⟩) (by have := Hz.out; simp <;> omega) (.slice A2 n k2))
    have Hcc := Lib.hid (And.intro hk2 hm2)
    clear k3 k4 hb2 ho2
    obtain ⟨w3, ew3⟩ : ∃ w3, w2.setCell ⟨z, 3, none⟩ (.slice A2 n k2) = w3 := ⟨_, rfl⟩
    rw [ew3] at K5 K6 Ho Hbb
    go_upto_region 5 with (fail)
    try rw [ew3]
    clear c0 c1 c2 c3 ew3
    obtain ⟨c0, c1, c2, c3⟩ := cells4 K5.out
    have gf := blk_free K6.out
    obtain ⟨r0, r1, r2, r3⟩ := cells4 K6.out
    have hne : ¬ z = z + 1 := by omega
    have hne2 : ¬ z + 1 = z := by omega
    have K7 := Lib.hid (set4_blk K6.out (.int .u8 ty) (.int .u8 cd) (.int .u32 rs) (.slice A2 n k2))
    go_wp2_with fail
    obtain ⟨s0, s1, s2, s3⟩ := cells4 K7.out
    refine bodyPost_ret (v := .agg #[.int .u8 ty, .int .u8 cd, .int .u32 rs, .slice A2 n k2]) (by simp [results, Try.results17, go_sem, s0, s1, s2, s3]) rfl ?_
    have hzz := Hz.out
    have hw := Hzw.out
    have hlt : z + 1 < _ := hw
    exact ⟨A2, k2, by rw [Hy.out], Hcc.out.1, Hcc.out.2, (own_store (own_store (own_store (own_store Ho.out hlt _) hlt _) hlt _) hlt _).mono (by omega), ((((Hbb.out.setCell (by simp <;> omega) _).setCell (by simp <;> omega) _).setCell (by simp <;> omega) _).setCell (by simp <;> omega) _)⟩

theorem over8_any (A : Option Addr) (n c : Nat) (l : List Int) (k : Nat) (w : World) (hA : Rd w A n l) (hc : n ≤ c ∧ c ≤ maxLen) (hk : min n 68 = k) :
    Calls Try.prog 18 #[.slice A n c] w (OverIs l k w) := by
  obtain ⟨z, hz⟩ : ∃ z, w.heap.size = z := ⟨_, rfl⟩
  have hrb : (w.alloc (.cells #[.int .u8 0, .int .u8 0, .int .u32 0, .slice none 0 0] 25)).heap[z]? = some (.cells #[.int .u8 0, .int .u8 0, .int .u32 0, .slice none 0 0] 25 (0, 0)) := by rw [← hz]; exact heap_alloc_new w _
  have hb0 : Below w.heap.size w (w.alloc (.cells #[.int .u8 0, .int .u8 0, .int .u32 0, .slice none 0 0] 25)) := (Below.refl _ _).alloc (Nat.le_refl _) _
  obtain ⟨w0, hw0⟩ : ∃ w0, w.alloc (.cells #[.int .u8 0, .int .u8 0, .int .u32 0, .slice none 0 0] 25) = w0 := ⟨_, rfl⟩
  have hs0 : w0.heap.size = z + 1 := by rw [← hw0, ← hz]; simp
  rw [hw0] at hrb hb0
  have Hz := Lib.hid hz
  have Hw := Lib.hid hw0
  have hmin : (if (n : Int) < 68 then (n : Int) else 68) = (k : Int) := by split <;> omega
  have hki : (k : Int) ≤ (c : Int) := by have := hc.1; omega
  have hk68 : k ≤ 68 := by omega
  have Hcl := Lib.hid (bclone_all A k c (l.take k) w0 (by omega) ((hA.take (by omega)).below hb0))
  have Hb0 := Lib.hid hb0
  have KB := Lib.hid hrb
  have Hs0 := Lib.hid hs0
  clear hrb hb0 hw0 hs0 hA hc hk
  go_enter Try.func18, Try.ntmps18
  go_upto_region 1 with (fail)
  rw [Hw.out]
  go_wp2_with fail
  refine Hcl.out.mono ?_
  rintro e w1 ⟨A1, c1, rfl, hk1, hm1, ho1, hb1⟩
  have k1 := blk_on KB.out hb1
  obtain ⟨r0, r1, r2, r3⟩ := cells4 k1
  have rf := blk_free k1
  have K2 := Lib.hid (set4_blk k1 (.int .u8 11) (.int .u8 0) (.int .u32 0) (.slice A1 k c1))
  have Ho := Lib.hid ho1
  have Hb := Lib.hid (below_trans Hb0.out hb1)
  have Hcc := Lib.hid (And.intro hk1 hm1)
  clear k1 ho1 hb1
  go_wp2_with fail
  obtain ⟨s0, s1, s2, s3⟩ := cells4 K2.out
  refine bodyPost_ret (v := .agg #[.int .u8 11, .int .u8 0, .int .u32 0, .slice A1 k c1]) (by simp [results, Try.results18, go_sem, s0, s1, s2, s3]) rfl ?_
  have hzz := Hz.out
  have hlt : z < w0.heap.size := by have := Hs0.out; omega
  exact ⟨A1, c1, rfl, Hcc.out.1, Hcc.out.2, (own_store (own_store (own_store (own_store Ho.out hlt _) hlt _) hlt _) hlt _).mono (by omega), ((((Hb.out.setCell (by simp <;> omega) _).setCell (by simp <;> omega) _).setCell (by simp <;> omega) _).setCell (by simp <;> omega) _)⟩

theorem same8_any (s t : Msg) (A : Option Addr) (n c : Nat) (A' : Option Addr) (n' c' : Nat) (w : World) (x : Bool) (h : Rd w A n s.d) (h' : Rd w A' n' t.d) (hx : msgSame s t = x) :
    Calls Try.prog 12 #[.agg #[.int .u8 s.ty, .int .u8 s.cd, .int .u32 s.rs, .slice A n c], .agg #[.int .u8 t.ty, .int .u8 t.cd, .int .u32 t.rs, .slice A' n' c']] w (BoolIs x w) := by
  obtain ⟨ty, cd, rs, d⟩ := s
  obtain ⟨ty', cd', rs', d'⟩ := t
  simp only at h h' ⊢
  have hb := ((Below.refl w.heap.size w).alloc (Nat.le_refl _) (.cells #[.int .u8 ty, .int .u8 cd, .int .u32 rs, .slice A n c] 25)).alloc (by simp) (.cells #[.int .u8 ty', .int .u8 cd', .int .u32 rs', .slice A' n' c'] 25)
  have H1 := Lib.hid (h.below hb)
  have H2 := Lib.hid (h'.below hb)
  have Hb := Lib.hid hb
  clear h h' hb
  unfold msgSame at hx
  simp only at hx
  by_cases h1 : ty = ty'
  case neg =>
    have h1b : (ty == ty') = false := by simpa using h1
    have Hx := Lib.hid (show x = false by rw [← hx]; simp [h1])
    clear hx h1
    go_enter Try.func12, Try.ntmps12
    go_wp2_with fail
    go_ret
    exact ⟨ret_bool (by rw [Hx.out]), Hb.out⟩
  subst h1
  by_cases h2 : cd = cd'
  case neg =>
    have h2b : (cd == cd') = false := by simpa using h2
    have Hx := Lib.hid (show x = false by rw [← hx]; simp [h2])
    clear hx h2
    go_enter Try.func12, Try.ntmps12
    go_wp2_with fail
    go_ret
    exact ⟨ret_bool (by rw [Hx.out]), Hb.out⟩
  subst h2
  by_cases h3 : rs = rs'
  case neg =>
    have h3b : (rs == rs') = false := by simpa using h3
    have Hx := Lib.hid (show x = false by rw [← hx]; simp [h3])
    clear hx h3
    go_enter Try.func12, Try.ntmps12
    go_wp2_with fail
    go_ret
    exact ⟨ret_bool (by rw [Hx.out]), Hb.out⟩
  subst h3
  have Hx := Lib.hid (show decide (d = d') = x by simpa using hx)
  clear hx
  go_enter Try.func12, Try.ntmps12
  go_wp2_with fail
  refine (bequal_any A A' n n' c c' d d' _ x H1.out H2.out Hx.out).mono ?_
  rintro e w' ⟨rfl, rfl⟩
  go_wp2_with fail
  go_ret
  exact ⟨rfl, Hb.out⟩
end Go.Proofs.Ytcdflpfgjodeaaa
