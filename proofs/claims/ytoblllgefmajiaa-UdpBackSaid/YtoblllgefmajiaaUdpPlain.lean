/-
  Plain mathematics of a datagram's bytes: they are read again, whichever way the addresses stand; with another sum they are refused. No function of the program.
-/
import Derived.Test.YtoblllgefmajiaaUdpRead
import Derived.Test.YtoblllgefmajiaaSumLay
namespace Go.Proofs.Ytoblllgefmajiaa
set_option maxRecDepth 10000
open Go.RowKit

theorem ws_pseudoU (s d p n : Int) (hs : 0 ≤ s ∧ s < 4294967296) (hd : 0 ≤ d ∧ d < 4294967296) (hn : 0 ≤ n ∧ n < 65536) : ws false (pseudoL s d p n) = s / 65536 + s % 65536 + (d / 65536 + d % 65536) + p + n := by
  simp [pseudoL, ws]; omega
theorem pseudo_even (a b c d : Int) : (pseudoL a b c d).length % 2 = 0 := by simp [pseudoL]
theorem ws_be16 (x : Int) : ws false (be16 x) = x := by simp [be16, ws]; omega
/-- What is summed beside the pseudo header and the field. -/
def restU (s : Dg) : Int := ws false (hdU s) + ws false s.d
theorem restU_nn {s : Dg} (h : DgNum s) (hl : s.d.length ≤ 1472) (hd : ∀ x ∈ s.d, 0 ≤ x ∧ x < 256) : 0 ≤ restU s := by
  have h1 := ws_nn (hdU s) (hdU_bytes h hl) false
  have h2 := ws_nn s.d hd false
  unfold restU; omega
theorem ws_dgB (src dst : Int) (s : Dg) : ws false (dgB src dst s) = restU s + fieldU src dst s := by
  unfold dgB restU
  rw [ws_even _ _ (by rw [hdU_len]), ws_even _ _ (by simp [be16]), ws_be16]; omega
theorem fold_right (N : Int) : fold16 N = 65535 ↔ 0 < N ∧ N % 65535 = 0 := by
  unfold fold16; split <;> omega
theorem fieldU_mod (src dst : Int) (s : Dg) (hs : 0 ≤ src ∧ src < 4294967296) (hd : 0 ≤ dst ∧ dst < 4294967296) (hl : s.d.length ≤ 1472) (hr : 0 ≤ restU s) :
    (src / 65536 + src % 65536 + (dst / 65536 + dst % 65536) + 17 + (8 + (s.d.length : Int)) + restU s + fieldU src dst s) % 65535 = 0 := by
  unfold fieldU fldU sumL
  rw [ws_even _ _ (pseudo_even _ _ _ _), ws_even _ _ (by rw [hdU_len]), ws_pseudoU _ _ _ _ hs hd (by omega)]
  unfold restU at hr ⊢
  obtain ⟨R, hR⟩ : ∃ R, ws false (hdU s) + ws false s.d = R := ⟨_, rfl⟩
  rw [hR] at hr ⊢
  obtain ⟨T, hT⟩ : ∃ T, src / 65536 + src % 65536 + (dst / 65536 + dst % 65536) + 17 + (8 + (s.d.length : Int)) + R = T := ⟨_, rfl⟩
  rw [hT]
  have hp : 0 < T := by omega
  unfold fold16
  rw [if_neg (show ¬ T ≤ 0 by omega)]
  split <;> omega

theorem dgB_list (src dst : Int) (s : Dg) : dgB src dst s = s.sp / 256 :: s.sp % 256 :: s.dp / 256 :: s.dp % 256 :: (8 + (s.d.length : Int)) / 256 :: (8 + (s.d.length : Int)) % 256 :: fieldU src dst s / 256 :: fieldU src dst s % 256 :: s.d := by
  simp [dgB, hdU, be16]
theorem dgOf_dgB (src dst : Int) (s : Dg) : dgOf (dgB src dst s) = s := by
  rw [dgB_list]
  obtain ⟨sp, dp, d⟩ := s
  simp only [dgOf, n16, List.getD_cons_zero, List.getD_cons_succ, List.drop_succ_cons, List.drop_zero, Dg.mk.injEq]
  simp
  omega
theorem n16_len (src dst : Int) (s : Dg) : n16 (dgB src dst s) 4 = 8 + (s.d.length : Int) := by
  rw [dgB_list]
  simp only [n16, List.getD_cons_zero, List.getD_cons_succ]
  omega
theorem n16_field (src dst : Int) (s : Dg) : n16 (dgB src dst s) 6 = fieldU src dst s := by
  rw [dgB_list]
  simp only [n16, List.getD_cons_zero, List.getD_cons_succ]
  omega
/-- Parse between any addresses of what Put told between src and dst. -/
theorem err_dgB (src dst src' dst' : Int) (s : Dg) (hs : 0 ≤ src ∧ src < 4294967296) (hd : 0 ≤ dst ∧ dst < 4294967296) (hs' : 0 ≤ src' ∧ src' < 4294967296) (hd' : 0 ≤ dst' ∧ dst' < 4294967296) (hl : s.d.length ≤ 1472) (hr : 0 ≤ restU s) :
    errU src' dst' (dgB src dst s) = if (src / 65536 + src % 65536 + (dst / 65536 + dst % 65536) - (src' / 65536 + src' % 65536 + (dst' / 65536 + dst' % 65536))) % 65535 = 0 then 0 else 20 := by
  have hm := fieldU_mod src dst s hs hd hl hr
  have hb : 0 < fieldU src dst s ∧ fieldU src dst s < 65536 := fldU_bd _
  have hlen := dgB_len src dst s
  unfold errU
  rw [if_neg (by omega), if_neg (by omega), if_neg (by rw [n16_len]; omega), n16_field]
  unfold sumL
  rw [ws_even _ _ (pseudo_even _ _ _ _), ws_pseudoU _ _ _ _ hs' hd' (by omega), ws_dgB, hlen]
  by_cases h : (src / 65536 + src % 65536 + (dst / 65536 + dst % 65536) - (src' / 65536 + src' % 65536 + (dst' / 65536 + dst' % 65536))) % 65535 = 0
  · rw [if_pos h, if_neg (fun hh => hh.2 ((fold_right _).2 (by omega)))]
  · rw [if_neg h, if_pos ⟨by omega, fun hh => by have := (fold_right _).1 hh; omega⟩]
end Go.Proofs.Ytoblllgefmajiaa
