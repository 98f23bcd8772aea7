/-
  Texts laid together: UdpPlain, PkSums.
-/
import Derived.Test.YtkooehejdfaekaaZS20
import Derived.Test.YtkooehejdfaekaaZS15
import Derived.Test.YtkooehejdfaekaaZS21
import Derived.Test.YtkooehejdfaekaaZS16
import Derived.Test.YtkooehejdfaekaaZS22

/-
  Plain mathematics of a datagram's bytes: they are read again, whichever way the addresses stand; with another sum they are refused. No function of the program.
-/
namespace Go.Proofs.Ytkooehejdfaekaa
set_option maxRecDepth 10000
open Go.RowKit

theorem ws_pseudoU (s d p n : Int) (hs : 0 ≤ s ∧ s < 4294967296) (hd : 0 ≤ d ∧ d < 4294967296) (hn : 0 ≤ n ∧ n < 65536) : ws false (pseudoL s d p n) = s / 65536 + s % 65536 + (d / 65536 + d % 65536) + p + n := by
  simp [pseudoL, ws]; omega
theorem pseudo_even (a b c d : Int) : (pseudoL a b c d).length % 2 = 0 := by simp [pseudoL]
theorem ws_be16 (x : Int) : ws false (be16 x) = x := by simp [be16, ws]; omega
/-- What is summed beside the pseudo header and the field. -/
def restU (s : Dg) : Int := ws false (hdU s) + ws false s.d
theorem restU_nn {s : Dg} (h : DgNum s) (hl : s.d.length ≤ 1472) (hd : ∀ x ∈ s.d, 0 ≤ x ∧ x < 256) : 0 ≤ restU s := by
  have h1 := ws_nn (hdU s) (hdU_bytes h hl) false
  have h2 := ws_nn s.d hd false
  unfold restU; omega
theorem ws_dgB (src dst : Int) (s : Dg) : ws false (dgB src dst s) = restU s + fieldU src dst s := by
  unfold dgB restU
  rw [ws_even _ _ (by rw [hdU_len]), ws_even _ _ (by simp [be16]), ws_be16]; omega
theorem fold_right (N : Int) : fold16 N = 65535 ↔ 0 < N ∧ N % 65535 = 0 := by
  unfold fold16; split <;> omega
theorem fieldU_mod (src dst : Int) (s : Dg) (hs : 0 ≤ src ∧ src < 4294967296) (hd : 0 ≤ dst ∧ dst < 4294967296) (hl : s.d.length ≤ 1472) (hr : 0 ≤ restU s) :
    (src / 65536 + src % 65536 + (dst / 65536 + dst % 65536) + 17 + (8 + (s.d.length : Int)) + restU s + fieldU src dst s) % 65535 = 0 := by
  unfold fieldU fldU sumL
  rw [ws_even _ _ (pseudo_even _ _ _ _), ws_even _ _ (by rw [hdU_len]), ws_pseudoU _ _ _ _ hs hd (by omega)]
  unfold restU at hr ⊢
  obtain ⟨R, hR⟩ : ∃ R, ws false (hdU s) + ws false s.d = R := ⟨_, rfl⟩
  rw [hR] at hr ⊢
  obtain ⟨T, hT⟩ : ∃ T, src / 65536 + src % 65536 + (dst / 65536 + dst % 65536) + 17 + (8 + (s.d.length : Int)) + R = T := ⟨_, rfl⟩
  rw [hT]
  have hp : 0 < T := by omega
  unfold fold16
  rw [if_neg (show ¬ T ≤ 0 by omega)]
  split <;> omega

end Go.Proofs.Ytkooehejdfaekaa

/-
  A packet's bytes that Put tells: lengths, and sums worked out anew. No function of the program.
-/
namespace Go.Proofs.Ytkooehejdfaekaa
set_option maxRecDepth 10000
open Go.RowKit

theorem ws_b16h (x : Int) : ws false (b16 x) = x := by simp [b16, ws]; omega
theorem head_sum (h : Hd) (P : List Int) (hn : HdNum h) (ho : ∀ x ∈ h.o, 0 ≤ x ∧ x < 256) (h40 : h.o.length ≤ 40) (hl : 20 + h.o.length + P.length ≤ 1500) : sumL ((hdB h P).take (20 + h.o.length)) = 65535 := by
  obtain ⟨a, ea⟩ : ∃ a, aheadL h.to h.id h.df h.tt h.pr h.o.length (20 + h.o.length + P.length) = a := ⟨_, rfl⟩
  obtain ⟨b, eb⟩ : ∃ b, behindL h.sr h.ds h.o = b := ⟨_, rfl⟩
  have ha : a.length = 10 := by rw [← ea]; rfl
  have hbl : b.length = 8 + h.o.length := by rw [← eb]; exact behindL_len _ _ _
  have h1 := ws_nn a (by rw [← ea]; exact aheadL_bytes hn.to hn.id hn.tt hn.pr h40 (by omega)) false
  have h2 := ws_nn b (by rw [← eb]; exact behindL_bytes hn.sr hn.ds ho) false
  have he : (hdB h P).take (20 + h.o.length) = a ++ (b16 (65535 - sumL (a ++ b)) ++ b) := by
    unfold hdB packetL fieldL
    rw [ea, eb, List.take_append_of_le_length (by simp [ha, hbl, b16]; omega), List.take_of_length_le (by simp [ha, hbl, b16]; omega), List.append_assoc]
  rw [he]
  unfold sumL
  rw [ws_even _ _ (by omega), ws_even _ _ (by simp [b16]), ws_b16h, ws_even _ _ (by omega)]
  generalize ws false a = x at *
  generalize ws false b = y at *
  unfold fold16
  split <;> split <;> omega
theorem drop_hdB (h : Hd) (P : List Int) : (hdB h P).drop (20 + h.o.length) = P := by
  unfold hdB packetL
  rw [List.drop_append_of_le_length (by simp [behindL_len, aheadL_len, b16]; omega), List.drop_eq_nil_of_le (by simp [behindL_len, aheadL_len, b16]; omega), List.nil_append]
theorem hdB_len (h : Hd) (P : List Int) : (hdB h P).length = 20 + h.o.length + P.length := packetL_len _ _ _ _ _ _ _ _ _
theorem hdB_at (h : Hd) (P : List Int) : (hdB h P).getD 0 0 = 64 + (20 + (h.o.length : Int)) / 4 ∧ (hdB h P).getD 2 0 = (20 + (h.o.length : Int) + P.length) / 256 ∧ (hdB h P).getD 3 0 = (20 + (h.o.length : Int) + P.length) % 256 := by
  obtain ⟨z, u, v, hz, e⟩ := packetL_cons h.to h.id h.df h.tt h.pr h.sr h.ds h.o P
  unfold hdB
  rw [e]
  subst hz
  exact ⟨rfl, rfl, rfl⟩

/-- What is so of a packet that Put lays. -/
theorem errPk_zero {q : Pk} (h : errPk q = 0) : mayP q = true ∧ errLoad q = 0 ∧ 20 + q.h.o.length + (loadB q).length ≤ 1500 ∧ pkB q = hdB q.h (loadB q) := by
  have hb : pkB q = hdB q.h (loadB q) := by unfold pkB; rw [if_pos h]
  unfold errPk at h
  by_cases h1 : mayP q = true
  · rw [if_pos h1] at h
    by_cases h2 : errLoad q = 0
    · rw [if_pos h2] at h
      by_cases h3 : 1500 < 20 + q.h.o.length + (loadB q).length
      · rw [if_pos h3] at h; exact absurd h (by decide)
      · exact ⟨h1, h2, by omega, hb⟩
    · rw [if_neg h2] at h; exact absurd h h2
  · rw [if_neg h1] at h; exact absurd h (by decide)
theorem may_zero {q : Pk} (h : mayP q = true) : (q.h.pr = 6 ∨ q.h.pr = 17 ∨ q.h.pr = 1) ∧ q.h.o.length ≤ 40 ∧ q.h.o.length % 4 = 0 := by
  unfold mayP mayB at h
  simp only [Bool.and_eq_true, Bool.or_eq_true, decide_eq_true_eq] at h
  exact ⟨h.1, h.2.1.1.2, h.2.1.2⟩
theorem reads_bytes {w : World} : ∀ {os : List OptV} {ls : List (Int × List Int)}, Reads w os ls → ∀ l ∈ ls, (0 ≤ l.1 ∧ l.1 < 256) ∧ ∀ x ∈ l.2, 0 ≤ x ∧ x < 256
  | [], [], _, l, hl => by cases hl
  | o :: os, l :: ls, h, u, hu => by
    rcases List.mem_cons.1 hu with rfl | hu
    · exact ⟨by rw [← h.1.1]; exact h.1.2.1, h.1.2.2.2.2.byte⟩
    · exact reads_bytes h.2 u hu
/-- The payload's sum, with the pseudo header or, of a message, without. -/
theorem load_sum {w : World} {q : Pk} {b : PkA} (hp : PkRd w q b) (h : errPk q = 0) :
    (q.h.pr = 1 → sumL (loadB q) = 65535) ∧ (q.h.pr ≠ 1 → sumL (pseudoL q.h.sr q.h.ds q.h.pr ((loadB q).length : Int) ++ loadB q) = 65535) := by
  obtain ⟨h1, h2, h3, -⟩ := errPk_zero h
  obtain ⟨hpr, -, -⟩ := may_zero h1
  unfold errLoad at h2
  rcases hpr with e | e | e
  · refine ⟨fun hh => by omega, fun _ => ?_⟩
    rw [if_pos e] at h2
    have hg : Good q.s := ⟨hp.sr.num, reads_bytes hp.sr.os, hp.sr.d.byte, h2⟩
    have hl : loadB q = segB q.h.sr q.h.ds q.s := by unfold loadB toldB; rw [if_pos e, if_pos h2]
    rw [hl, segB_len, e]
    exact hg.sum _ _
  · refine ⟨fun hh => by omega, fun _ => ?_⟩
    rw [if_neg (by omega), if_pos e] at h2
    have hd : q.u.d.length ≤ 1472 := by
      unfold errUP at h2
      by_cases hx : 1472 < q.u.d.length
      · rw [if_pos hx] at h2; exact absurd h2 (by decide)
      · omega
    have hl : loadB q = dgB q.h.sr q.h.ds q.u := by unfold loadB toldU; rw [if_neg (by omega), if_pos e, if_neg (by omega)]
    have hr := restU_nn hp.un hd hp.ur.byte
    have hm := fieldU_mod q.h.sr q.h.ds q.u hp.hn.sr hp.hn.ds hd hr
    have hb : 0 < fieldU q.h.sr q.h.ds q.u ∧ fieldU q.h.sr q.h.ds q.u < 65536 := fldU_bd _
    have s1 := hp.hn.sr
    have s2 := hp.hn.ds
    rw [hl, dgB_len, e]
    unfold sumL
    rw [ws_even _ _ (pseudo_even _ _ _ _), ws_pseudoU _ _ _ _ hp.hn.sr hp.hn.ds (by omega), ws_dgB]
    exact (fold_right _).2 (by constructor <;> omega)
  · refine ⟨fun _ => ?_, fun hh => absurd e hh⟩
    rw [if_neg (by omega), if_neg (by omega)] at h2
    have hd : q.m.d.length ≤ 1472 := by
      unfold errP at h2
      by_cases hx : 1472 < q.m.d.length
      · rw [if_pos hx] at h2; exact absurd h2 (by decide)
      · omega
    have hl : loadB q = msgB q.m := by unfold loadB toldM; rw [if_neg (by omega), if_neg (by omega), if_neg (by omega)]
    rw [hl]
    exact sum_msgB hp.mn hp.mr.byte
end Go.Proofs.Ytkooehejdfaekaa
