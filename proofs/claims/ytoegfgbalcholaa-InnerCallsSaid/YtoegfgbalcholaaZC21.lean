/-
  Texts laid together: TcpParse, TcpPlain, TcpRead, TcpWakes.
-/
import Derived.Test.YtoegfgbalcholaaZC17
import Derived.Test.YtoegfgbalcholaaZC20
import Derived.Test.YtoegfgbalcholaaZC18
import Derived.Test.YtoegfgbalcholaaZC01
import Derived.Deep.CutRange

/-
  The contract of the closure within package tcp's Parse: what is wrong is told in the document's own order; else the segment, its options and its data in rows of the call's own.
-/
namespace Go.Proofs.Ytoegfgbalcholaa
set_option maxRecDepth 10000
open Go.RowKit

end Go.Proofs.Ytoegfgbalcholaa

/-
  Segments' bytes, plainly: what is laid is read again, what is read may be laid; other addresses; one bit that is turned. No function of the program.
-/
namespace Go.Proofs.Ytoegfgbalcholaa
set_option maxRecDepth 10000
open Go.RowKit

theorem ws_b2 (f : Int) (h : 0 ≤ f ∧ f < 65536) : ws false (b2 f) = f := by simp [ws, b2]; omega
/-- All words of a segment's bytes, its field told apart. -/
def restS (s : Seg) : Int := ws false (aheadT s (offS s)) + ws false (be16 s.ug ++ (optB s ++ s.d))
theorem ws_segB {s : Seg} (h : SegNum s) (src dst : Int) : ws false (segB src dst s) = restS s + fieldS src dst s := by
  unfold segB restS
  rw [segHd_parts h]
  have e : aheadT s (offS s) ++ b2 (fieldS src dst s) ++ be16 s.ug ++ optB s ++ s.d = aheadT s (offS s) ++ (b2 (fieldS src dst s) ++ (be16 s.ug ++ (optB s ++ s.d))) := by simp
  rw [e, ws_even _ _ (by simp [aheadT, be16, be32]), ws_even _ _ (by simp [b2]), ws_b2 _ (fieldS_bd src dst s)]
  omega
theorem pseudo_len (a b c d : Int) : (pseudoL a b c d).length % 2 = 0 := by simp [pseudoL]
theorem fieldS_eq {s : Seg} (h : SegNum s) (src dst : Int) : fieldS src dst s = 65535 - fold16 (ws false (pseudoL src dst 6 (lenB s)) + restS s) := by
  rw [fieldS_of h src dst _ rfl]
  unfold sumL restS
  rw [show ([pseudoL src dst 6 (lenB s), aheadT s (offS s), be16 s.ug ++ (optB s ++ s.d)] : List (List Int)).flatten = pseudoL src dst 6 (lenB s) ++ (aheadT s (offS s) ++ (be16 s.ug ++ (optB s ++ s.d))) by simp,
    ws_even _ _ (pseudo_len _ _ _ _), ws_even _ _ (by simp [aheadT, be16, be32])]
/-- What was read of a sum: its total goes into 65535, and it is not 0. -/
theorem sum_right_iff (n : Int) (h : 0 ≤ n) : fold16 n = 65535 ↔ n % 65535 = 0 ∧ 0 < n := by unfold fold16; split <;> omega
theorem fill_right (T : Int) (h : 0 ≤ T) : fold16 (T + (65535 - fold16 T)) = 65535 := by
  have h1 := fold_mod T h
  have h2 := fold_bd T
  rw [sum_right_iff _ (by omega)]
  by_cases h0 : T = 0
  · subst h0; simp [fold_zero]
  · have := fold_pos T (by omega); omega
theorem segB_len (src dst : Int) (s : Seg) : (segB src dst s).length = lenB s := by
  simp [segB, segHd, b2, b4, lenB]; omega
theorem restS_nn {s : Seg} (h : SegNum s) (ho : 0 ≤ offS s ∧ offS s < 256) (hy : ∀ x ∈ optB s, 0 ≤ x ∧ x < 256) (hd : ∀ x ∈ s.d, 0 ≤ x ∧ x < 256) : 0 ≤ restS s := by
  have h1 := ws_nn (aheadT s (offS s)) (aheadT_bytes h ho) false
  have h2 := ws_nn (be16 s.ug ++ (optB s ++ s.d)) (fun x hx => by
    rcases List.mem_append.1 hx with h1 | h1
    · have := h.ug; simp [be16] at h1; omega
    · rcases List.mem_append.1 h1 with h2 | h2
      · exact hy x h2
      · exact hd x h2) false
  unfold restS
  omega

/-- What a segment that may be is. -/
structure Good (s : Seg) : Prop where
  num : SegNum s
  os : ∀ l ∈ s.os, (0 ≤ l.1 ∧ l.1 < 256) ∧ ∀ x ∈ l.2, 0 ≤ x ∧ x < 256
  d : ∀ x ∈ s.d, 0 ≤ x ∧ x < 256
  ok : errS s = 0
theorem Good.may {s : Seg} (h : Good s) : s.os.any badB = false ∧ (bytesO s.os).length ≤ 40 ∧ lenB s ≤ 1480 := by
  have hm := (errS_zero s).1 h.ok
  unfold mayT at hm
  rw [Bool.and_eq_true, Bool.and_eq_true] at hm
  obtain ⟨⟨h1, h2⟩, h3⟩ := hm
  exact ⟨by simpa using h1, by simpa using h2, by simpa using h3⟩
theorem Good.opt {s : Seg} (h : Good s) : (optB s).length ≤ 40 ∧ (optB s).length % 4 = 0 ∧ ∀ x ∈ optB s, 0 ≤ x ∧ x < 256 := by
  have hm := h.may
  have hl := padTo4_len (bytesO s.os)
  refine ⟨?_, ?_, padTo4_bytes_ (bytesO_bytes h.os (fun l hl => (badB_false (by have := hm.1; rw [List.any_eq_false] at this; simpa using this l hl)).2))⟩
  · unfold optB; omega
  · unfold optB; omega
theorem Good.off {s : Seg} (h : Good s) : 0 ≤ offS s ∧ offS s < 256 ∧ offS s / 16 * 4 = 20 + (optB s).length := by
  have := h.opt
  unfold offS
  omega
theorem Good.nn {s : Seg} (h : Good s) : 0 ≤ restS s := restS_nn h.num ⟨h.off.1, h.off.2.1⟩ h.opt.2.2 h.d
theorem ws_pseudo_nn (a b n : Int) : 6 ≤ ws false (pseudoL a b 6 n) := by simp [ws, pseudoL]; omega
theorem Good.sum {s : Seg} (h : Good s) (src dst : Int) : sumL (pseudoL src dst 6 (lenB s) ++ segB src dst s) = 65535 := by
  unfold sumL
  rw [ws_even _ _ (pseudo_len _ _ _ _), ws_segB h.num, fieldS_eq h.num, ← Int.add_assoc]
  exact fill_right _ (by have := ws_pseudo_nn src dst (lenB s); have := h.nn; omega)
theorem Good.bytes {s : Seg} (h : Good s) (src dst : Int) : ∀ x ∈ segB src dst s, 0 ≤ x ∧ x < 256 := by
  intro x hx
  unfold segB at hx
  rcases List.mem_append.1 hx with h1 | h1
  · rcases List.mem_append.1 h1 with h2 | h2
    · exact segHd_bytes s _ _ h.num.fl ⟨h.off.1, h.off.2.1⟩ x h2
    · exact h.opt.2.2 x h2
  · exact h.d x h1
/-- A segment's bytes, one by one. -/
theorem segB_cons (src dst : Int) (s : Seg) : ∃ f0 f1 : Int, segB src dst s = s.sp / 256 % 256 :: s.sp % 256 :: s.dp / 256 % 256 :: s.dp % 256 :: s.sq / 16777216 % 256 :: s.sq / 65536 % 256 :: s.sq / 256 % 256 :: s.sq % 256 ::
    s.ak / 16777216 % 256 :: s.ak / 65536 % 256 :: s.ak / 256 % 256 :: s.ak % 256 :: offS s :: s.fl :: s.wn / 256 % 256 :: s.wn % 256 :: f0 :: f1 :: s.ug / 256 % 256 :: s.ug % 256 :: (optB s ++ s.d) :=
  ⟨fieldS src dst s / 256 % 256, fieldS src dst s % 256, by simp [segB, segHd, b2, b4]⟩
theorem Good.offB {s : Seg} (h : Good s) (src dst : Int) : offB (segB src dst s) = 20 + (optB s).length := by
  obtain ⟨f0, f1, e⟩ := segB_cons src dst s
  have := h.off
  unfold Go.Proofs.Ytoegfgbalcholaa.offB
  rw [e]
  show (offS s / 16 * 4).toNat = _
  omega
theorem segB_drop (src dst : Int) (s : Seg) : (segB src dst s).drop 20 = optB s ++ s.d := by
  obtain ⟨f0, f1, e⟩ := segB_cons src dst s
  rw [e]; rfl
theorem Good.opts {s : Seg} (h : Good s) (src dst : Int) : parseO (((segB src dst s).take (Go.Proofs.Ytoegfgbalcholaa.offB (segB src dst s))).drop 20) = (s.os, 0) := by
  rw [h.offB, List.drop_take, segB_drop, Nat.add_sub_cancel_left, List.take_left]
  exact parseO_put h.may.1 h.may.2.1
/-- Other addresses: no segment, unless both pairs' sums are alike. -/
def pairW (src dst : Int) : Int := ws false (pseudoL src dst 0 0)
theorem pairW_eq (src dst n : Int) : ws false (pseudoL src dst 6 n) = pairW src dst + 6 + n % 65536 := by
  unfold pairW
  simp [ws, pseudoL]
  omega
theorem pairW_nn (src dst : Int) : 0 ≤ pairW src dst := by unfold pairW; simp [ws, pseudoL]; omega
theorem pair_sum (src dst : Int) : sumL (pseudoL src dst 0 0) = fold16 (pairW src dst) := rfl
theorem like_pair (a b : Int) (ha : 0 ≤ a) (hb : 0 ≤ b) : likeB (fold16 a) (fold16 b) = true ↔ a % 65535 = b % 65535 := by
  have h1 := fold_mod a ha
  have h2 := fold_mod b hb
  have h3 := fold_bd a
  have h4 := fold_bd b
  constructor
  · intro h; have := like_mod _ _ h; omega
  · intro h; exact like_of _ _ (by unfold U16; omega) (by unfold U16; omega) (by omega)
theorem Good.other {s : Seg} (h : Good s) (src dst src2 dst2 : Int) : errSeg src2 dst2 (segB src dst s) = if likeB (sumL (pseudoL src dst 0 0)) (sumL (pseudoL src2 dst2 0 0)) = true then 0 else 20 := by
  have h1 := h.may
  have h2 := segB_len src dst s
  have h3 := h.offB src dst
  have h4 := h.sum src dst
  have h5 := h.opts src dst
  have hnn := ws_nn _ (h.bytes src dst) false
  rw [pair_sum, pair_sum]
  have hl := like_pair (pairW src dst) (pairW src2 dst2) (pairW_nn _ _) (pairW_nn _ _)
  have p1 := pairW_nn src dst
  have p2 := pairW_nn src2 dst2
  unfold sumL at h4
  rw [ws_even _ _ (pseudo_len _ _ _ _), pairW_eq, sum_right_iff _ (by omega)] at h4
  have hs : sumL (pseudoL src2 dst2 6 (lenB s) ++ segB src dst s) = 65535 ↔ pairW src dst % 65535 = pairW src2 dst2 % 65535 := by
    unfold sumL
    rw [ws_even _ _ (pseudo_len _ _ _ _), pairW_eq, sum_right_iff _ (by omega)]
    omega
  unfold errSeg
  rw [if_neg (by omega), if_neg (by unfold lenB at h2; omega), if_neg (by omega), if_neg (by unfold lenB at h2; omega), h2]
  by_cases hk : likeB (fold16 (pairW src dst)) (fold16 (pairW src2 dst2)) = true
  · rw [if_pos hk, if_neg (by rw [hs.2 (hl.1 hk)]; simp), if_neg (by rw [h5]; simp)]
  · rw [if_neg hk, if_pos (fun h6 => hk (hl.2 (hs.1 h6)))]

end Go.Proofs.Ytoegfgbalcholaa

/-
  The contract of package tcp's Parse: what is wrong is told in the document's own order; else the segment, its options and its data in rows of the call's own.
-/
namespace Go.Proofs.Ytoegfgbalcholaa
set_option maxRecDepth 10000
open Go.RowKit

end Go.Proofs.Ytoegfgbalcholaa

/-
  culvertlaw06's wakes: what the document's examples say.
-/
namespace Go.Proofs.Ytoegfgbalcholaa
set_option maxRecDepth 10000
open Go.RowKit

theorem segB_bytes {src dst : Int} {s : Seg} (h : SegNum s) (h0 : errS s = 0) (ho : ∀ l ∈ s.os, (0 ≤ l.1 ∧ l.1 < 256) ∧ ∀ x ∈ l.2, 0 ≤ x ∧ x < 256) (hd : ∀ x ∈ s.d, 0 ≤ x ∧ x < 256) : ∀ x ∈ segB src dst s, 0 ≤ x ∧ x < 256 := by
  have hm := (errS_zero s).1 h0
  unfold mayT at hm
  simp at hm
  have hl := padTo4_len (bytesO s.os)
  have hyl : ∀ l ∈ s.os, l.2.length ≤ 38 := fun l hl => (badB_false (by have := hm.1.1; simpa using this l.1 l.2 hl)).2
  intro x hx
  unfold segB at hx
  rcases List.mem_append.1 hx with h1 | h1
  · rcases List.mem_append.1 h1 with h2 | h2
    · refine segHd_bytes s _ _ h.fl ?_ x h2
      unfold offS optB
      omega
    · exact padTo4_bytes_ (bytesO_bytes ho hyl) x h2
  · exact hd x h1

end Go.Proofs.Ytoegfgbalcholaa
