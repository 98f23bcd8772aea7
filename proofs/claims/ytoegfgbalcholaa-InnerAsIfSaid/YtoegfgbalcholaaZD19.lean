/-
  Texts laid together: TcpParse, TcpPlain, InLoad, InAsP.
-/
import Derived.Test.YtoegfgbalcholaaZD15
import Derived.Test.YtoegfgbalcholaaZD18
import Derived.Test.YtoegfgbalcholaaZD16
import Derived.Test.YtoegfgbalcholaaZD01
import Derived.Test.YtoegfgbalcholaaZD10
import Derived.Test.YtoegfgbalcholaaZD11
import Derived.Test.YtoegfgbalcholaaZD08

/-
  The contract of the closure within package tcp's Parse: what is wrong is told in the document's own order; else the segment, its options and its data in rows of the call's own.
-/
namespace Go.Proofs.Ytoegfgbalcholaa
set_option maxRecDepth 10000
open Go.RowKit

end Go.Proofs.Ytoegfgbalcholaa

/-
  Segments' bytes, plainly: what is laid is read again, what is read may be laid; other addresses; one bit that is turned. No function of the program.
-/
namespace Go.Proofs.Ytoegfgbalcholaa
set_option maxRecDepth 10000
open Go.RowKit

theorem ws_b2 (f : Int) (h : 0 ≤ f ∧ f < 65536) : ws false (b2 f) = f := by simp [ws, b2]; omega
/-- All words of a segment's bytes, its field told apart. -/
def restS (s : Seg) : Int := ws false (aheadT s (offS s)) + ws false (be16 s.ug ++ (optB s ++ s.d))
theorem ws_segB {s : Seg} (h : SegNum s) (src dst : Int) : ws false (segB src dst s) = restS s + fieldS src dst s := by
  unfold segB restS
  rw [segHd_parts h]
  have e : aheadT s (offS s) ++ b2 (fieldS src dst s) ++ be16 s.ug ++ optB s ++ s.d = aheadT s (offS s) ++ (b2 (fieldS src dst s) ++ (be16 s.ug ++ (optB s ++ s.d))) := by simp
  rw [e, ws_even _ _ (by simp [aheadT, be16, be32]), ws_even _ _ (by simp [b2]), ws_b2 _ (fieldS_bd src dst s)]
  omega
theorem pseudo_len (a b c d : Int) : (pseudoL a b c d).length % 2 = 0 := by simp [pseudoL]
theorem fieldS_eq {s : Seg} (h : SegNum s) (src dst : Int) : fieldS src dst s = 65535 - fold16 (ws false (pseudoL src dst 6 (lenB s)) + restS s) := by
  rw [fieldS_of h src dst _ rfl]
  unfold sumL restS
  rw [show ([pseudoL src dst 6 (lenB s), aheadT s (offS s), be16 s.ug ++ (optB s ++ s.d)] : List (List Int)).flatten = pseudoL src dst 6 (lenB s) ++ (aheadT s (offS s) ++ (be16 s.ug ++ (optB s ++ s.d))) by simp,
    ws_even _ _ (pseudo_len _ _ _ _), ws_even _ _ (by simp [aheadT, be16, be32])]
/-- What was read of a sum: its total goes into 65535, and it is not 0. -/
theorem sum_right_iff (n : Int) (h : 0 ≤ n) : fold16 n = 65535 ↔ n % 65535 = 0 ∧ 0 < n := by unfold fold16; split <;> omega
theorem fill_right (T : Int) (h : 0 ≤ T) : fold16 (T + (65535 - fold16 T)) = 65535 := by
  have h1 := fold_mod T h
  have h2 := fold_bd T
  rw [sum_right_iff _ (by omega)]
  by_cases h0 : T = 0
  · subst h0; simp [fold_zero]
  · have := fold_pos T (by omega); omega
theorem segB_len (src dst : Int) (s : Seg) : (segB src dst s).length = lenB s := by
  simp [segB, segHd, b2, b4, lenB]; omega
theorem restS_nn {s : Seg} (h : SegNum s) (ho : 0 ≤ offS s ∧ offS s < 256) (hy : ∀ x ∈ optB s, 0 ≤ x ∧ x < 256) (hd : ∀ x ∈ s.d, 0 ≤ x ∧ x < 256) : 0 ≤ restS s := by
  have h1 := ws_nn (aheadT s (offS s)) (aheadT_bytes h ho) false
  have h2 := ws_nn (be16 s.ug ++ (optB s ++ s.d)) (fun x hx => by
    rcases List.mem_append.1 hx with h1 | h1
    · have := h.ug; simp [be16] at h1; omega
    · rcases List.mem_append.1 h1 with h2 | h2
      · exact hy x h2
      · exact hd x h2) false
  unfold restS
  omega

/-- What a segment that may be is. -/
structure Good (s : Seg) : Prop where
  num : SegNum s
  os : ∀ l ∈ s.os, (0 ≤ l.1 ∧ l.1 < 256) ∧ ∀ x ∈ l.2, 0 ≤ x ∧ x < 256
  d : ∀ x ∈ s.d, 0 ≤ x ∧ x < 256
  ok : errS s = 0
theorem Good.may {s : Seg} (h : Good s) : s.os.any badB = false ∧ (bytesO s.os).length ≤ 40 ∧ lenB s ≤ 1480 := by
  have hm := (errS_zero s).1 h.ok
  unfold mayT at hm
  rw [Bool.and_eq_true, Bool.and_eq_true] at hm
  obtain ⟨⟨h1, h2⟩, h3⟩ := hm
  exact ⟨by simpa using h1, by simpa using h2, by simpa using h3⟩
theorem Good.opt {s : Seg} (h : Good s) : (optB s).length ≤ 40 ∧ (optB s).length % 4 = 0 ∧ ∀ x ∈ optB s, 0 ≤ x ∧ x < 256 := by
  have hm := h.may
  have hl := padTo4_len (bytesO s.os)
  refine ⟨?_, ?_, padTo4_bytes_ (bytesO_bytes h.os (fun l hl => (badB_false (by have := hm.1; rw [List.any_eq_false] at this; simpa using this l hl)).2))⟩
  · unfold optB; omega
  · unfold optB; omega
theorem Good.off {s : Seg} (h : Good s) : 0 ≤ offS s ∧ offS s < 256 ∧ offS s / 16 * 4 = 20 + (optB s).length := by
  have := h.opt
  unfold offS
  omega
theorem Good.nn {s : Seg} (h : Good s) : 0 ≤ restS s := restS_nn h.num ⟨h.off.1, h.off.2.1⟩ h.opt.2.2 h.d
theorem ws_pseudo_nn (a b n : Int) : 6 ≤ ws false (pseudoL a b 6 n) := by simp [ws, pseudoL]; omega
theorem Good.sum {s : Seg} (h : Good s) (src dst : Int) : sumL (pseudoL src dst 6 (lenB s) ++ segB src dst s) = 65535 := by
  unfold sumL
  rw [ws_even _ _ (pseudo_len _ _ _ _), ws_segB h.num, fieldS_eq h.num, ← Int.add_assoc]
  exact fill_right _ (by have := ws_pseudo_nn src dst (lenB s); have := h.nn; omega)
theorem Good.bytes {s : Seg} (h : Good s) (src dst : Int) : ∀ x ∈ segB src dst s, 0 ≤ x ∧ x < 256 := by
  intro x hx
  unfold segB at hx
  rcases List.mem_append.1 hx with h1 | h1
  · rcases List.mem_append.1 h1 with h2 | h2
    · exact segHd_bytes s _ _ h.num.fl ⟨h.off.1, h.off.2.1⟩ x h2
    · exact h.opt.2.2 x h2
  · exact h.d x h1
/-- A segment's bytes, one by one. -/
theorem segB_cons (src dst : Int) (s : Seg) : ∃ f0 f1 : Int, segB src dst s = s.sp / 256 % 256 :: s.sp % 256 :: s.dp / 256 % 256 :: s.dp % 256 :: s.sq / 16777216 % 256 :: s.sq / 65536 % 256 :: s.sq / 256 % 256 :: s.sq % 256 ::
    s.ak / 16777216 % 256 :: s.ak / 65536 % 256 :: s.ak / 256 % 256 :: s.ak % 256 :: offS s :: s.fl :: s.wn / 256 % 256 :: s.wn % 256 :: f0 :: f1 :: s.ug / 256 % 256 :: s.ug % 256 :: (optB s ++ s.d) :=
  ⟨fieldS src dst s / 256 % 256, fieldS src dst s % 256, by simp [segB, segHd, b2, b4]⟩
theorem Good.offB {s : Seg} (h : Good s) (src dst : Int) : offB (segB src dst s) = 20 + (optB s).length := by
  obtain ⟨f0, f1, e⟩ := segB_cons src dst s
  have := h.off
  unfold Go.Proofs.Ytoegfgbalcholaa.offB
  rw [e]
  show (offS s / 16 * 4).toNat = _
  omega
theorem segB_drop (src dst : Int) (s : Seg) : (segB src dst s).drop 20 = optB s ++ s.d := by
  obtain ⟨f0, f1, e⟩ := segB_cons src dst s
  rw [e]; rfl
theorem Good.opts {s : Seg} (h : Good s) (src dst : Int) : parseO (((segB src dst s).take (Go.Proofs.Ytoegfgbalcholaa.offB (segB src dst s))).drop 20) = (s.os, 0) := by
  rw [h.offB, List.drop_take, segB_drop, Nat.add_sub_cancel_left, List.take_left]
  exact parseO_put h.may.1 h.may.2.1
/-- Other addresses: no segment, unless both pairs' sums are alike. -/
def pairW (src dst : Int) : Int := ws false (pseudoL src dst 0 0)
theorem pairW_eq (src dst n : Int) : ws false (pseudoL src dst 6 n) = pairW src dst + 6 + n % 65536 := by
  unfold pairW
  simp [ws, pseudoL]
  omega
theorem pairW_nn (src dst : Int) : 0 ≤ pairW src dst := by unfold pairW; simp [ws, pseudoL]; omega
theorem pair_sum (src dst : Int) : sumL (pseudoL src dst 0 0) = fold16 (pairW src dst) := rfl
theorem like_pair (a b : Int) (ha : 0 ≤ a) (hb : 0 ≤ b) : likeB (fold16 a) (fold16 b) = true ↔ a % 65535 = b % 65535 := by
  have h1 := fold_mod a ha
  have h2 := fold_mod b hb
  have h3 := fold_bd a
  have h4 := fold_bd b
  constructor
  · intro h; have := like_mod _ _ h; omega
  · intro h; exact like_of _ _ (by unfold U16; omega) (by unfold U16; omega) (by omega)
theorem Good.other {s : Seg} (h : Good s) (src dst src2 dst2 : Int) : errSeg src2 dst2 (segB src dst s) = if likeB (sumL (pseudoL src dst 0 0)) (sumL (pseudoL src2 dst2 0 0)) = true then 0 else 20 := by
  have h1 := h.may
  have h2 := segB_len src dst s
  have h3 := h.offB src dst
  have h4 := h.sum src dst
  have h5 := h.opts src dst
  have hnn := ws_nn _ (h.bytes src dst) false
  rw [pair_sum, pair_sum]
  have hl := like_pair (pairW src dst) (pairW src2 dst2) (pairW_nn _ _) (pairW_nn _ _)
  have p1 := pairW_nn src dst
  have p2 := pairW_nn src2 dst2
  unfold sumL at h4
  rw [ws_even _ _ (pseudo_len _ _ _ _), pairW_eq, sum_right_iff _ (by omega)] at h4
  have hs : sumL (pseudoL src2 dst2 6 (lenB s) ++ segB src dst s) = 65535 ↔ pairW src dst % 65535 = pairW src2 dst2 % 65535 := by
    unfold sumL
    rw [ws_even _ _ (pseudo_len _ _ _ _), pairW_eq, sum_right_iff _ (by omega)]
    omega
  unfold errSeg
  rw [if_neg (by omega), if_neg (by unfold lenB at h2; omega), if_neg (by omega), if_neg (by unfold lenB at h2; omega), h2]
  by_cases hk : likeB (fold16 (pairW src dst)) (fold16 (pairW src2 dst2)) = true
  · rw [if_pos hk, if_neg (by rw [hs.2 (hl.1 hk)]; simp), if_neg (by rw [h5]; simp)]
  · rw [if_neg hk, if_pos (fun h6 => hk (hl.2 (hs.1 h6)))]

end Go.Proofs.Ytoegfgbalcholaa

/-
  A payload laid with other addresses, ports, number: where it agrees with the first one (stage 16, written ahead): plain lists.
-/
namespace Go.Proofs.Ytoegfgbalcholaa
set_option maxRecDepth 10000
set_option linter.unusedSimpArgs false
set_option linter.unusedVariables false

structure LoadQ (pr sr ds sr' ds' sp dp q : Int) (P P' : List Int) : Prop where
  byte : Bytes P
  byte' : Bytes P'
  len : P.length = P'.length
  h8 : 8 ≤ P.length
  hF : 2 * qF pr 0 + 2 ≤ P.length
  agree : ∀ j, j / 2 ≠ qF pr 0 → j / 2 ∉ keysQ pr 0 → P.getD j 0 = P'.getD j 0
  sum : ((if pr = 1 then 0 else (sr' / 65536 + sr' % 65536 + ds' / 65536 + ds' % 65536) - (sr / 65536 + sr % 65536 + ds / 65536 + ds % 65536)) + (ws false P' - ws false P)) % 65535 = 0
  id : pr = 1 → wordL P' 2 = sp
  ports : pr ≠ 1 → wordL P' 0 = sp ∧ wordL P' 1 = dp
  num : pr = 6 → wordL P' 2 = q / 65536 ∧ wordL P' 3 = q % 65536
  nz : pr = 17 → wordL P (qF pr 0) ≠ 0
theorem segB_list (src dst : Int) (s : Seg) : segB src dst s = [s.sp / 256 % 256, s.sp % 256, s.dp / 256 % 256, s.dp % 256, s.sq / 16777216 % 256, s.sq / 65536 % 256, s.sq / 256 % 256, s.sq % 256, s.ak / 16777216 % 256, s.ak / 65536 % 256, s.ak / 256 % 256, s.ak % 256, offS s, s.fl, s.wn / 256 % 256, s.wn % 256, fieldS src dst s / 256 % 256, fieldS src dst s % 256, s.ug / 256 % 256, s.ug % 256] ++ (optB s ++ s.d) := by
  simp [segB, segHd, b2, b4]
theorem getD_behind (a b c : List Int) (h : a.length = b.length) (j : Nat) (hj : a.length ≤ j) : (a ++ c).getD j 0 = (b ++ c).getD j 0 := by
  simp only [List.getD]
  rw [List.getElem?_append_right hj, List.getElem?_append_right (by omega), h]
theorem seg_load (s : Seg) (sr ds sr' ds' sp dp q : Int) (hg : Good s) (h1 : 0 ≤ sr ∧ sr < 4294967296) (h2 : 0 ≤ ds ∧ ds < 4294967296) (h1' : 0 ≤ sr' ∧ sr' < 4294967296) (h2' : 0 ≤ ds' ∧ ds' < 4294967296) (hsp : 0 ≤ sp ∧ sp < 65536) (hdp : 0 ≤ dp ∧ dp < 65536) (hq : 0 ≤ q ∧ q < 4294967296) :
    LoadQ 6 sr ds sr' ds' sp dp q (segB sr ds s) (segB sr' ds' { s with sp := sp, dp := dp, sq := q }) ∧ Good { s with sp := sp, dp := dp, sq := q } := by
  have hg' : Good { s with sp := sp, dp := dp, sq := q } := ⟨⟨hsp, hdp, hq, hg.num.ak, hg.num.fl, hg.num.wn, hg.num.ug⟩, hg.os, hg.d, hg.ok⟩
  have hl1 := segB_len sr ds s
  have hl2 := segB_len sr' ds' { s with sp := sp, dp := dp, sq := q }
  have hll : lenB { s with sp := sp, dp := dp, sq := q } = lenB s := rfl
  have hm := hg.may.2.2
  have h20 : 20 ≤ lenB s := by unfold lenB; omega
  refine ⟨⟨hg.bytes sr ds, hg'.bytes sr' ds', by rw [hl1, hl2, hll], by rw [hl1]; omega, by rw [hl1]; unfold qF; simp; omega, fun j hF hk => ?_, ?_, fun h => by omega, fun _ => ?_, fun _ => ?_, fun h => by omega⟩, hg'⟩
  · have hF8 : j / 2 ≠ 8 := by unfold qF at hF; simpa using hF
    have hk4 : 4 ≤ j / 2 := by
      unfold keysQ at hk
      simp at hk
      omega
    rw [segB_list, segB_list]
    by_cases hj : j < 20
    · rcases (show j = 8 ∨ j = 9 ∨ j = 10 ∨ j = 11 ∨ j = 12 ∨ j = 13 ∨ j = 14 ∨ j = 15 ∨ j = 18 ∨ j = 19 by omega) with rfl | rfl | rfl | rfl | rfl | rfl | rfl | rfl | rfl | rfl <;> rfl
    · refine getD_behind _ _ _ ?_ j ?_
      · rfl
      · show 20 ≤ j
        omega
  · have g1 := (sumL_full16).1 (hg.sum sr ds)
    have g2 := (sumL_full16).1 (hg'.sum sr' ds')
    rw [ws_even _ _ (pseudo_even _ _ _ _), ws_pseudoU _ _ _ _ h1 h2 (by omega)] at g1
    rw [ws_even _ _ (pseudo_even _ _ _ _), ws_pseudoU _ _ _ _ h1' h2' (by rw [hll]; omega), hll] at g2
    rw [if_neg (by decide)]
    omega
  · rw [segB_list]
    unfold wordL
    exact ⟨by show sp / 256 % 256 * 256 + sp % 256 = sp; omega, by show dp / 256 % 256 * 256 + dp % 256 = dp; omega⟩
  · rw [segB_list]
    unfold wordL
    exact ⟨by show q / 16777216 % 256 * 256 + q / 65536 % 256 = q / 65536; omega, by show q / 256 % 256 * 256 + q % 256 = q % 65536; omega⟩
theorem dg_load (s : Dg) (sr ds sr' ds' sp dp q : Int) (hn : DgNum s) (hd : s.d.length ≤ 1472) (hb : ∀ x ∈ s.d, 0 ≤ x ∧ x < 256) (h1 : 0 ≤ sr ∧ sr < 4294967296) (h2 : 0 ≤ ds ∧ ds < 4294967296) (h1' : 0 ≤ sr' ∧ sr' < 4294967296) (h2' : 0 ≤ ds' ∧ ds' < 4294967296) (hsp : 0 ≤ sp ∧ sp < 65536) (hdp : 0 ≤ dp ∧ dp < 65536) :
    LoadQ 17 sr ds sr' ds' sp dp q (dgB sr ds s) (dgB sr' ds' { s with sp := sp, dp := dp }) ∧ DgNum { s with sp := sp, dp := dp } := by
  have hn' : DgNum { s with sp := sp, dp := dp } := ⟨hsp, hdp⟩
  have hl1 := dgB_len sr ds s
  have hl2 := dgB_len sr' ds' { s with sp := sp, dp := dp }
  simp only at hl2
  have hr := restU_nn hn hd hb
  have hr' := restU_nn hn' hd hb
  have hm := fieldU_mod sr ds s h1 h2 hd hr
  have hm' := fieldU_mod sr' ds' { s with sp := sp, dp := dp } h1' h2' hd hr'
  have hf : 0 < fieldU sr ds s ∧ fieldU sr ds s < 65536 := fldU_bd _
  refine ⟨⟨dgB_bytes sr ds hn hd hb, dgB_bytes sr' ds' hn' hd hb, by rw [hl1, hl2], by rw [hl1]; omega, by rw [hl1]; unfold qF; simp, fun j hF hk => ?_, ?_, fun h => by omega, fun _ => ?_, fun h => by omega, fun _ => ?_⟩, hn'⟩
  · have hF3 : j / 2 ≠ 3 := by unfold qF at hF; simpa using hF
    have hk2 : 2 ≤ j / 2 := by
      unfold keysQ at hk
      simp at hk
      omega
    rw [dgB_list, dgB_list]
    by_cases hj : j < 8
    · rcases (show j = 4 ∨ j = 5 by omega) with rfl | rfl <;> rfl
    · obtain ⟨k, rfl⟩ : ∃ k, j = k + 8 := ⟨j - 8, by omega⟩
      simp only [List.getD_cons_succ]
  · rw [ws_dgB, ws_dgB, if_neg (by decide)]
    simp only at hm'
    omega
  · rw [dgB_list]
    unfold wordL
    exact ⟨by show sp / 256 * 256 + sp % 256 = sp; omega, by show dp / 256 * 256 + dp % 256 = dp; omega⟩
  · rw [dgB_list]
    unfold wordL qF
    show fieldU sr ds s / 256 * 256 + fieldU sr ds s % 256 ≠ 0
    omega
theorem msg_load (s : Msg) (sr ds sr' ds' sp dp q : Int) (hn : MsgNum s) (hd : s.d.length ≤ 1472) (hb : ∀ x ∈ s.d, 0 ≤ x ∧ x < 256) (he : echoM s.ty s.cd = true) (hsp : 0 ≤ sp ∧ sp < 65536) :
    LoadQ 1 sr ds sr' ds' sp dp q (msgB s) (msgB (withM s sp)) ∧ MsgNum (withM s sp) ∧ (withM s sp).d = s.d := by
  have hw : withM s sp = ⟨s.ty, s.cd, 65536 * sp + s.rs % 65536, s.d⟩ := by unfold withM; rw [if_pos he]
  have hrs := hn.rs
  have hn' : MsgNum (withM s sp) := by rw [hw]; exact ⟨hn.ty, hn.cd, by simp only; omega⟩
  have hlist : ∀ m : Msg, msgB m = [m.ty, m.cd, fieldM m / 256, fieldM m % 256, m.rs / 16777216, m.rs / 65536 % 256, m.rs / 256 % 256, m.rs % 256] ++ m.d := fun m => by simp [msgB, headM, tailM, be16, be32]
  have hl1 := msgB_len s
  have hl2 := msgB_len (withM s sp)
  have hd2 : (withM s sp).d = s.d := by rw [hw]
  rw [hd2] at hl2
  have g1 := (sumL_full16).1 (sum_msgB hn hb)
  have g2 := (sumL_full16).1 (sum_msgB hn' (by rw [hd2]; exact hb))
  have hby : ∀ m : Msg, MsgNum m → (∀ x ∈ m.d, 0 ≤ x ∧ x < 256) → Bytes (msgB m) := fun m hm hx => by
    have hfm : 0 ≤ fieldM m ∧ fieldM m ≤ 65535 := by unfold fieldM; have := sumL_bd (headM m ++ (be16 0 ++ tailM m)); unfold U16 at this; omega
    have h3 := hm.ty; have h4 := hm.cd; have h5 := hm.rs
    rw [hlist m]
    intro x hx2
    rcases List.mem_append.1 hx2 with hx2 | hx2
    · simp only [List.mem_cons, List.not_mem_nil, or_false] at hx2
      rcases hx2 with rfl | rfl | rfl | rfl | rfl | rfl | rfl | rfl <;> omega
    · exact hx x hx2
  refine ⟨⟨hby s hn hb, hby _ hn' (by rw [hd2]; exact hb), by rw [hl1, hl2], by rw [hl1]; omega, by rw [hl1]; unfold qF; simp; omega, fun j hF hk => ?_, ?_, fun _ => ?_, fun h => absurd rfl h, fun h => by omega, fun h => by omega⟩, hn', hd2⟩
  · have hF1 : j / 2 ≠ 1 := by unfold qF at hF; simpa using hF
    have hk2 : j / 2 ≠ 2 := by
      unfold keysQ at hk
      simpa using hk
    rw [hw, hlist, hlist]
    by_cases hj : j < 8
    · rcases (show j = 0 ∨ j = 1 ∨ j = 6 ∨ j = 7 by omega) with rfl | rfl | rfl | rfl
      · rfl
      · rfl
      · show s.rs / 256 % 256 = (65536 * sp + s.rs % 65536) / 256 % 256; omega
      · show s.rs % 256 = (65536 * sp + s.rs % 65536) % 256; omega
    · refine getD_behind _ _ _ ?_ j ?_
      · rfl
      · show 8 ≤ j
        omega
  · rw [if_pos rfl]; omega
  · rw [hw, hlist]
    unfold wordL
    show (65536 * sp + s.rs % 65536) / 16777216 * 256 + (65536 * sp + s.rs % 65536) / 65536 % 256 = sp
    omega
end Go.Proofs.Ytoegfgbalcholaa

/-
  InnerAsIf's facts: the quote of a packet, rewritten, and the quote of the packet that has the other addresses (stage 16, written ahead): plain lists.
-/
namespace Go.Proofs.Ytoegfgbalcholaa
set_option maxRecDepth 10000
set_option linter.unusedSimpArgs false
set_option linter.unusedVariables false

/-- A quote of a laid packet. -/
structure QuoA (h : Hd) (P : List Int) (H m many : Nat) (la : List Int) : Prop where
  is_ : la = (hdB h P).take m
  cut : m = min (hdB h P).length (2 * H + many)
  len : la.length = m
theorem quo_a_of {h : Hd} {P : List Int} {H many : Nat} (hf : HdFits h P.length) (hH : 20 + h.o.length = 2 * H) : ∃ m, QuoA h P H m many (ofL (hdB h P) (many : Int)) := by
  have hl := hd_len h P
  obtain ⟨a1, a2, a3, a4, -⟩ := hd_head h P hf
  refine ⟨_, ?_, rfl, ?_⟩
  · unfold ofL ofN
    rw [if_neg (by omega), if_neg (by omega), a2]
    congr 2
    omega
  · rw [ofL_len]
    unfold ofN
    rw [if_neg (by omega), if_neg (by omega), a2]
    omega
/-- Read of it: no error, from 8 bytes of the payload on. -/
theorem quo_ok {h : Hd} {P la : List Int} {H m many : Nat} (hq : QuoA h P H m many la) (hf : HdFits h P.length) (hH : 20 + h.o.length = 2 * H) (h8 : 8 ≤ P.length) (hm : 8 ≤ many) :
    (2 * H + 8 ≤ m ∧ m ≤ (hdB h P).length) ∧ la.getD 9 0 = h.pr ∧ qH la = H ∧ (h.pr = 6 ∨ h.pr = 17 ∨ (h.pr = 1 ∧ echoM (P.getD 0 0) (P.getD 1 0) = true) → errQ la = 0) ∧ (∀ k, 2 * k + 1 < m → wordL la k = wordL (hdB h P) k) := by
  have hl := hd_len h P
  obtain ⟨a1, a2, a3, a4, -⟩ := hd_head h P hf
  have hmm := hq.cut
  have hge : 2 * H + 8 ≤ m := by omega
  have hg : ∀ i, i < m → la.getD i 0 = (hdB h P).getD i 0 := fun i hi => by rw [hq.is_]; exact getD_takeQ _ _ _ hi
  have hwd : ∀ k, 2 * k + 1 < m → wordL la k = wordL (hdB h P) k := fun k hk => by rw [hq.is_]; exact wordL_takeQ _ _ _ hk
  have hqH : qH la = H := by
    have : qH la = qH (hdB h P) := by unfold qH; rw [hg 0 (by omega)]
    rw [this, a2]; omega
  have h9 : la.getD 9 0 = h.pr := by rw [hg 9 (by omega)]; exact a3
  refine ⟨⟨hge, by omega⟩, h9, hqH, fun hp => ?_, hwd⟩
  unfold errQ
  rw [if_neg (by rw [hq.len]; omega), if_neg (by rw [hg 0 (by omega), hqH]; omega), if_neg (by rw [hq.len, hqH]; omega), if_neg (by rw [hwd 3 (by omega)]; omega), h9]
  have e0 := hd_rest h P 0
  have e1 := hd_rest h P 1
  rcases hp with hp | hp | ⟨hp, he⟩
  · rw [if_pos (.inl hp)]
  · rw [if_pos (.inr hp)]
  · rw [if_neg (by omega), if_pos]
    refine ⟨hp, ?_⟩
    rw [hqH, hg (2 * H) (by omega), hg (2 * H + 1) (by omega), ← hH]
    rw [Nat.add_zero] at e0
    rw [e0, e1]
    exact he
/-- Read of a quote of fewer than 8 bytes of the payload, or of what is no echo. -/
theorem quo_short {h : Hd} {P la : List Int} {H m many : Nat} (hq : QuoA h P H m many la) (hf : HdFits h P.length) (hH : 20 + h.o.length = 2 * H) (hm : many < 8) : errQ la = 4 := by
  have hl := hd_len h P
  obtain ⟨a1, a2, a3, a4, -⟩ := hd_head h P hf
  have hmm := hq.cut
  have hg : ∀ i, i < m → la.getD i 0 = (hdB h P).getD i 0 := fun i hi => by rw [hq.is_]; exact getD_takeQ _ _ _ hi
  have h20 : 20 ≤ m := by omega
  have hqH : qH la = H := by
    have : qH la = qH (hdB h P) := by unfold qH; rw [hg 0 (by omega)]
    rw [this, a2]; omega
  unfold errQ
  rw [if_neg (by rw [hq.len]; omega), if_neg (by rw [hg 0 (by omega), hqH]; omega), if_pos (by rw [hq.len, hqH]; omega)]
theorem quo_noecho {h : Hd} {P la : List Int} {H m many : Nat} (hq : QuoA h P H m many la) (hf : HdFits h P.length) (hH : 20 + h.o.length = 2 * H) (h8 : 8 ≤ P.length) (hm : 8 ≤ many) (hp : h.pr = 1) (he : echoM (P.getD 0 0) (P.getD 1 0) = false) : errQ la = 22 := by
  obtain ⟨⟨g1, g2⟩, g3, g4, -, g6⟩ := quo_ok hq hf hH h8 hm
  have hl := hd_len h P
  obtain ⟨a1, a2, a3, a4, -⟩ := hd_head h P hf
  have hg : ∀ i, i < m → la.getD i 0 = (hdB h P).getD i 0 := fun i hi => by rw [hq.is_]; exact getD_takeQ _ _ _ hi
  have e0 := hd_rest h P 0
  have e1 := hd_rest h P 1
  unfold errQ
  rw [if_neg (by rw [hq.len]; omega), if_neg (by rw [hg 0 (by omega), g4]; omega), if_neg (by rw [hq.len, g4]; omega), if_neg (by rw [g6 3 (by omega)]; omega), if_neg (by rw [g3]; omega), if_neg]
  rintro ⟨_, h2⟩
  rw [g4, hg (2 * H) (by omega), hg (2 * H + 1) (by omega), ← hH] at h2
  rw [Nat.add_zero] at e0
  rw [e0, e1, he] at h2
  cases h2
/-- Where the field ends within the quote, or not. -/
theorem asif_like {h : Hd} {P P' la lb r : List Int} {t : Tu} {sh : Int} {H m m' many : Nat} (hf : HdFits h P.length) (hf' : HdFits { h with sr := t.sr, ds := t.ds } P'.length) (hH : 20 + h.o.length = 2 * H) (hpr : h.pr = 6 ∨ h.pr = 17 ∨ (h.pr = 1 ∧ echoM (P.getD 0 0) (P.getD 1 0) = true))
    (hb : Bytes (hdB h P)) (hb' : Bytes (hdB { h with sr := t.sr, ds := t.ds } P')) (ht : TuNum t)
    (hs : sumL ((hdB h P).take (2 * H)) = 65535) (hs' : sumL ((hdB { h with sr := t.sr, ds := t.ds } P').take (2 * H)) = 65535)
    (hL : LoadQ h.pr h.sr h.ds t.sr t.ds t.sp t.dp (seqQ la sh) P P') (hm : 8 ≤ many) (hqa : QuoA h P H m many la) (hqb : QuoA { h with sr := t.sr, ds := t.ds } P' H m' many lb) (hr : rwQ la t sh = r) :
    r.length = m ∧ m' = m ∧ lb.length = m ∧ errQ la = 0 ∧ la.getD 9 0 = h.pr ∧ (h.pr ≠ 6 ∨ m ≠ 2 * H + 17 → likeQ r lb [5, qF h.pr H] = true) ∧ (h.pr = 6 → m = 2 * H + 17 → likeQ (r.take (2 * H + 16)) (lb.take (2 * H + 16)) [5, qF h.pr H] = true) := by
  obtain ⟨⟨g1, g2⟩, g3, g4, g5, g6⟩ := quo_ok hqa hf hH hL.h8 hm
  have he := g5 hpr
  have hp3 : h.pr = 6 ∨ h.pr = 17 ∨ h.pr = 1 := by rcases hpr with h | h | h; exact .inl h; exact .inr (.inl h); exact .inr (.inr h.1)
  have hla := hd_len h P
  have hlb := hd_len { h with sr := t.sr, ds := t.ds } P'
  simp only at hlb
  have hm1 := hqa.cut
  have hm2 := hqb.cut
  have hmm : m' = m := by rw [hm1, hm2, hla, hlb, hL.len]
  have hT := two_hd hf hf' hL.len hp3 hH hb hb' hL.h8 hL.hF hs hs' hL.agree hL.sum
  have hlaB : Bytes la := by rw [hqa.is_]; exact hb.takeQ m
  have hR : RwIs la r t (seqQ la sh) := by rw [← hr]; exact rwQ_is hlaB he ht
  obtain ⟨b1, b2, b3, b4, b5, b6, b7, b8⟩ := hd_head { h with sr := t.sr, ds := t.ds } P' hf'
  simp only at b5 b6 b7 b8
  have hdr : ∀ k, wordL (hdB { h with sr := t.sr, ds := t.ds } P') (H + k) = wordL P' k := fun k => by
    have e := hd_drop { h with sr := t.sr, ds := t.ds } P'
    simp only at e
    rw [← wordL_dropQ, ← hH, e]
  have hdra : ∀ k, wordL (hdB h P) (H + k) = wordL P k := fun k => by
    have e := hd_drop h P
    rw [← wordL_dropQ, ← hH, e]
  have hFs := qF_shift h.pr H
  have hR2 : RwIs ((hdB h P).take m) r t (seqQ la sh) := by rw [← hqa.is_]; exact hR
  have hz : h.pr = 17 → wordL (hdB h P) (qF h.pr H) ≠ 0 := fun h17 => by rw [hFs, hdra]; exact hL.nz h17
  have wp : ∀ p ∈ portsQ ((hdB h P).take m) t (seqQ la sh), wordL (hdB { h with sr := t.sr, ds := t.ds } P') p.1 = p.2 := by
    intro p hp
    unfold portsQ at hp
    rw [← hqa.is_, g3, g4] at hp
    by_cases h1 : h.pr = 1
    · rw [if_pos h1] at hp
      rcases List.mem_singleton.1 hp
      show wordL _ (H + 2) = t.sp
      rw [hdr]; exact hL.id h1
    · rw [if_neg h1] at hp
      rcases List.mem_append.1 hp with hp | hp
      · simp only [List.mem_cons, List.not_mem_nil, or_false] at hp
        rcases hp with rfl | rfl
        · show wordL _ H = t.sp
          rw [show H = H + 0 from rfl, hdr]; exact (hL.ports h1).1
        · show wordL _ (H + 1) = t.dp
          rw [hdr]; exact (hL.ports h1).2
      · by_cases h6 : h.pr = 6
        · rw [if_pos h6] at hp
          simp only [List.mem_cons, List.not_mem_nil, or_false] at hp
          rcases hp with rfl | rfl
          · show wordL _ (H + 2) = _
            rw [hdr]; exact (hL.num h6).1
          · show wordL _ (H + 3) = _
            rw [hdr]; exact (hL.num h6).2
        · rw [if_neg h6] at hp; cases hp
  have hal := as_like hT hz g1 g2 hR2 ⟨b5, b6, b7, b8⟩ wp
  have hrl : r.length = m := by rw [hR.len, hqa.len]
  have hlbE : lb = (hdB { h with sr := t.sr, ds := t.ds } P').take m := by rw [hqb.is_, hmm]
  have hlbl : lb.length = m := by rw [hqb.len, hmm]
  rw [← hlbE] at hal
  refine ⟨hrl, hmm, hlbl, he, g3, fun hcut => ?_, fun h6 h17 => ?_⟩
  · refine like_true hR.byte (by rw [hrl, hlbl]) _ (fun i hi => ?_)
    rw [hrl] at hi
    rw [hrl]
    refine hal i hi ?_
    rcases hcut with h6 | h17
    · right
      have : 2 * qF h.pr H + 1 < 2 * H + 8 := by
        unfold qF
        rw [if_neg h6]
        split <;> omega
      omega
    · by_cases h6 : h.pr = 6
      · right
        have : qF h.pr H = H + 8 := by unfold qF; rw [if_pos h6]
        omega
      · right
        have : 2 * qF h.pr H + 1 < 2 * H + 8 := by
          unfold qF
          rw [if_neg h6]
          split <;> omega
        omega
  · have hF8 : qF h.pr H = H + 8 := by unfold qF; rw [if_pos h6]
    refine like_true (hR.byte.takeQ _) (by rw [List.length_take, List.length_take, hrl, hlbl]) _ (fun i hi => ?_)
    rw [List.length_take, hrl] at hi
    have hh := hal i (by omega) (.inl (by omega))
    rw [getD_takeQ _ _ _ (by omega), getD_takeQ _ _ _ (by omega), List.length_take, hrl]
    rcases hh with hh | ⟨q1, q2, q3⟩
    · exact .inl hh
    · refine .inr ⟨q1, by omega, ?_⟩
      rw [wordL_takeQ _ _ _ (by omega), wordL_takeQ _ _ _ (by omega)]
      exact q3
end Go.Proofs.Ytoegfgbalcholaa
