/-
  Texts laid together: TcpPlain, TcpRead, TcpWakes, LenOf.
-/
import Derived.Test.YtheknmihnkennaaGreatZC17
import Derived.Test.YtheknmihnkennaaGreatZC01
import Derived.Deep.CutRange
import Derived.Test.YtheknmihnkennaaGreatZC02
import Derived.Lib.SmallJoins
import Derived.SizedLaws

/-
  Segments' bytes, plainly: what is laid is read again, what is read may be laid; other addresses; one bit that is turned. No function of the program.
-/
namespace Go.Proofs.YtheknmihnkennaaGreat
set_option maxRecDepth 10000
open Go.RowKit

theorem ws_b2 (f : Int) (h : 0 ≤ f ∧ f < 65536) : ws false (b2 f) = f := by simp [ws, b2]; omega
/-- All words of a segment's bytes, its field told apart. -/
def restS (s : Seg) : Int := ws false (aheadT s (offS s)) + ws false (be16 s.ug ++ (optB s ++ s.d))
theorem ws_segB {s : Seg} (h : SegNum s) (src dst : Int) : ws false (segB src dst s) = restS s + fieldS src dst s := by
  unfold segB restS
  rw [segHd_parts h]
  have e : aheadT s (offS s) ++ b2 (fieldS src dst s) ++ be16 s.ug ++ optB s ++ s.d = aheadT s (offS s) ++ (b2 (fieldS src dst s) ++ (be16 s.ug ++ (optB s ++ s.d))) := by simp
  rw [e, ws_even _ _ (by simp [aheadT, be16, be32]), ws_even _ _ (by simp [b2]), ws_b2 _ (fieldS_bd src dst s)]
  omega
theorem pseudo_len (a b c d : Int) : (pseudoL a b c d).length % 2 = 0 := by simp [pseudoL]
theorem fieldS_eq {s : Seg} (h : SegNum s) (src dst : Int) : fieldS src dst s = 65535 - fold16 (ws false (pseudoL src dst 6 (lenB s)) + restS s) := by
  rw [fieldS_of h src dst _ rfl]
  unfold sumL restS
  rw [show ([pseudoL src dst 6 (lenB s), aheadT s (offS s), be16 s.ug ++ (optB s ++ s.d)] : List (List Int)).flatten = pseudoL src dst 6 (lenB s) ++ (aheadT s (offS s) ++ (be16 s.ug ++ (optB s ++ s.d))) by simp,
    ws_even _ _ (pseudo_len _ _ _ _), ws_even _ _ (by simp [aheadT, be16, be32])]
/-- What was read of a sum: its total goes into 65535, and it is not 0. -/
theorem sum_right_iff (n : Int) (h : 0 ≤ n) : fold16 n = 65535 ↔ n % 65535 = 0 ∧ 0 < n := by unfold fold16; split <;> omega
theorem fill_right (T : Int) (h : 0 ≤ T) : fold16 (T + (65535 - fold16 T)) = 65535 := by
  have h1 := fold_mod T h
  have h2 := fold_bd T
  rw [sum_right_iff _ (by omega)]
  by_cases h0 : T = 0
  · subst h0; simp [fold_zero]
  · have := fold_pos T (by omega); omega
theorem segB_len (src dst : Int) (s : Seg) : (segB src dst s).length = lenB s := by
  simp [segB, segHd, b2, b4, lenB]; omega
theorem restS_nn {s : Seg} (h : SegNum s) (ho : 0 ≤ offS s ∧ offS s < 256) (hy : ∀ x ∈ optB s, 0 ≤ x ∧ x < 256) (hd : ∀ x ∈ s.d, 0 ≤ x ∧ x < 256) : 0 ≤ restS s := by
  have h1 := ws_nn (aheadT s (offS s)) (aheadT_bytes h ho) false
  have h2 := ws_nn (be16 s.ug ++ (optB s ++ s.d)) (fun x hx => by
    rcases List.mem_append.1 hx with h1 | h1
    · have := h.ug; simp [be16] at h1; omega
    · rcases List.mem_append.1 h1 with h2 | h2
      · exact hy x h2
      · exact hd x h2) false
  unfold restS
  omega

/-- What a segment that may be is. -/
structure Good (s : Seg) : Prop where
  num : SegNum s
  os : ∀ l ∈ s.os, (0 ≤ l.1 ∧ l.1 < 256) ∧ ∀ x ∈ l.2, 0 ≤ x ∧ x < 256
  d : ∀ x ∈ s.d, 0 ≤ x ∧ x < 256
  ok : errS s = 0
theorem Good.may {s : Seg} (h : Good s) : s.os.any badB = false ∧ (bytesO s.os).length ≤ 40 ∧ lenB s ≤ 1480 := by
  have hm := (errS_zero s).1 h.ok
  unfold mayT at hm
  rw [Bool.and_eq_true, Bool.and_eq_true] at hm
  obtain ⟨⟨h1, h2⟩, h3⟩ := hm
  exact ⟨by simpa using h1, by simpa using h2, by simpa using h3⟩
theorem Good.opt {s : Seg} (h : Good s) : (optB s).length ≤ 40 ∧ (optB s).length % 4 = 0 ∧ ∀ x ∈ optB s, 0 ≤ x ∧ x < 256 := by
  have hm := h.may
  have hl := padTo4_len (bytesO s.os)
  refine ⟨?_, ?_, padTo4_bytes_ (bytesO_bytes h.os (fun l hl => (badB_false (by have := hm.1; rw [List.any_eq_false] at this; simpa using this l hl)).2))⟩
  · unfold optB; omega
  · unfold optB; omega
theorem Good.off {s : Seg} (h : Good s) : 0 ≤ offS s ∧ offS s < 256 ∧ offS s / 16 * 4 = 20 + (optB s).length := by
  have := h.opt
  unfold offS
  omega
theorem Good.nn {s : Seg} (h : Good s) : 0 ≤ restS s := restS_nn h.num ⟨h.off.1, h.off.2.1⟩ h.opt.2.2 h.d
theorem ws_pseudo_nn (a b n : Int) : 6 ≤ ws false (pseudoL a b 6 n) := by simp [ws, pseudoL]; omega
theorem Good.sum {s : Seg} (h : Good s) (src dst : Int) : sumL (pseudoL src dst 6 (lenB s) ++ segB src dst s) = 65535 := by
  unfold sumL
  rw [ws_even _ _ (pseudo_len _ _ _ _), ws_segB h.num, fieldS_eq h.num, ← Int.add_assoc]
  exact fill_right _ (by have := ws_pseudo_nn src dst (lenB s); have := h.nn; omega)
theorem Good.bytes {s : Seg} (h : Good s) (src dst : Int) : ∀ x ∈ segB src dst s, 0 ≤ x ∧ x < 256 := by
  intro x hx
  unfold segB at hx
  rcases List.mem_append.1 hx with h1 | h1
  · rcases List.mem_append.1 h1 with h2 | h2
    · exact segHd_bytes s _ _ h.num.fl ⟨h.off.1, h.off.2.1⟩ x h2
    · exact h.opt.2.2 x h2
  · exact h.d x h1
/-- A segment's bytes, one by one. -/
theorem segB_cons (src dst : Int) (s : Seg) : ∃ f0 f1 : Int, segB src dst s = s.sp / 256 % 256 :: s.sp % 256 :: s.dp / 256 % 256 :: s.dp % 256 :: s.sq / 16777216 % 256 :: s.sq / 65536 % 256 :: s.sq / 256 % 256 :: s.sq % 256 ::
    s.ak / 16777216 % 256 :: s.ak / 65536 % 256 :: s.ak / 256 % 256 :: s.ak % 256 :: offS s :: s.fl :: s.wn / 256 % 256 :: s.wn % 256 :: f0 :: f1 :: s.ug / 256 % 256 :: s.ug % 256 :: (optB s ++ s.d) :=
  ⟨fieldS src dst s / 256 % 256, fieldS src dst s % 256, by simp [segB, segHd, b2, b4]⟩
theorem Good.offB {s : Seg} (h : Good s) (src dst : Int) : offB (segB src dst s) = 20 + (optB s).length := by
  obtain ⟨f0, f1, e⟩ := segB_cons src dst s
  have := h.off
  unfold Go.Proofs.YtheknmihnkennaaGreat.offB
  rw [e]
  show (offS s / 16 * 4).toNat = _
  omega
theorem segB_drop (src dst : Int) (s : Seg) : (segB src dst s).drop 20 = optB s ++ s.d := by
  obtain ⟨f0, f1, e⟩ := segB_cons src dst s
  rw [e]; rfl
theorem Good.opts {s : Seg} (h : Good s) (src dst : Int) : parseO (((segB src dst s).take (Go.Proofs.YtheknmihnkennaaGreat.offB (segB src dst s))).drop 20) = (s.os, 0) := by
  rw [h.offB, List.drop_take, segB_drop, Nat.add_sub_cancel_left, List.take_left]
  exact parseO_put h.may.1 h.may.2.1
/-- Between its own addresses, what is laid is a segment. -/
theorem Good.err {s : Seg} (h : Good s) (src dst : Int) : errSeg src dst (segB src dst s) = 0 := by
  have h1 := h.may
  have h2 := segB_len src dst s
  have h3 := h.offB src dst
  have h4 := h.sum src dst
  have h5 := h.opts src dst
  unfold errSeg
  rw [if_neg (by omega), if_neg (by unfold lenB at h2; omega), if_neg (by omega), if_neg (by unfold lenB at h2; omega), h2, if_neg (by rw [h4]; simp), if_neg (by rw [h5]; simp)]
theorem Good.segOf {s : Seg} (h : Good s) (src dst : Int) : Go.Proofs.YtheknmihnkennaaGreat.segOf (segB src dst s) (Go.Proofs.YtheknmihnkennaaGreat.offB (segB src dst s)) = s := by
  obtain ⟨f0, f1, e⟩ := segB_cons src dst s
  rw [segOf_cons _ _ _ _ _ _ _ _ _ _ _ _ _ _ _ _ _ _ _ _ _ _ _ e, h.opts, h.offB, ← List.drop_drop, segB_drop, List.drop_left]
  obtain ⟨h1, h2, h3, h4, h5, h6, h7⟩ := h.num
  obtain ⟨sp, dp, sq, ak, fl, wn, ug, os, d⟩ := s
  simp only at h1 h2 h3 h4 h5 h6 h7 ⊢
  rw [show sp / 256 % 256 * 256 + sp % 256 = sp by omega, show dp / 256 % 256 * 256 + dp % 256 = dp by omega, show wn / 256 % 256 * 256 + wn % 256 = wn by omega, show ug / 256 % 256 * 256 + ug % 256 = ug by omega,
    show ((sq / 16777216 % 256 * 256 + sq / 65536 % 256) * 256 + sq / 256 % 256) * 256 + sq % 256 = sq by omega, show ((ak / 16777216 % 256 * 256 + ak / 65536 % 256) * 256 + ak / 256 % 256) * 256 + ak % 256 = ak by omega]

/-- Where nothing is wrong, the sum is right. -/
theorem err_zero {src dst : Int} {b : List Int} (h : errSeg src dst b = 0) : b.length ≤ 1480 ∧ 20 ≤ b.length ∧ 20 ≤ offB b ∧ offB b ≤ b.length ∧ sumL (pseudoL src dst 6 b.length ++ b) = 65535 ∧ (parseO ((b.take (offB b)).drop 20)).2 = 0 := by
  unfold errSeg at h
  by_cases h3 : 1480 < b.length
  · rw [if_pos h3] at h; omega
  by_cases h4 : b.length < 20
  · rw [if_neg h3, if_pos h4] at h; omega
  by_cases h5 : offB b < 20
  · rw [if_neg h3, if_neg h4, if_pos h5] at h; omega
  by_cases h6 : b.length < offB b
  · rw [if_neg h3, if_neg h4, if_neg h5, if_pos h6] at h; omega
  by_cases h7 : sumL (pseudoL src dst 6 b.length ++ b) = 65535
  · by_cases h8 : (parseO ((b.take (offB b)).drop 20)).2 = 0
    · exact ⟨by omega, by omega, by omega, by omega, h7, h8⟩
    · rw [if_neg h3, if_neg h4, if_neg h5, if_neg h6, if_neg (by simp [h7]), if_pos h8] at h; omega
  · rw [if_neg h3, if_neg h4, if_neg h5, if_neg h6, if_pos h7] at h; omega

/-- Other addresses: no segment, unless both pairs' sums are alike. -/
def pairW (src dst : Int) : Int := ws false (pseudoL src dst 0 0)
theorem pairW_eq (src dst n : Int) : ws false (pseudoL src dst 6 n) = pairW src dst + 6 + n % 65536 := by
  unfold pairW
  simp [ws, pseudoL]
  omega
theorem pairW_nn (src dst : Int) : 0 ≤ pairW src dst := by unfold pairW; simp [ws, pseudoL]; omega
theorem pair_sum (src dst : Int) : sumL (pseudoL src dst 0 0) = fold16 (pairW src dst) := rfl
theorem like_pair (a b : Int) (ha : 0 ≤ a) (hb : 0 ≤ b) : likeB (fold16 a) (fold16 b) = true ↔ a % 65535 = b % 65535 := by
  have h1 := fold_mod a ha
  have h2 := fold_mod b hb
  have h3 := fold_bd a
  have h4 := fold_bd b
  constructor
  · intro h; have := like_mod _ _ h; omega
  · intro h; exact like_of _ _ (by unfold U16; omega) (by unfold U16; omega) (by omega)
theorem Good.other {s : Seg} (h : Good s) (src dst src2 dst2 : Int) : errSeg src2 dst2 (segB src dst s) = if likeB (sumL (pseudoL src dst 0 0)) (sumL (pseudoL src2 dst2 0 0)) = true then 0 else 20 := by
  have h1 := h.may
  have h2 := segB_len src dst s
  have h3 := h.offB src dst
  have h4 := h.sum src dst
  have h5 := h.opts src dst
  have hnn := ws_nn _ (h.bytes src dst) false
  rw [pair_sum, pair_sum]
  have hl := like_pair (pairW src dst) (pairW src2 dst2) (pairW_nn _ _) (pairW_nn _ _)
  have p1 := pairW_nn src dst
  have p2 := pairW_nn src2 dst2
  unfold sumL at h4
  rw [ws_even _ _ (pseudo_len _ _ _ _), pairW_eq, sum_right_iff _ (by omega)] at h4
  have hs : sumL (pseudoL src2 dst2 6 (lenB s) ++ segB src dst s) = 65535 ↔ pairW src dst % 65535 = pairW src2 dst2 % 65535 := by
    unfold sumL
    rw [ws_even _ _ (pseudo_len _ _ _ _), pairW_eq, sum_right_iff _ (by omega)]
    omega
  unfold errSeg
  rw [if_neg (by omega), if_neg (by unfold lenB at h2; omega), if_neg (by omega), if_neg (by unfold lenB at h2; omega), h2]
  by_cases hk : likeB (fold16 (pairW src dst)) (fold16 (pairW src2 dst2)) = true
  · rw [if_pos hk, if_neg (by rw [hs.2 (hl.1 hk)]; simp), if_neg (by rw [h5]; simp)]
  · rw [if_neg hk, if_pos (fun h6 => hk (hl.2 (hs.1 h6)))]

/-- What is read may be laid, in no more bytes. -/
theorem parse_bytes {b : List Int} (hb : ∀ x ∈ b, 0 ≤ x ∧ x < 256) : ∀ l ∈ (parseO b).1, (0 ≤ l.1 ∧ l.1 < 256) ∧ ∀ x ∈ l.2, 0 ≤ x ∧ x < 256 := by
  have key : ∀ (f : Nat) (b : List Int), (∀ x ∈ b, 0 ≤ x ∧ x < 256) → ∀ l ∈ (parseF f b).1, (0 ≤ l.1 ∧ l.1 < 256) ∧ ∀ x ∈ l.2, 0 ≤ x ∧ x < 256 := by
    intro f
    induction f with
    | zero => intro b _ l hl; simp [parseF] at hl
    | succ f ih =>
      intro b hb l hl
      match b, hb with
      | [], _ => simp [parseF] at hl
      | k :: r, hb =>
        have hr : ∀ x ∈ r, 0 ≤ x ∧ x < 256 := fun x hx => hb x (by simp [hx])
        have hk := hb k (by simp)
        unfold parseF at hl
        split at hl
        · split at hl <;> simp at hl
        · split at hl
          · exact ih r hr l hl
          · match r, hr with
            | [], _ => simp at hl
            | n :: r', hr =>
              simp only at hl
              split at hl
              · simp at hl
              · split at hl
                · simp at hl
                · split at hl
                  · rcases List.mem_cons.1 hl with rfl | hl
                    · exact ⟨hk, fun x hx => hr x (by simp [List.mem_of_mem_take hx])⟩
                    · exact ih _ (fun x hx => hr x (by simp [List.mem_of_mem_drop hx])) l hl
                  · simp at hl
  unfold parseO
  split
  · intro l hl; simp at hl
  · exact key _ b hb
theorem segOf_good {src dst : Int} {b : List Int} (hb : ∀ x ∈ b, 0 ≤ x ∧ x < 256) (h : errSeg src dst b = 0) : Good (Go.Proofs.YtheknmihnkennaaGreat.segOf b (Go.Proofs.YtheknmihnkennaaGreat.offB b)) ∧ lenB (Go.Proofs.YtheknmihnkennaaGreat.segOf b (Go.Proofs.YtheknmihnkennaaGreat.offB b)) ≤ b.length := by
  obtain ⟨h1, h2, h3, h4, h5, h6⟩ := err_zero h
  have hob : ∀ x ∈ (b.take (Go.Proofs.YtheknmihnkennaaGreat.offB b)).drop 20, 0 ≤ x ∧ x < 256 := fun x hx => hb x (List.mem_of_mem_take (List.mem_of_mem_drop hx))
  have hol : ((b.take (Go.Proofs.YtheknmihnkennaaGreat.offB b)).drop 20).length = Go.Proofs.YtheknmihnkennaaGreat.offB b - 20 := by rw [List.length_drop, List.length_take]; omega
  have hx12 := getD_byte hb 12
  have ho4 : Go.Proofs.YtheknmihnkennaaGreat.offB b % 4 = 0 ∧ Go.Proofs.YtheknmihnkennaaGreat.offB b ≤ 60 := by unfold Go.Proofs.YtheknmihnkennaaGreat.offB; omega
  have hf := parseF_fits ((b.take (Go.Proofs.YtheknmihnkennaaGreat.offB b)).drop 20).length _ hob (by omega)
  have hpl : parseO ((b.take (Go.Proofs.YtheknmihnkennaaGreat.offB b)).drop 20) = parseF ((b.take (Go.Proofs.YtheknmihnkennaaGreat.offB b)).drop 20).length ((b.take (Go.Proofs.YtheknmihnkennaaGreat.offB b)).drop 20) := by unfold parseO; rw [if_neg (by omega)]; rfl
  rw [← hpl] at hf
  have hpad := padTo4_len (bytesO (parseO ((b.take (Go.Proofs.YtheknmihnkennaaGreat.offB b)).drop 20)).1)
  have hlen : lenB (Go.Proofs.YtheknmihnkennaaGreat.segOf b (Go.Proofs.YtheknmihnkennaaGreat.offB b)) ≤ b.length := by
    unfold lenB optB
    show 20 + (padTo4 (bytesO (parseO ((b.take (Go.Proofs.YtheknmihnkennaaGreat.offB b)).drop 20)).1)).length + (b.drop (Go.Proofs.YtheknmihnkennaaGreat.offB b)).length ≤ _
    rw [List.length_drop]
    omega
  have hn : ∀ k s, s ≤ 4 → (∀ x ∈ (b.drop k).take s, 0 ≤ x ∧ x < 256) := fun k s _ x hx => hb x (List.mem_of_mem_drop (List.mem_of_mem_take hx))
  have hnl : ∀ k s, s ≤ 4 → ((b.drop k).take s).length ≤ s := fun k s _ => by rw [List.length_take]; omega
  have n2 : ∀ k, 0 ≤ numL ((b.drop k).take 2) ∧ numL ((b.drop k).take 2) < 65536 := fun k => by
    have := numL_bd _ (hn k 2 (by omega)) (by have := hnl k 2 (by omega); omega)
    have hl := hnl k 2 (by omega)
    have hp : (256 : Int) ^ ((b.drop k).take 2).length ≤ 65536 := by
      have : ((b.drop k).take 2).length = 0 ∨ ((b.drop k).take 2).length = 1 ∨ ((b.drop k).take 2).length = 2 := by omega
      rcases this with e | e | e <;> rw [e] <;> decide
    omega
  have n4 : ∀ k, 0 ≤ numL ((b.drop k).take 4) ∧ numL ((b.drop k).take 4) < 4294967296 := fun k => by
    have := numL_bd _ (hn k 4 (by omega)) (by have := hnl k 4 (by omega); omega)
    have hl := hnl k 4 (by omega)
    have hp : (256 : Int) ^ ((b.drop k).take 4).length ≤ 4294967296 := by
      have : ((b.drop k).take 4).length = 0 ∨ ((b.drop k).take 4).length = 1 ∨ ((b.drop k).take 4).length = 2 ∨ ((b.drop k).take 4).length = 3 ∨ ((b.drop k).take 4).length = 4 := by omega
      rcases this with e | e | e | e | e <;> rw [e] <;> decide
    omega
  refine ⟨⟨⟨n2 0, n2 2, n4 4, n4 8, getD_byte hb 13, n2 14, n2 18⟩, parse_bytes hob, fun x hx => hb x (List.mem_of_mem_drop hx), ?_⟩, hlen⟩
  rw [errS_zero]
  unfold mayT
  rw [Bool.and_eq_true, Bool.and_eq_true]
  refine ⟨⟨?_, ?_⟩, ?_⟩
  · show (!(parseO ((b.take (Go.Proofs.YtheknmihnkennaaGreat.offB b)).drop 20)).1.any badB) = true
    rw [hf.1]; rfl
  · show decide ((bytesO (parseO ((b.take (Go.Proofs.YtheknmihnkennaaGreat.offB b)).drop 20)).1).length ≤ 40) = true
    have := hf.2
    simp; omega
  · simp; omega
end Go.Proofs.YtheknmihnkennaaGreat

/-
  The contract of package tcp's Parse: what is wrong is told in the document's own order; else the segment, its options and its data in rows of the call's own.
-/
namespace Go.Proofs.YtheknmihnkennaaGreat
set_option maxRecDepth 10000
open Go.RowKit

theorem tparse1_any (B g p1 p2 p3 q n c : Nat) (src dst : Int) (A : Option Addr) (w : World) (hB : p1 < B ∧ p2 < B ∧ p3 < B ∧ q < B ∧ p1 ≠ q ∧ p2 ≠ q ∧ p3 ≠ q) (hl : n ≤ 1480) (b : List Int) (hc : n ≤ c ∧ c ≤ maxLen) (hAB : 0 < n → ∀ x o, A = some ⟨x, o, none⟩ → x < B) (hA : Rd w A n b)
    (hp1 : Box w p1 24 (.int .u32 src)) (hp2 : Box w p2 24 (.int .u32 dst)) (hp3 : Box w p3 22 (.slice A n c)) (hq : w.heap[q]? = some (.cells (segC zeroSeg none 0 0 none 0 0) 29 (0, 0))) (h : Rdr w B g b 0) :
    Calls Tryz.prog 77 #[.pointer (some ⟨g, 0, none⟩), .pointer (some ⟨p1, 0, none⟩), .pointer (some ⟨p2, 0, none⟩), .pointer (some ⟨p3, 0, none⟩), .pointer (some ⟨q, 0, none⟩)] w
      (Did (fun k => k = q) g (SegR q src dst b w) w) := by
  have hlen := hA.len
  by_cases h2 : n < 20
  · exact tparse1_short B g p1 p2 p3 q n src dst b w hB.2.2.2.1 h2 hlen hq h
  · obtain ⟨b0, b1, b2, b3, b4, b5, b6, b7, b8, b9, b10, b11, b12, b13, b14, b15, b16, b17, b18, b19, l, eb⟩ := twenty b (by omega)
    exact tparse1_ok B g p1 p2 p3 q n c src dst A b0 b1 b2 b3 b4 b5 b6 b7 b8 b9 b10 b11 b12 b13 b14 b15 b16 b17 b18 b19 l w hB hl b eb hlen hc (hAB (by omega)) hA hp1 hp2 hp3 hq h

/-- What Parse tells of bytes that are a segment. -/
def SegGoodT (b : List Int) (w : World) (e : Ending) (w' : World) : Prop :=
  ∃ AO nO cO os AD cD, e = .returned (.tuple #[.agg (segC (segOf b (offB b)) AO nO cO AD (b.length - offB b) cD), .int .i64 0]) ∧ OwnO w' w.heap.size AO nO cO os ∧ OwnL w' w.heap.size os (segOf b (offB b)).os ∧
    OwnB w' w.heap.size AD (b.length - offB b) cD (b.drop (offB b)) ∧ Below w.heap.size w w'

theorem tparse_long (src dst : Int) (A : Option Addr) (n c : Nat) (b : List Int) (w : World) (hA : Rd w A n b) (h1 : 1480 < n) :
    Calls Tryz.prog 41 #[.int .u32 src, .int .u32 dst, .slice A n c] w (SegBad (errSeg src dst b) w) := by
  have hal : Below w.heap.size w w := Below.refl _ _
  have Hx := Lib.hid (show errSeg src dst b = 3 by unfold errSeg; rw [if_pos (by rw [hA.len]; exact h1)])
  have i1 : 1480 < (n : Int) := by omega
  rw [Hx.out]
  clear hA h1
  obtain ⟨z, hz⟩ : ∃ z, w.heap.size = z := ⟨_, rfl⟩
  go_enter Tryz.func41, Tryz.ntmps41
  go_upto_region 2 with (fail)
  obtain ⟨w0, hw0⟩ : ∃ w0, w0 = (((w.alloc (.cells #[.int .u32 src] 24)).alloc (.cells #[.int .u32 dst] 24)).alloc (.cells #[.slice A n c] 22)).alloc (.cells #[.int .u16 0, .int .u16 0, .int .u32 0, .int .u32 0, .int .u8 0, .int .u16 0, .int .u16 0, .slice none 0 0, .slice none 0 0] 29) := ⟨_, rfl⟩
  rw [← hw0]
  have hb0 : Below w.heap.size w w0 := by rw [hw0]; exact (((hal.alloc (Nat.le_refl _) _).alloc (by simp) _).alloc (by simp <;> omega) _).alloc (by simp <;> omega) _
  have hrb : w0.heap[z + 3]? = some (.cells #[.int .u16 0, .int .u16 0, .int .u32 0, .int .u32 0, .int .u8 0, .int .u16 0, .int .u16 0, .slice none 0 0, .slice none 0 0] 29 (0, 0)) := by
    rw [hw0, ← hz]
    have := heap_alloc_new (((w.alloc (.cells #[.int .u32 src] 24)).alloc (.cells #[.int .u32 dst] 24)).alloc (.cells #[.slice A n c] 22)) (.cells #[.int .u16 0, .int .u16 0, .int .u32 0, .int .u32 0, .int .u8 0, .int .u16 0, .int .u16 0, .slice none 0 0, .slice none 0 0] 29)
    simpa using this
  have HB := Lib.hid hb0
  have HS9 := Lib.hid (set9_cells hrb)
  obtain ⟨r0, r1, r2, r3, r4, r5, r6, r7, r8⟩ := seg_cells hrb
  have rf := blk_free hrb
  have Hz := Lib.hid hz
  clear hrb hw0 hb0 hal hz
  go_wp2_with fail
  have hz := Hz.out
  obtain ⟨s0, s1, s2, s3, s4, s5, s6, s7, s8⟩ := HS9.out (.int .u16 0) (.int .u16 0) (.int .u32 0) (.int .u32 0) (.int .u8 0) (.int .u16 0) (.int .u16 0) (.slice none 0 0) (.slice none 0 0)
  refine bodyPost_ret (v := .tuple #[.agg #[.int .u16 0, .int .u16 0, .int .u32 0, .int .u32 0, .int .u8 0, .int .u16 0, .int .u16 0, .slice none 0 0, .slice none 0 0], .int .i64 3]) (by simp [results, Tryz.results41, go_sem, s0, s1, s2, s3, s4, s5, s6, s7, s8]) rfl ⟨rfl, ?_⟩
  exact (((((((((HB.out.setCell (by simp <;> omega) _).setCell (by simp <;> omega) _).setCell (by simp <;> omega) _).setCell (by simp <;> omega) _).setCell (by simp <;> omega) _).setCell (by simp <;> omega) _).setCell (by simp <;> omega) _).setCell (by simp <;> omega) _).setCell (by simp <;> omega) _)

theorem tparse_bad (src dst : Int) (A : Option Addr) (n c : Nat) (b : List Int) (x : Int) (w : World) (hc : n ≤ c ∧ c ≤ maxLen) (hn : n ≤ 1480) (hA : Rd w A n b) (hx : errSeg src dst b = x) (h0 : x ≠ 0) :
    Calls Tryz.prog 41 #[.int .u32 src, .int .u32 dst, .slice A n c] w (SegBad x w) := by
  have hmf : ∀ (fn : Fn) (first cap : Array Value) (w : World), (Instr.makeFunc fn first cap).run Tryz.prog w = .ok (.func fn first cap) w := fun _ _ _ _ => rfl
  have hal : Below w.heap.size w w := Below.refl _ _
  have HA := Lib.hid hA
  have Hx := Lib.hid hx
  have hni : (n : Int) ≤ 1480 := by omega
  clear hA hx
  obtain ⟨z, hz⟩ : ∃ z, w.heap.size = z := ⟨_, rfl⟩
  go_enter Tryz.func41, Tryz.ntmps41
  go_wp2_with fail
  obtain ⟨w0, hw0⟩ : ∃ w0, w0 = ((((w.alloc (.cells #[.int .u32 src] 24)).alloc (.cells #[.int .u32 dst] 24)).alloc (.cells #[.slice A n c] 22)).alloc (.cells #[.int .u16 0, .int .u16 0, .int .u32 0, .int .u32 0, .int .u8 0, .int .u16 0, .int .u16 0, .slice none 0 0, .slice none 0 0] 29)).alloc (.cells #[.int .u16 0, .int .u16 0, .int .u32 0, .int .u32 0, .int .u8 0, .int .u16 0, .int .u16 0, .slice none 0 0, .slice none 0 0] 29) := ⟨_, rfl⟩
  rw [← hw0]
  have hsz : w0.heap.size = z + 5 := by rw [hw0, ← hz]; simp
  have hb0 : Below w.heap.size w w0 := by rw [hw0]; exact ((((hal.alloc (Nat.le_refl _) _).alloc (by simp) _).alloc (by simp <;> omega) _).alloc (by simp <;> omega) _).alloc (by simp <;> omega) _
  have h1 : Box w0 z 24 (.int .u32 src) := by rw [hw0, ← hz]; exact ((((Box.new w _ _).alloc _).alloc _).alloc _).alloc _
  have h2 : Box w0 (z + 1) 24 (.int .u32 dst) := by
    rw [hw0, ← hz]
    have := Box.new (w.alloc (.cells #[.int .u32 src] 24)) 24 (.int .u32 dst)
    exact (((by simpa using this : Box _ (w.heap.size + 1) _ _).alloc _).alloc _).alloc _
  have h3 : Box w0 (z + 2) 22 (.slice A n c) := by
    rw [hw0, ← hz]
    have := Box.new ((w.alloc (.cells #[.int .u32 src] 24)).alloc (.cells #[.int .u32 dst] 24)) 22 (.slice A n c)
    exact ((by simpa using this : Box _ (w.heap.size + 2) _ _).alloc _).alloc _
  have h4 : w0.heap[z + 3]? = some (.cells (segC zeroSeg none 0 0 none 0 0) 29 (0, 0)) := by
    rw [hw0, ← hz]
    have := heap_alloc_new (((w.alloc (.cells #[.int .u32 src] 24)).alloc (.cells #[.int .u32 dst] 24)).alloc (.cells #[.slice A n c] 22)) (.cells #[.int .u16 0, .int .u16 0, .int .u32 0, .int .u32 0, .int .u8 0, .int .u16 0, .int .u16 0, .slice none 0 0, .slice none 0 0] 29)
    rw [Below.heap_alloc _ _ _ (by simp)]
    simpa [segC, zeroSeg] using this
  have h5 : w0.heap[z + 4]? = some (.cells (segC zeroSeg none 0 0 none 0 0) 29 (0, 0)) := by
    rw [hw0, ← hz]
    have := heap_alloc_new ((((w.alloc (.cells #[.int .u32 src] 24)).alloc (.cells #[.int .u32 dst] 24)).alloc (.cells #[.slice A n c] 22)).alloc (.cells #[.int .u16 0, .int .u16 0, .int .u32 0, .int .u32 0, .int .u8 0, .int .u16 0, .int .u16 0, .slice none 0 0, .slice none 0 0] 29)) (.cells #[.int .u16 0, .int .u16 0, .int .u32 0, .int .u32 0, .int .u8 0, .int .u16 0, .int .u16 0, .slice none 0 0, .slice none 0 0] 29)
    simpa [segC, zeroSeg] using this
  have hr0 := HA.out.below hb0
  clear hw0
  have hdo := fun w1 g (hb : Below w0.heap.size w0 w1) (_ : w0.heap.size ≤ g) (_ : g < w1.heap.size) (hR : Rdr w1 w0.heap.size g b 0) =>
    tparse1_any w0.heap.size g z (z + 1) (z + 2) (z + 4) n c src dst A w1 (by omega) hn b hc (fun h x o e => by
      obtain ⟨x', o', e', hlt, _⟩ := hr0.at_ h
      rw [e] at e'; injection e' with e'; injection e' with e'; subst e'; exact hlt) (hr0.below hb) (h1.below hb (by omega)) (h2.below hb (by omega)) (h3.below hb (by omega)) ((hb.block _ (by omega)).trans h5) hR
  have hread := read_any (fun k => k = z + 4) _ n c #[.pointer (some ⟨z, 0, none⟩), .pointer (some ⟨z + 1, 0, none⟩), .pointer (some ⟨z + 2, 0, none⟩), .pointer (some ⟨z + 4, 0, none⟩)] _ (fun _ => rfl) A b (SegR (z + 4) src dst b) w0 (fun k hk => by omega) (by omega) hr0 (enter_of Tryz.func77 (by kernel_rfl) rfl) hdo
  have Hb0 := Lib.hid hb0
  have H4 := Lib.hid h4
  have Hsz := Lib.hid hsz
  have Hz := Lib.hid hz
  clear hb0 h1 h2 h3 h4 h5 hr0 hdo hal hsz hz
  refine hread.mono ?_
  clear hread
  rintro e w5 ⟨x', w1, w4, rfl, hb1, ⟨hxe, hR⟩, hb4, hb5⟩
  rw [Hx.out] at hxe
  subst hxe
  rcases hR with ⟨_, hq⟩ | ⟨h, _⟩
  rotate_left 1
  · exact absurd h h0
  have hsz := Hsz.out
  have hz := Hz.out
  have hqb := hb4.blk hq (by omega)
  have hrb := hb5.blk H4.out (by omega)
  unfold segC zeroSeg at hqb hrb
  have hB := Hb0.out.trans (hb5.below (B := w.heap.size) (fun k hk => by omega) Hb0.out.size)
  have HB := Lib.hid hB
  obtain ⟨q0, q1, q2, q3, q4, q5, q6, q7, q8⟩ := seg_cells hqb
  obtain ⟨r0, r1, r2, r3, r4, r5, r6, r7, r8⟩ := seg_cells hrb
  have rf := blk_free hrb
  have HS9 := Lib.hid (set9_cells hrb)
  clear hqb hrb hq hb1 hb4 hb5 hsz hB
  clear hz
  go_wp2_with fail
  have hz := Hz.out
  obtain ⟨s0, s1, s2, s3, s4, s5, s6, s7, s8⟩ := HS9.out (.int .u16 0) (.int .u16 0) (.int .u32 0) (.int .u32 0) (.int .u8 0) (.int .u16 0) (.int .u16 0) (.slice none 0 0) (.slice none 0 0)
  refine bodyPost_ret (v := .tuple #[.agg #[.int .u16 0, .int .u16 0, .int .u32 0, .int .u32 0, .int .u8 0, .int .u16 0, .int .u16 0, .slice none 0 0, .slice none 0 0], .int .i64 x']) (by simp [results, Tryz.results41, go_sem, s0, s1, s2, s3, s4, s5, s6, s7, s8]) rfl ⟨rfl, ?_⟩
  exact (((((((((HB.out.setCell (by simp <;> omega) _).setCell (by simp <;> omega) _).setCell (by simp <;> omega) _).setCell (by simp <;> omega) _).setCell (by simp <;> omega) _).setCell (by simp <;> omega) _).setCell (by simp <;> omega) _).setCell (by simp <;> omega) _).setCell (by simp <;> omega) _)

theorem tparse_good (src dst : Int) (A : Option Addr) (n c : Nat) (b : List Int) (w : World) (hc : n ≤ c ∧ c ≤ maxLen) (hn : n ≤ 1480) (hA : Rd w A n b) (hx : errSeg src dst b = 0) :
    Calls Tryz.prog 41 #[.int .u32 src, .int .u32 dst, .slice A n c] w (SegGoodT b w) := by
  have hmf : ∀ (fn : Fn) (first cap : Array Value) (w : World), (Instr.makeFunc fn first cap).run Tryz.prog w = .ok (.func fn first cap) w := fun _ _ _ _ => rfl
  have hal : Below w.heap.size w w := Below.refl _ _
  have HA := Lib.hid hA
  have Hx := Lib.hid hx
  have hni : (n : Int) ≤ 1480 := by omega
  clear hA hx
  obtain ⟨z, hz⟩ : ∃ z, w.heap.size = z := ⟨_, rfl⟩
  go_enter Tryz.func41, Tryz.ntmps41
  go_wp2_with fail
  obtain ⟨w0, hw0⟩ : ∃ w0, w0 = ((((w.alloc (.cells #[.int .u32 src] 24)).alloc (.cells #[.int .u32 dst] 24)).alloc (.cells #[.slice A n c] 22)).alloc (.cells #[.int .u16 0, .int .u16 0, .int .u32 0, .int .u32 0, .int .u8 0, .int .u16 0, .int .u16 0, .slice none 0 0, .slice none 0 0] 29)).alloc (.cells #[.int .u16 0, .int .u16 0, .int .u32 0, .int .u32 0, .int .u8 0, .int .u16 0, .int .u16 0, .slice none 0 0, .slice none 0 0] 29) := ⟨_, rfl⟩
  rw [← hw0]
  have hsz : w0.heap.size = z + 5 := by rw [hw0, ← hz]; simp
  have hb0 : Below w.heap.size w w0 := by rw [hw0]; exact ((((hal.alloc (Nat.le_refl _) _).alloc (by simp) _).alloc (by simp <;> omega) _).alloc (by simp <;> omega) _).alloc (by simp <;> omega) _
  have h1 : Box w0 z 24 (.int .u32 src) := by rw [hw0, ← hz]; exact ((((Box.new w _ _).alloc _).alloc _).alloc _).alloc _
  have h2 : Box w0 (z + 1) 24 (.int .u32 dst) := by
    rw [hw0, ← hz]
    have := Box.new (w.alloc (.cells #[.int .u32 src] 24)) 24 (.int .u32 dst)
    exact (((by simpa using this : Box _ (w.heap.size + 1) _ _).alloc _).alloc _).alloc _
  have h3 : Box w0 (z + 2) 22 (.slice A n c) := by
    rw [hw0, ← hz]
    have := Box.new ((w.alloc (.cells #[.int .u32 src] 24)).alloc (.cells #[.int .u32 dst] 24)) 22 (.slice A n c)
    exact ((by simpa using this : Box _ (w.heap.size + 2) _ _).alloc _).alloc _
  have h4 : w0.heap[z + 3]? = some (.cells (segC zeroSeg none 0 0 none 0 0) 29 (0, 0)) := by
    rw [hw0, ← hz]
    have := heap_alloc_new (((w.alloc (.cells #[.int .u32 src] 24)).alloc (.cells #[.int .u32 dst] 24)).alloc (.cells #[.slice A n c] 22)) (.cells #[.int .u16 0, .int .u16 0, .int .u32 0, .int .u32 0, .int .u8 0, .int .u16 0, .int .u16 0, .slice none 0 0, .slice none 0 0] 29)
    rw [Below.heap_alloc _ _ _ (by simp)]
    simpa [segC, zeroSeg] using this
  have h5 : w0.heap[z + 4]? = some (.cells (segC zeroSeg none 0 0 none 0 0) 29 (0, 0)) := by
    rw [hw0, ← hz]
    have := heap_alloc_new ((((w.alloc (.cells #[.int .u32 src] 24)).alloc (.cells #[.int .u32 dst] 24)).alloc (.cells #[.slice A n c] 22)).alloc (.cells #[.int .u16 0, .int .u16 0, .int .u32 0, .int .u32 0, .int .u8 0, .int .u16 0, .int .u16 0, .slice none 0 0, .slice none 0 0] 29)) (.cells #[.int .u16 0, .int .u16 0, .int .u32 0, .int .u32 0, .int .u8 0, .int .u16 0, .int .u16 0, .slice none 0 0, .slice none 0 0] 29)
    simpa [segC, zeroSeg] using this
  have hr0 := HA.out.below hb0
  clear hw0
  have hdo := fun w1 g (hb : Below w0.heap.size w0 w1) (_ : w0.heap.size ≤ g) (_ : g < w1.heap.size) (hR : Rdr w1 w0.heap.size g b 0) =>
    tparse1_any w0.heap.size g z (z + 1) (z + 2) (z + 4) n c src dst A w1 (by omega) hn b hc (fun h x o e => by
      obtain ⟨x', o', e', hlt, _⟩ := hr0.at_ h
      rw [e] at e'; injection e' with e'; injection e' with e'; subst e'; exact hlt) (hr0.below hb) (h1.below hb (by omega)) (h2.below hb (by omega)) (h3.below hb (by omega)) ((hb.block _ (by omega)).trans h5) hR
  have hread := read_any (fun k => k = z + 4) _ n c #[.pointer (some ⟨z, 0, none⟩), .pointer (some ⟨z + 1, 0, none⟩), .pointer (some ⟨z + 2, 0, none⟩), .pointer (some ⟨z + 4, 0, none⟩)] _ (fun _ => rfl) A b (SegR (z + 4) src dst b) w0 (fun k hk => by omega) (by omega) hr0 (enter_of Tryz.func77 (by kernel_rfl) rfl) hdo
  have Hb0 := Lib.hid hb0
  have H4 := Lib.hid h4
  have Hsz := Lib.hid hsz
  have Hz := Lib.hid hz
  clear hb0 h1 h2 h3 h4 h5 hr0 hdo hal hsz hz
  refine hread.mono ?_
  clear hread
  rintro e w5 ⟨x', w1, w4, rfl, hb1, ⟨hxe, hR⟩, hb4, hb5⟩
  rw [Hx.out] at hxe
  subst hxe
  rcases hR with ⟨h, _⟩ | ⟨_, AO, nO, cO, os, AD, cD, hq, ho, hl, hd⟩
  · exact absurd rfl h
  have hsz := Hsz.out
  have hz := Hz.out
  have hqb := hb4.blk hq (by omega)
  have hrb := hb5.blk H4.out (by omega)
  have ho5 := ho.but hb4 (fun k e => by have := ho.at_ e; omega)
  have hl5 := hl.but hb4 (fun _ _ _ k h2 => by have := h2.at_ rfl; omega)
  have hd5 := hd.but hb4 (fun k hk e => by omega)
  obtain ⟨S, eS⟩ : ∃ S, segOf b (offB b) = S := ⟨_, rfl⟩
  obtain ⟨nD, enD⟩ : ∃ nD, b.length - offB b = nD := ⟨_, rfl⟩
  rw [eS] at hl5
  rw [eS, enD] at hqb
  rw [enD] at hd5
  unfold segC at hqb
  unfold segC zeroSeg at hrb
  have hB := Hb0.out.trans (hb5.below (B := w.heap.size) (fun k hk => by omega) Hb0.out.size)
  have HB := Lib.hid hB
  have Hfin : Hid (∀ w', Below w.heap.size w w' → OwnO w' w.heap.size AO nO cO os → OwnL w' w.heap.size os S.os → OwnB w' w.heap.size AD nD cD (b.drop (offB b)) →
      SegGoodT b w (.returned (.tuple #[.agg #[.int .u16 S.sp, .int .u16 S.dp, .int .u32 S.sq, .int .u32 S.ak, .int .u8 S.fl, .int .u16 S.wn, .int .u16 S.ug, .slice AO nO cO, .slice AD nD cD], .int .i64 0])) w') :=
    fun w' h1 h2 h3 h4 => ⟨AO, nO, cO, os, AD, cD, by rw [eS, enD]; rfl, h2, by rw [eS]; exact h3, by rw [enD]; exact h4, h1⟩
  obtain ⟨q0, q1, q2, q3, q4, q5, q6, q7, q8⟩ := seg_cells hqb
  obtain ⟨r0, r1, r2, r3, r4, r5, r6, r7, r8⟩ := seg_cells hrb
  have rf := blk_free hrb
  have HS9 := Lib.hid (set9_cells hrb)
  have Hset := Lib.hid (set9_but w5 (z + 3))
  have HO := Lib.hid ho5
  have HL := Lib.hid hl5
  have HD := Lib.hid hd5
  have hw1 : z + 5 ≤ w1.heap.size := by have := hb1.size; omega
  obtain ⟨sp, dp, sq, ak, fl, wn, ug, oS, dS⟩ := S
  simp only at q0 q1 q2 q3 q4 q5 q6 q7 q8 Hfin HL
  clear hqb hrb hq hb1 hb4 hb5 hsz hB ho hl hd ho5 hl5 hd5 eS enD hz
  go_wp2_with fail
  have hz := Hz.out
  obtain ⟨s0, s1, s2, s3, s4, s5, s6, s7, s8⟩ := HS9.out (.int .u16 sp) (.int .u16 dp) (.int .u32 sq) (.int .u32 ak) (.int .u8 fl) (.int .u16 wn) (.int .u16 ug) (.slice AO nO cO) (.slice AD nD cD)
  have Hset := Hset.out (.int .u16 sp) (.int .u16 dp) (.int .u32 sq) (.int .u32 ak) (.int .u8 fl) (.int .u16 wn) (.int .u16 ug) (.slice AO nO cO) (.slice AD nD cD)
  refine bodyPost_ret (v := .tuple #[.agg #[.int .u16 sp, .int .u16 dp, .int .u32 sq, .int .u32 ak, .int .u8 fl, .int .u16 wn, .int .u16 ug, .slice AO nO cO, .slice AD nD cD], .int .i64 0]) (by simp [results, Tryz.results41, go_sem, s0, s1, s2, s3, s4, s5, s6, s7, s8]) rfl (Hfin.out _ ?_ ?_ ?_ ?_)
  · exact (((((((((HB.out.setCell (by simp <;> omega) _).setCell (by simp <;> omega) _).setCell (by simp <;> omega) _).setCell (by simp <;> omega) _).setCell (by simp <;> omega) _).setCell (by simp <;> omega) _).setCell (by simp <;> omega) _).setCell (by simp <;> omega) _).setCell (by simp <;> omega) _)
  · exact (HO.out.but Hset (fun k e => by have := HO.out.at_ e; omega)).mono (by omega)
  · exact (HL.out.but Hset (fun _ _ _ k h2 => by have := h2.at_ rfl; omega)).low (by omega)
  · exact (HD.out.but Hset (fun k hk e => by omega)).mono (by omega)

/-- Parse, by whether something is wrong. -/
theorem tparse_err (src dst : Int) (A : Option Addr) (n c : Nat) (b : List Int) (x : Int) (w : World) (hc : n ≤ c ∧ c ≤ maxLen) (hA : Rd w A n b) (hx : errSeg src dst b = x) (h0 : x ≠ 0) :
    Calls Tryz.prog 41 #[.int .u32 src, .int .u32 dst, .slice A n c] w (SegBad x w) := by
  by_cases h1 : 1480 < n
  · have := tparse_long src dst A n c b w hA h1
    rw [hx] at this
    exact this
  · exact tparse_bad src dst A n c b x w hc (by omega) hA hx h0
theorem tparse_ok (src dst : Int) (A : Option Addr) (n c : Nat) (b : List Int) (w : World) (hc : n ≤ c ∧ c ≤ maxLen) (hA : Rd w A n b) (hx : errSeg src dst b = 0) :
    Calls Tryz.prog 41 #[.int .u32 src, .int .u32 dst, .slice A n c] w (SegGoodT b w) := by
  refine tparse_good src dst A n c b w hc ?_ hA hx
  rw [← hA.len]
  unfold errSeg at hx
  by_cases h3 : 1480 < b.length
  · rw [if_pos h3] at hx; omega
  · omega
end Go.Proofs.YtheknmihnkennaaGreat

/-
  culvertlaw06's wakes: what the document's examples say.
-/
namespace Go.Proofs.YtheknmihnkennaaGreat
set_option maxRecDepth 10000
open Go.RowKit

theorem segB_bytes {src dst : Int} {s : Seg} (h : SegNum s) (h0 : errS s = 0) (ho : ∀ l ∈ s.os, (0 ≤ l.1 ∧ l.1 < 256) ∧ ∀ x ∈ l.2, 0 ≤ x ∧ x < 256) (hd : ∀ x ∈ s.d, 0 ≤ x ∧ x < 256) : ∀ x ∈ segB src dst s, 0 ≤ x ∧ x < 256 := by
  have hm := (errS_zero s).1 h0
  unfold mayT at hm
  simp at hm
  have hl := padTo4_len (bytesO s.os)
  have hyl : ∀ l ∈ s.os, l.2.length ≤ 38 := fun l hl => (badB_false (by have := hm.1.1; simpa using this l.1 l.2 hl)).2
  intro x hx
  unfold segB at hx
  rcases List.mem_append.1 hx with h1 | h1
  · rcases List.mem_append.1 h1 with h2 | h2
    · refine segHd_bytes s _ _ h.fl ?_ x h2
      unfold offS optB
      omega
    · exact padTo4_bytes_ (bytesO_bytes ho hyl) x h2
  · exact hd x h1

end Go.Proofs.YtheknmihnkennaaGreat

/-
  How long a slice that comes in is, as its reading has it; bytes that come in, opened. No function of the program.
-/
namespace Go.Proofs.YtheknmihnkennaaGreat
set_option maxRecDepth 10000
open Go.Joins Go.ChangeShapes Go.WideShapes Go.ChangeAt Go.RowKit Go.Deep

section
variable {H : Type} {enc : TypeId × Value → H} {W : World} {base : Nat} {v : Value} {d : DataW H} {p : List MemPlace}
end
end Go.Proofs.YtheknmihnkennaaGreat
