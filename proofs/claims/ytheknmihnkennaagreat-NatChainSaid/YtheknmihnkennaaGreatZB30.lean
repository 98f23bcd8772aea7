/-
  Texts laid together: NatS, NatT, NatU, NatH.
-/
import Derived.Test.YtheknmihnkennaaGreatZB04
import Derived.Test.YtheknmihnkennaaGreatZB29

/-
  What is rewritten is a packet still (stage 15, written ahead): its payload is right, whatever it is. Plain lists.
-/
namespace Go.Proofs.YtheknmihnkennaaGreat
set_option maxRecDepth 10000
open Go.RowKit
set_option linter.unusedSimpArgs false
set_option linter.unusedVariables false

theorem part_same {b b' : List Int} (hl : b'.length = b.length) (lo hi : Nat) (h : ∀ i, lo ≤ i → i < hi → b'.getD i 0 = b.getD i 0) : (b'.take hi).drop lo = (b.take hi).drop lo := by
  refine List.ext_getElem? (fun i => ?_)
  rw [List.getElem?_drop, List.getElem?_drop]
  by_cases h1 : lo + i < hi
  · rw [List.getElem?_take_of_lt h1, List.getElem?_take_of_lt h1]
    have h2 := h (lo + i) (by omega) h1
    by_cases h3 : lo + i < b.length
    · rw [List.getElem?_eq_getElem h3, List.getElem?_eq_getElem (by omega)]
      simp only [List.getD, List.getElem?_eq_getElem h3, List.getElem?_eq_getElem (show lo + i < b'.length by omega), Option.getD_some] at h2
      rw [h2]
    · rw [List.getElem?_eq_none (by omega), List.getElem?_eq_none (by omega)]
  · rw [List.getElem?_eq_none (by rw [List.length_take]; omega), List.getElem?_eq_none (by rw [List.length_take]; omega)]
theorem hd_sr (b : List Int) : (hdOf b).sr = srW b := by unfold hdOf srW wordL; simp only [Nat.reduceMul, Nat.reduceAdd]; omega
theorem hd_ds (b : List Int) : (hdOf b).ds = dsW b := by unfold hdOf dsW wordL; simp only [Nat.reduceMul, Nat.reduceAdd]; omega
theorem rest_at (b : List Int) (H i : Nat) (h : (hdrL b).toNat = 2 * H) : (restOf b).getD i 0 = b.getD (2 * H + i) 0 := by
  unfold restOf
  rw [h, getD_dropW]
theorem rest_len (b : List Int) (H : Nat) (h : (hdrL b).toNat = 2 * H) : (restOf b).length = b.length - 2 * H := by
  unfold restOf
  rw [h, List.length_drop]
theorem seg_kept {H : Nat} {b b' : List Int} (hb : Bytes b) (hs : SameW 6 H (H + 8) b b') (h1 : (hdrL b).toNat = 2 * H) (h1' : (hdrL b').toNat = 2 * H) (he : errSeg (srW b) (dsW b) (restOf b) = 0)
    (hi : ∀ i, 2 * H + 4 ≤ i → i / 2 ≠ H + 8 → b'.getD i 0 = b.getD i 0) : errSeg (srW b') (dsW b') (restOf b') = 0 := by
  have l1 := rest_len b H h1
  have l2 := rest_len b' H h1'
  have hln := hs.len
  unfold errSeg at he ⊢
  have eo : offB (restOf b') = offB (restOf b) := by unfold offB; rw [rest_at b' H 12 h1', rest_at b H 12 h1, hi _ (by omega) (by omega)]
  have el : (restOf b').length = (restOf b).length := by omega
  rw [el, eo]
  by_cases c1 : 1480 < (restOf b).length
  · rw [if_pos c1] at he; cases he
  rw [if_neg c1] at he ⊢
  by_cases c2 : (restOf b).length < 20
  · rw [if_pos c2] at he; cases he
  rw [if_neg c2] at he ⊢
  by_cases c3 : offB (restOf b) < 20
  · rw [if_pos c3] at he; cases he
  rw [if_neg c3] at he ⊢
  by_cases c4 : (restOf b).length < offB (restOf b)
  · rw [if_pos c4] at he; cases he
  rw [if_neg c4] at he ⊢
  by_cases c5 : sumL (pseudoL (srW b) (dsW b) 6 (restOf b).length ++ restOf b) ≠ 65535
  · rw [if_pos c5] at he; cases he
  rw [if_neg c5] at he
  have c5' : sumL (pseudoL (srW b') (dsW b') 6 (restOf b).length ++ restOf b') = 65535 := by
    have h := Classical.not_not.1 c5
    unfold restOf at h ⊢
    rw [h1] at h ⊢
    rw [h1']
    exact load_kept (by decide) (by decide) hs hb _ (fun hc => absurd hc.1 (by decide)) h
  rw [if_neg (fun hc => hc c5')]
  have eopt : ((restOf b').take (offB (restOf b))).drop 20 = ((restOf b).take (offB (restOf b))).drop 20 :=
    part_same el 20 _ (fun i h2 _ => by rw [rest_at b' H i h1', rest_at b H i h1, hi _ (by omega) (by omega)])
  rw [eopt]
  exact he
theorem dg_kept {H : Nat} {b b' : List Int} (hb : Bytes b) (hs : SameW 17 H (H + 3) b b') (h1 : (hdrL b).toNat = 2 * H) (h1' : (hdrL b').toNat = 2 * H) (he : errU (srW b) (dsW b) (restOf b) = 0)
    (hi : ∀ i, 2 * H + 4 ≤ i → i / 2 ≠ H + 3 → b'.getD i 0 = b.getD i 0) : errU (srW b') (dsW b') (restOf b') = 0 := by
  have l1 := rest_len b H h1
  have l2 := rest_len b' H h1'
  have hln := hs.len
  have e6 : ∀ c : List Int, (hdrL c).toNat = 2 * H → n16 (restOf c) 6 = wordL c (H + 3) := fun c hc => by
    unfold n16 wordL
    rw [rest_at c H 6 hc, rest_at c H 7 hc, show 2 * H + 6 = 2 * (H + 3) by omega, show 2 * H + 7 = 2 * (H + 3) + 1 by omega]
  unfold errU at he ⊢
  have e4 : n16 (restOf b') 4 = n16 (restOf b) 4 := by unfold n16; rw [rest_at b' H 4 h1', rest_at b H 4 h1, rest_at b' H 5 h1', rest_at b H 5 h1, hi _ (by omega) (by omega), hi _ (by omega) (by omega)]
  have el : (restOf b').length = (restOf b).length := by omega
  rw [el, e4, e6 b' h1']
  rw [e6 b h1] at he
  by_cases c1 : 1480 < (restOf b).length
  · rw [if_pos c1] at he; cases he
  rw [if_neg c1] at he ⊢
  by_cases c2 : (restOf b).length < 8
  · rw [if_pos c2] at he; cases he
  rw [if_neg c2] at he ⊢
  by_cases c3 : n16 (restOf b) 4 ≠ ((restOf b).length : Int)
  · rw [if_pos c3] at he; cases he
  rw [if_neg c3] at he ⊢
  by_cases c4 : wordL b (H + 3) ≠ 0 ∧ sumL (pseudoL (srW b) (dsW b) 17 (restOf b).length ++ restOf b) ≠ 65535
  · rw [if_pos c4] at he; cases he
  rw [if_neg (fun hc => ?_)]
  by_cases h0 : wordL b (H + 3) = 0
  · exact hc.1 (hs.z rfl h0)
  · have h : sumL (pseudoL (srW b) (dsW b) 17 (restOf b).length ++ restOf b) = 65535 := Classical.byContradiction (fun hq => c4 ⟨h0, hq⟩)
    refine hc.2 ?_
    unfold restOf at h ⊢
    rw [h1] at h ⊢
    rw [h1']
    exact load_kept (by decide) (by decide) hs hb _ (fun hq => h0 hq.2) h
theorem msg_kept {H : Nat} {b b' : List Int} (hs : SameW 1 H (H + 1) b b') (h1 : (hdrL b).toNat = 2 * H) (h1' : (hdrL b').toNat = 2 * H) (he : errM (restOf b) = 0) : errM (restOf b') = 0 := by
  have l1 := rest_len b H h1
  have l2 := rest_len b' H h1'
  have hln := hs.len
  unfold errM at he ⊢
  have el : (restOf b').length = (restOf b).length := by omega
  rw [el]
  by_cases c1 : 1480 < (restOf b).length
  · rw [if_pos c1] at he; cases he
  rw [if_neg c1] at he ⊢
  by_cases c2 : (restOf b).length < 8
  · rw [if_pos c2] at he; cases he
  rw [if_neg c2] at he ⊢
  by_cases c3 : sumL (restOf b) = 65535
  · have : sumL (restOf b') = 65535 := by
      unfold restOf at c3 ⊢
      rw [h1] at c3
      rw [h1']
      exact load_kept1 hs c3
    rw [if_pos this]
  · rw [if_neg c3] at he; cases he
end Go.Proofs.YtheknmihnkennaaGreat

/-
  packet.Parse over all bytes: an error or the packet of the bytes (stage 15, written ahead).
-/
namespace Go.Proofs.YtheknmihnkennaaGreat
set_option maxRecDepth 10000
open Go.RowKit
set_option linter.unusedSimpArgs false
set_option linter.unusedVariables false

/-- What packet.Parse tells of bytes. -/
def errAll (b : List Int) : Int :=
  if errIp b ≠ 0 then errIp b
  else if (hdOf b).pr = 6 then errSeg (hdOf b).sr (hdOf b).ds (restOf b)
  else if (hdOf b).pr = 17 then errU (hdOf b).sr (hdOf b).ds (restOf b)
  else if (hdOf b).pr = 1 then errM (restOf b)
  else 22
/-- The packet of bytes. -/
def pkOfB (b : List Int) : Pk :=
  if (hdOf b).pr = 6 then ⟨hdOf b, segOf (restOf b) (offB (restOf b)), zeroDg, zeroM⟩
  else if (hdOf b).pr = 17 then ⟨hdOf b, zeroSeg, dgOf (restOf b), zeroM⟩
  else ⟨hdOf b, zeroSeg, zeroDg, msgOf (restOf b)⟩
theorem errAll_ip {b : List Int} (h : errAll b = 0) : errIp b = 0 := by
  unfold errAll at h
  by_cases h1 : errIp b ≠ 0
  · rw [if_pos h1] at h; exact h
  · omega
theorem errAll_pr {b : List Int} (h : errAll b = 0) : (hdOf b).pr = 6 ∨ (hdOf b).pr = 17 ∨ (hdOf b).pr = 1 := by
  unfold errAll at h
  by_cases h1 : errIp b ≠ 0
  · rw [if_pos h1] at h; exact absurd h h1
  rw [if_neg h1] at h
  by_cases h6 : (hdOf b).pr = 6
  · exact .inl h6
  by_cases h17 : (hdOf b).pr = 17
  · exact .inr (.inl h17)
  by_cases h3 : (hdOf b).pr = 1
  · exact .inr (.inr h3)
  rw [if_neg h6, if_neg h17, if_neg h3] at h
  cases h
theorem pkOfB_h (b : List Int) : (pkOfB b).h = hdOf b := by
  unfold pkOfB
  split
  · rfl
  · split <;> rfl
theorem parse9_err (A : Option Addr) (n c : Nat) (b : List Int) (k : Int) (w : World) (hc : n ≤ c ∧ c ≤ maxLen) (hn : n ≤ 140737488355328) (hA : Rd w A n b) (he : errAll b = k) (h0 : k ≠ 0) :
    Calls Tryz.prog 6 #[.slice A n c] w (PkBad k w) := by
  unfold errAll at he
  by_cases h1 : errIp b ≠ 0
  · rw [if_pos h1] at he
    exact parse9_head A n c b k w hc hn hA he h0
  have h2 : errIp b = 0 := by omega
  rw [if_neg h1] at he
  by_cases h6 : (hdOf b).pr = 6
  · rw [if_pos h6] at he
    exact parse9_bad_6 A n c _ _ b _ _ k w hc hn hA h2 rfl rfl rfl rfl h6 he h0
  rw [if_neg h6] at he
  by_cases h17 : (hdOf b).pr = 17
  · rw [if_pos h17] at he
    exact parse9_bad_17 A n c _ _ b _ _ k w hc hn hA h2 rfl rfl rfl rfl h17 he h0
  rw [if_neg h17] at he
  by_cases h3 : (hdOf b).pr = 1
  · rw [if_pos h3] at he
    exact parse9_bad_1 A n c _ _ b _ _ k w hc hn hA h2 rfl rfl rfl rfl h3 he h0
  rw [if_neg h3] at he
  subst he
  exact parse9_no A n c _ _ b _ _ w hc hn hA h2 rfl rfl rfl rfl h6 h17 h3
theorem parse9_ok (A : Option Addr) (n c : Nat) (b : List Int) (w : World) (hc : n ≤ c ∧ c ≤ maxLen) (hn : n ≤ 140737488355328) (hA : Rd w A n b) (he : errAll b = 0) :
    Calls Tryz.prog 6 #[.slice A n c] w (PkGood (pkOfB b) w) := by
  unfold errAll at he
  have h1 : ¬ errIp b ≠ 0 := fun h => by rw [if_pos h] at he; exact h he
  have h2 : errIp b = 0 := by omega
  rw [if_neg h1] at he
  unfold pkOfB
  by_cases h6 : (hdOf b).pr = 6
  · rw [if_pos h6] at he ⊢
    exact parse9_good_6 A n c _ _ _ b _ _ _ w hc hn hA h2 rfl rfl rfl rfl h6 he rfl rfl
  rw [if_neg h6] at he ⊢
  by_cases h17 : (hdOf b).pr = 17
  · rw [if_pos h17] at he ⊢
    exact parse9_good_17 A n c _ _ _ b _ _ _ w hc hn hA h2 rfl rfl rfl rfl h17 he rfl rfl
  rw [if_neg h17] at he ⊢
  by_cases h3 : (hdOf b).pr = 1
  · rw [if_pos h3] at he
    exact parse9_good_1 A n c _ _ _ b _ _ _ w hc hn hA h2 rfl rfl rfl rfl h3 he rfl rfl
  rw [if_neg h3] at he
  cases he
end Go.Proofs.YtheknmihnkennaaGreat

/-
  A packet's bytes under changes of its words: they are a packet still; one hop (stage 15, written ahead). Plain lists.
-/
namespace Go.Proofs.YtheknmihnkennaaGreat
set_option maxRecDepth 10000
open Go.RowKit
set_option linter.unusedSimpArgs false
set_option linter.unusedVariables false

/-- How many words a header has; the word of the payload's field. -/
def hdW (b : List Int) : Nat := 2 * (b.getD 0 0 % 16).toNat
def fldW (b : List Int) : Nat := if b.getD 9 0 = 6 then hdW b + 8 else if b.getD 9 0 = 17 then hdW b + 3 else hdW b + 1
theorem hd_pr (b : List Int) : (hdOf b).pr = b.getD 9 0 := rfl
theorem pk_w {b : List Int} (hb : Bytes b) (he : errAll b = 0) : PkW (hdW b) b := PkW.of (errAll_ip he) hb
/-- Each part's own error of a packet's bytes is none. -/
theorem parts_ok {b : List Int} (he : errAll b = 0) :
    (b.getD 9 0 = 6 → errSeg (srW b) (dsW b) (restOf b) = 0) ∧ (b.getD 9 0 = 17 → errU (srW b) (dsW b) (restOf b) = 0) ∧ (b.getD 9 0 = 1 → errM (restOf b) = 0) := by
  have h1 := errAll_ip he
  unfold errAll at he
  rw [if_neg (by omega), hd_sr, hd_ds, hd_pr] at he
  refine ⟨fun h => ?_, fun h => ?_, fun h => ?_⟩
  · rw [if_pos h] at he; exact he
  · rw [if_neg (by omega), if_pos h] at he; exact he
  · rw [if_neg (by omega), if_neg (by omega), if_pos h] at he; exact he
theorem errAll_of {b : List Int} (h0 : errIp b = 0) (hp : b.getD 9 0 = 6 ∨ b.getD 9 0 = 17 ∨ b.getD 9 0 = 1)
    (h6 : b.getD 9 0 = 6 → errSeg (srW b) (dsW b) (restOf b) = 0) (h17 : b.getD 9 0 = 17 → errU (srW b) (dsW b) (restOf b) = 0) (h1 : b.getD 9 0 = 1 → errM (restOf b) = 0) : errAll b = 0 := by
  unfold errAll
  rw [if_neg (by omega), hd_sr, hd_ds, hd_pr]
  rcases hp with h | h | h
  · rw [if_pos h]; exact h6 h
  · rw [if_neg (by omega), if_pos h]; exact h17 h
  · rw [if_neg (by omega), if_neg (by omega), if_pos h]; exact h1 h
theorem seg_long {s d : Int} {b : List Int} (h : errSeg s d b = 0) : 20 ≤ b.length := by
  unfold errSeg at h
  by_cases h1 : 1480 < b.length
  · omega
  rw [if_neg h1] at h
  by_cases h2 : b.length < 20
  · rw [if_pos h2] at h; cases h
  · omega
theorem dg_long {s d : Int} {b : List Int} (h : errU s d b = 0) : 8 ≤ b.length := by
  unfold errU at h
  by_cases h1 : 1480 < b.length
  · omega
  rw [if_neg h1] at h
  by_cases h2 : b.length < 8
  · rw [if_pos h2] at h; cases h
  · omega
theorem pk_lay {b : List Int} (hb : Bytes b) (he : errAll b = 0) : LayW (hdW b) (fldW b) b := by
  have hw := pk_w hb he
  have ht := hw.ten
  have hl := rest_len b (hdW b) hw.hH
  obtain ⟨g6, g17, g1⟩ := parts_ok he
  have hp := errAll_pr he
  rw [hd_pr] at hp
  unfold fldW
  rcases hp with h | h | h
  · rw [if_pos h]
    have := seg_long (g6 h)
    exact ⟨hb, ht.1, by omega, by omega⟩
  · rw [if_neg (by omega), if_pos h]
    have := dg_long (g17 h)
    exact ⟨hb, ht.1, by omega, by omega⟩
  · rw [if_neg (by omega), if_neg (by omega)]
    have := errM_eight (g1 h)
    exact ⟨hb, ht.1, by omega, by omega⟩
/-- The bytes, some words of which became others. -/
def rwB (b : List Int) (ks : List (Nat × Int)) : List Int := rwW (b.getD 9 0) (hdW b) (fldW b) b ks
/-- A word that may become another one, and what. -/
def MayW (b : List Int) (p : Nat × Int) : Prop :=
  U16 p.2 ∧ ((p.1 = 4 ∧ p.2 % 256 = b.getD 9 0 ∧ p.2 / 256 ≠ 0) ∨ (6 ≤ p.1 ∧ p.1 ≤ 9) ∨ (b.getD 9 0 ≠ 1 ∧ hdW b ≤ p.1 ∧ p.1 ≤ hdW b + 1) ∨ (b.getD 9 0 = 1 ∧ p.1 = hdW b + 2))
theorem may_keys {b : List Int} {ks : List (Nat × Int)} (hb : Bytes b) (he : errAll b = 0) (hk : ∀ p ∈ ks, MayW b p) : KeysW (fldW b) b.length ks := by
  intro p hp
  have hl := pk_lay hb he
  have hr := rest_len b (hdW b) (pk_w hb he).hH
  obtain ⟨hu, hm⟩ := hk p hp
  have h1 := hl.h10
  have h2 := hl.hF
  have h3 := hl.len
  obtain ⟨g6, g17, g1⟩ := parts_ok he
  have hpr := errAll_pr he
  rw [hd_pr] at hpr
  have hF : fldW b = if b.getD 9 0 = 6 then hdW b + 8 else if b.getD 9 0 = 17 then hdW b + 3 else hdW b + 1 := rfl
  have h8 : 8 ≤ (restOf b).length := by
    rcases hpr with h | h | h
    · have := seg_long (g6 h); omega
    · exact dg_long (g17 h)
    · exact errM_eight (g1 h)
  refine ⟨by omega, ?_, by omega, hu⟩
  rcases hpr with h | h | h
  · rw [if_pos h] at hF; omega
  · rw [if_neg (by omega), if_pos h] at hF; omega
  · rw [if_neg (by omega), if_neg (by omega)] at hF; omega
/-- What is rewritten is a packet still, of the same protocol and header's length. -/
theorem rw_kept {b : List Int} {ks : List (Nat × Int)} (hb : Bytes b) (he : errAll b = 0) (hk : ∀ p ∈ ks, MayW b p) :
    errAll (rwB b ks) = 0 ∧ Bytes (rwB b ks) ∧ (rwB b ks).length = b.length ∧ hdW (rwB b ks) = hdW b ∧ (rwB b ks).getD 9 0 = b.getD 9 0 ∧ SameW (b.getD 9 0) (hdW b) (fldW b) b (rwB b ks) := by
  have hl := pk_lay hb he
  have hkeys := may_keys hb he hk
  have hs : SameW (b.getD 9 0) (hdW b) (fldW b) b (rwB b ks) := rwW_same ks hl hkeys
  have hat : ∀ {i : Nat}, i / 2 ≠ 5 → i / 2 ≠ fldW b → (rwB b ks).getD i 0 = _ := rwW_byte (pr := b.getD 9 0) ks hl hkeys
  have h10 := hl.h10
  have hF := hl.hF
  have hfar : ∀ k, (∀ p ∈ ks, p.1 ≠ k) → ∀ i, i / 2 = k → k ≠ 5 → k ≠ fldW b → (rwB b ks).getD i 0 = b.getD i 0 := fun k hno i e h5 hf => by
    rw [hat (by omega) (by omega), e, lastW_none.2 hno]
  have hlow : ∀ i, i < 8 → (rwB b ks).getD i 0 = b.getD i 0 := fun i hi => hfar (i / 2) (fun p hp e => by obtain ⟨_, hm⟩ := hk p hp; omega) i rfl (by omega) (by omega)
  have h4 : (rwB b ks).getD 8 0 ≠ 0 ∧ (rwB b ks).getD 9 0 = b.getD 9 0 := by
    have e8 := hat (i := 8) (by decide) (by omega)
    have e9 := hat (i := 9) (by decide) (by omega)
    cases hh : lastW ks 4 with
    | none =>
      rw [hh] at e8 e9
      have hip := (errIp_parts b).1 (errAll_ip he)
      exact ⟨by rw [e8]; exact hip.2.2.2.2.2.2.2.2.2, e9⟩
    | some n =>
      rw [hh] at e8 e9
      have hm : ∃ p ∈ ks, p.1 = 4 ∧ p.2 = n := lastW_mem hh
      obtain ⟨p, hp, h1, h2⟩ := hm
      obtain ⟨hu, hq⟩ := hk p hp
      rw [h2] at hq
      simp only at e8 e9
      rw [if_pos (by decide)] at e8
      rw [if_neg (by decide)] at e9
      exact ⟨by omega, by omega⟩
  have hw := (pk_w hb he).kept hs hlow h4.1
  have e0 : hdW (rwB b ks) = hdW b := by unfold hdW; rw [hlow 0 (by omega)]
  obtain ⟨g6, g17, g1⟩ := parts_ok he
  have hp := errAll_pr he
  rw [hd_pr] at hp
  have hb1 := (pk_w hb he).hH
  refine ⟨errAll_of hw.ok (by rw [h4.2]; exact hp) ?_ ?_ ?_, hs.lay.byte, hs.len, e0, h4.2, hs⟩
  · rw [h4.2]
    intro h
    have hFe : fldW b = hdW b + 8 := by unfold fldW; rw [if_pos h]
    rw [h, hFe] at hs
    exact seg_kept hb hs hb1 hw.hH (g6 h) (fun i hi hF8 => hfar (i / 2) (fun p hp e => by obtain ⟨_, hm⟩ := hk p hp; omega) i rfl (by omega) (by omega))
  · rw [h4.2]
    intro h
    have hFe : fldW b = hdW b + 3 := by unfold fldW; rw [if_neg (by omega), if_pos h]
    rw [h, hFe] at hs
    exact dg_kept hb hs hb1 hw.hH (g17 h) (fun i hi hF8 => hfar (i / 2) (fun p hp e => by obtain ⟨_, hm⟩ := hk p hp; omega) i rfl (by omega) (by omega))
  · rw [h4.2]
    intro h
    have hFe : fldW b = hdW b + 1 := by unfold fldW; rw [if_neg (by omega), if_neg (by omega)]
    rw [h, hFe] at hs
    exact msg_kept hs hb1 hw.hH (g1 h)
end Go.Proofs.YtheknmihnkennaaGreat

/-
  One hop: a packet's bytes with a Ttl less one (stage 15, written ahead). Plain lists.
-/
namespace Go.Proofs.YtheknmihnkennaaGreat
set_option maxRecDepth 10000
open Go.RowKit
set_option linter.unusedSimpArgs false
set_option linter.unusedVariables false

/-- The word of Ttl and Proto, with one less. -/
def hopK (b : List Int) : Nat × Int := (4, (b.getD 8 0 - 1) * 256 + b.getD 9 0)
theorem hop_may {b : List Int} (hb : Bytes b) (ht : 1 < b.getD 8 0) : ∀ p ∈ [hopK b], MayW b p := by
  intro p hp
  rcases List.mem_singleton.1 hp
  have h8 := getD_mem b hb 8
  have h9 := getD_mem b hb 9
  refine ⟨⟨?_, ?_⟩, .inl ⟨rfl, ?_, ?_⟩⟩ <;> simp only [hopK] <;> omega
theorem ttl_pos {b : List Int} (hb : Bytes b) (he : errAll b = 0) : 1 ≤ b.getD 8 0 := by
  have h := ((errIp_parts b).1 (errAll_ip he)).2.2.2.2.2.2.2.2.2
  have := getD_mem b hb 8
  omega
end Go.Proofs.YtheknmihnkennaaGreat
