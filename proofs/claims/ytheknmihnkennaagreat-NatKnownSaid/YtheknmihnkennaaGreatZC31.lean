/-
  Texts laid together: NatS, NatT, NatU, NatH.
-/
import Derived.Test.YtheknmihnkennaaGreatZC04
import Derived.Test.YtheknmihnkennaaGreatZC30

/-
  What is rewritten is a packet still (stage 15, written ahead): its payload is right, whatever it is. Plain lists.
-/
namespace Go.Proofs.YtheknmihnkennaaGreat
set_option maxRecDepth 10000
open Go.RowKit
set_option linter.unusedSimpArgs false
set_option linter.unusedVariables false

theorem hd_sr (b : List Int) : (hdOf b).sr = srW b := by unfold hdOf srW wordL; simp only [Nat.reduceMul, Nat.reduceAdd]; omega
theorem hd_ds (b : List Int) : (hdOf b).ds = dsW b := by unfold hdOf dsW wordL; simp only [Nat.reduceMul, Nat.reduceAdd]; omega
theorem rest_len (b : List Int) (H : Nat) (h : (hdrL b).toNat = 2 * H) : (restOf b).length = b.length - 2 * H := by
  unfold restOf
  rw [h, List.length_drop]
end Go.Proofs.YtheknmihnkennaaGreat

/-
  packet.Parse over all bytes: an error or the packet of the bytes (stage 15, written ahead).
-/
namespace Go.Proofs.YtheknmihnkennaaGreat
set_option maxRecDepth 10000
open Go.RowKit
set_option linter.unusedSimpArgs false
set_option linter.unusedVariables false

/-- What packet.Parse tells of bytes. -/
def errAll (b : List Int) : Int :=
  if errIp b ≠ 0 then errIp b
  else if (hdOf b).pr = 6 then errSeg (hdOf b).sr (hdOf b).ds (restOf b)
  else if (hdOf b).pr = 17 then errU (hdOf b).sr (hdOf b).ds (restOf b)
  else if (hdOf b).pr = 1 then errM (restOf b)
  else 22
/-- The packet of bytes. -/
def pkOfB (b : List Int) : Pk :=
  if (hdOf b).pr = 6 then ⟨hdOf b, segOf (restOf b) (offB (restOf b)), zeroDg, zeroM⟩
  else if (hdOf b).pr = 17 then ⟨hdOf b, zeroSeg, dgOf (restOf b), zeroM⟩
  else ⟨hdOf b, zeroSeg, zeroDg, msgOf (restOf b)⟩
theorem errAll_ip {b : List Int} (h : errAll b = 0) : errIp b = 0 := by
  unfold errAll at h
  by_cases h1 : errIp b ≠ 0
  · rw [if_pos h1] at h; exact h
  · omega
theorem errAll_pr {b : List Int} (h : errAll b = 0) : (hdOf b).pr = 6 ∨ (hdOf b).pr = 17 ∨ (hdOf b).pr = 1 := by
  unfold errAll at h
  by_cases h1 : errIp b ≠ 0
  · rw [if_pos h1] at h; exact absurd h h1
  rw [if_neg h1] at h
  by_cases h6 : (hdOf b).pr = 6
  · exact .inl h6
  by_cases h17 : (hdOf b).pr = 17
  · exact .inr (.inl h17)
  by_cases h3 : (hdOf b).pr = 1
  · exact .inr (.inr h3)
  rw [if_neg h6, if_neg h17, if_neg h3] at h
  cases h
theorem pkOfB_h (b : List Int) : (pkOfB b).h = hdOf b := by
  unfold pkOfB
  split
  · rfl
  · split <;> rfl
theorem parse9_err (A : Option Addr) (n c : Nat) (b : List Int) (k : Int) (w : World) (hc : n ≤ c ∧ c ≤ maxLen) (hn : n ≤ 140737488355328) (hA : Rd w A n b) (he : errAll b = k) (h0 : k ≠ 0) :
    Calls Tryz.prog 6 #[.slice A n c] w (PkBad k w) := by
  unfold errAll at he
  by_cases h1 : errIp b ≠ 0
  · rw [if_pos h1] at he
    exact parse9_head A n c b k w hc hn hA he h0
  have h2 : errIp b = 0 := by omega
  rw [if_neg h1] at he
  by_cases h6 : (hdOf b).pr = 6
  · rw [if_pos h6] at he
    exact parse9_bad_6 A n c _ _ b _ _ k w hc hn hA h2 rfl rfl rfl rfl h6 he h0
  rw [if_neg h6] at he
  by_cases h17 : (hdOf b).pr = 17
  · rw [if_pos h17] at he
    exact parse9_bad_17 A n c _ _ b _ _ k w hc hn hA h2 rfl rfl rfl rfl h17 he h0
  rw [if_neg h17] at he
  by_cases h3 : (hdOf b).pr = 1
  · rw [if_pos h3] at he
    exact parse9_bad_1 A n c _ _ b _ _ k w hc hn hA h2 rfl rfl rfl rfl h3 he h0
  rw [if_neg h3] at he
  subst he
  exact parse9_no A n c _ _ b _ _ w hc hn hA h2 rfl rfl rfl rfl h6 h17 h3
theorem parse9_ok (A : Option Addr) (n c : Nat) (b : List Int) (w : World) (hc : n ≤ c ∧ c ≤ maxLen) (hn : n ≤ 140737488355328) (hA : Rd w A n b) (he : errAll b = 0) :
    Calls Tryz.prog 6 #[.slice A n c] w (PkGood (pkOfB b) w) := by
  unfold errAll at he
  have h1 : ¬ errIp b ≠ 0 := fun h => by rw [if_pos h] at he; exact h he
  have h2 : errIp b = 0 := by omega
  rw [if_neg h1] at he
  unfold pkOfB
  by_cases h6 : (hdOf b).pr = 6
  · rw [if_pos h6] at he ⊢
    exact parse9_good_6 A n c _ _ _ b _ _ _ w hc hn hA h2 rfl rfl rfl rfl h6 he rfl rfl
  rw [if_neg h6] at he ⊢
  by_cases h17 : (hdOf b).pr = 17
  · rw [if_pos h17] at he ⊢
    exact parse9_good_17 A n c _ _ _ b _ _ _ w hc hn hA h2 rfl rfl rfl rfl h17 he rfl rfl
  rw [if_neg h17] at he ⊢
  by_cases h3 : (hdOf b).pr = 1
  · rw [if_pos h3] at he
    exact parse9_good_1 A n c _ _ _ b _ _ _ w hc hn hA h2 rfl rfl rfl rfl h3 he rfl rfl
  rw [if_neg h3] at he
  cases he
end Go.Proofs.YtheknmihnkennaaGreat

/-
  A packet's bytes under changes of its words: they are a packet still; one hop (stage 15, written ahead). Plain lists.
-/
namespace Go.Proofs.YtheknmihnkennaaGreat
set_option maxRecDepth 10000
open Go.RowKit
set_option linter.unusedSimpArgs false
set_option linter.unusedVariables false

/-- How many words a header has; the word of the payload's field. -/
def hdW (b : List Int) : Nat := 2 * (b.getD 0 0 % 16).toNat
def fldW (b : List Int) : Nat := if b.getD 9 0 = 6 then hdW b + 8 else if b.getD 9 0 = 17 then hdW b + 3 else hdW b + 1
theorem hd_pr (b : List Int) : (hdOf b).pr = b.getD 9 0 := rfl
theorem pk_w {b : List Int} (hb : Bytes b) (he : errAll b = 0) : PkW (hdW b) b := PkW.of (errAll_ip he) hb
/-- Each part's own error of a packet's bytes is none. -/
theorem parts_ok {b : List Int} (he : errAll b = 0) :
    (b.getD 9 0 = 6 → errSeg (srW b) (dsW b) (restOf b) = 0) ∧ (b.getD 9 0 = 17 → errU (srW b) (dsW b) (restOf b) = 0) ∧ (b.getD 9 0 = 1 → errM (restOf b) = 0) := by
  have h1 := errAll_ip he
  unfold errAll at he
  rw [if_neg (by omega), hd_sr, hd_ds, hd_pr] at he
  refine ⟨fun h => ?_, fun h => ?_, fun h => ?_⟩
  · rw [if_pos h] at he; exact he
  · rw [if_neg (by omega), if_pos h] at he; exact he
  · rw [if_neg (by omega), if_neg (by omega), if_pos h] at he; exact he
theorem seg_long {s d : Int} {b : List Int} (h : errSeg s d b = 0) : 20 ≤ b.length := by
  unfold errSeg at h
  by_cases h1 : 1480 < b.length
  · omega
  rw [if_neg h1] at h
  by_cases h2 : b.length < 20
  · rw [if_pos h2] at h; cases h
  · omega
theorem dg_long {s d : Int} {b : List Int} (h : errU s d b = 0) : 8 ≤ b.length := by
  unfold errU at h
  by_cases h1 : 1480 < b.length
  · omega
  rw [if_neg h1] at h
  by_cases h2 : b.length < 8
  · rw [if_pos h2] at h; cases h
  · omega
theorem pk_lay {b : List Int} (hb : Bytes b) (he : errAll b = 0) : LayW (hdW b) (fldW b) b := by
  have hw := pk_w hb he
  have ht := hw.ten
  have hl := rest_len b (hdW b) hw.hH
  obtain ⟨g6, g17, g1⟩ := parts_ok he
  have hp := errAll_pr he
  rw [hd_pr] at hp
  unfold fldW
  rcases hp with h | h | h
  · rw [if_pos h]
    have := seg_long (g6 h)
    exact ⟨hb, ht.1, by omega, by omega⟩
  · rw [if_neg (by omega), if_pos h]
    have := dg_long (g17 h)
    exact ⟨hb, ht.1, by omega, by omega⟩
  · rw [if_neg (by omega), if_neg (by omega)]
    have := errM_eight (g1 h)
    exact ⟨hb, ht.1, by omega, by omega⟩
/-- The bytes, some words of which became others. -/
def rwB (b : List Int) (ks : List (Nat × Int)) : List Int := rwW (b.getD 9 0) (hdW b) (fldW b) b ks
/-- A word that may become another one, and what. -/
def MayW (b : List Int) (p : Nat × Int) : Prop :=
  U16 p.2 ∧ ((p.1 = 4 ∧ p.2 % 256 = b.getD 9 0 ∧ p.2 / 256 ≠ 0) ∨ (6 ≤ p.1 ∧ p.1 ≤ 9) ∨ (b.getD 9 0 ≠ 1 ∧ hdW b ≤ p.1 ∧ p.1 ≤ hdW b + 1) ∨ (b.getD 9 0 = 1 ∧ p.1 = hdW b + 2))
theorem may_keys {b : List Int} {ks : List (Nat × Int)} (hb : Bytes b) (he : errAll b = 0) (hk : ∀ p ∈ ks, MayW b p) : KeysW (fldW b) b.length ks := by
  intro p hp
  have hl := pk_lay hb he
  have hr := rest_len b (hdW b) (pk_w hb he).hH
  obtain ⟨hu, hm⟩ := hk p hp
  have h1 := hl.h10
  have h2 := hl.hF
  have h3 := hl.len
  obtain ⟨g6, g17, g1⟩ := parts_ok he
  have hpr := errAll_pr he
  rw [hd_pr] at hpr
  have hF : fldW b = if b.getD 9 0 = 6 then hdW b + 8 else if b.getD 9 0 = 17 then hdW b + 3 else hdW b + 1 := rfl
  have h8 : 8 ≤ (restOf b).length := by
    rcases hpr with h | h | h
    · have := seg_long (g6 h); omega
    · exact dg_long (g17 h)
    · exact errM_eight (g1 h)
  refine ⟨by omega, ?_, by omega, hu⟩
  rcases hpr with h | h | h
  · rw [if_pos h] at hF; omega
  · rw [if_neg (by omega), if_pos h] at hF; omega
  · rw [if_neg (by omega), if_neg (by omega)] at hF; omega
end Go.Proofs.YtheknmihnkennaaGreat

/-
  One hop: a packet's bytes with a Ttl less one (stage 15, written ahead). Plain lists.
-/
namespace Go.Proofs.YtheknmihnkennaaGreat
set_option maxRecDepth 10000
open Go.RowKit
set_option linter.unusedSimpArgs false
set_option linter.unusedVariables false

/-- The word of Ttl and Proto, with one less. -/
def hopK (b : List Int) : Nat × Int := (4, (b.getD 8 0 - 1) * 256 + b.getD 9 0)
def hopB (b : List Int) : List Int := rwB b [hopK b]
theorem hop_may {b : List Int} (hb : Bytes b) (ht : 1 < b.getD 8 0) : ∀ p ∈ [hopK b], MayW b p := by
  intro p hp
  rcases List.mem_singleton.1 hp
  have h8 := getD_mem b hb 8
  have h9 := getD_mem b hb 9
  refine ⟨⟨?_, ?_⟩, .inl ⟨rfl, ?_, ?_⟩⟩ <;> simp only [hopK] <;> omega
/-- What Hop tells of any bytes. -/
def errHop (b : List Int) : Int := if errAll b ≠ 0 then errAll b else if b.getD 8 0 = 1 then 23 else 0
def hopT (b : List Int) : List Int := if errHop b = 0 then hopB b else []
theorem ttl_pos {b : List Int} (hb : Bytes b) (he : errAll b = 0) : 1 ≤ b.getD 8 0 := by
  have h := ((errIp_parts b).1 (errAll_ip he)).2.2.2.2.2.2.2.2.2
  have := getD_mem b hb 8
  omega
theorem hop_told {b : List Int} (hb : Bytes b) (he : errAll b = 0) : (b.getD 8 0 = 1 ∧ errHop b = 23 ∧ hopT b = []) ∨ (1 < b.getD 8 0 ∧ errHop b = 0 ∧ hopT b = hopB b) := by
  have h := ttl_pos hb he
  by_cases h1 : b.getD 8 0 = 1
  · have e : errHop b = 23 := by unfold errHop; rw [if_neg (by omega), if_pos h1]
    exact .inl ⟨h1, e, by unfold hopT; rw [e]; rfl⟩
  · have e : errHop b = 0 := by unfold errHop; rw [if_neg (by omega), if_neg h1]
    exact .inr ⟨by omega, e, by unfold hopT; rw [e]; rfl⟩
theorem hop_bad {b : List Int} {k : Int} (he : errAll b = k) (h0 : k ≠ 0) : errHop b = k ∧ hopT b = [] := by
  have e : errHop b = k := by unfold errHop; rw [if_pos (by omega)]; exact he
  exact ⟨e, by unfold hopT; rw [if_neg (by omega)]⟩
end Go.Proofs.YtheknmihnkennaaGreat
