/-
  Texts laid together: NatP, Rd, RowInt, CmpOr.
-/
import Derived.Test.YtoegfgbalcholaaGreatZT01
import Derived.Test.YtoegfgbalcholaaGreatRows
import Derived.WalkKit
import Derived.WalkSpells
import Derived.WalkLawsBesides
import Derived.ProofKit
import Derived.OpenShut
import Derived.ChangeOld
import Derived.Below
import Derived.Lib.SmallJoins
import Derived.Lib.Hide
import Derived.Laws.BytesArg
import Derived.Laws.IdiomStrings
import Derived.Lib.SlBytesConst
import Derived.Deep.CutRange
import Derived.RegionTactic
import Derived.BigRegion

/-
  Packets whose words are changed (stage 15, written ahead): plain lists: what a change does to a header's sum, to a payload's, to all other bytes. Nothing of the program.
-/
namespace Go.Proofs.YtoegfgbalcholaaGreat
set_option maxRecDepth 10000
set_option linter.unusedSimpArgs false
set_option linter.unusedVariables false

theorem take_lay_lo (b : List Int) (k H : Nat) (n : Int) (h : k < H) : (layL b k n).take (2 * H) = layL (b.take (2 * H)) k n := by
  unfold layL
  rw [List.take_set, List.take_set]
theorem take_lay_hi (b : List Int) (k H : Nat) (n : Int) (h : H ≤ k) : (layL b k n).take (2 * H) = b.take (2 * H) := by
  unfold layL
  rw [List.take_set, List.take_set, List.set_eq_of_length_le (by rw [List.length_set, List.length_take]; omega), List.set_eq_of_length_le (by rw [List.length_take]; omega)]
theorem drop_lay_hi (b : List Int) (k H : Nat) (n : Int) (h : H ≤ k) : (layL b k n).drop (2 * H) = layL (b.drop (2 * H)) (k - H) n := by
  unfold layL
  rw [List.drop_set, if_neg (by omega), List.drop_set, if_neg (by omega), show 2 * k - 2 * H = 2 * (k - H) by omega, show 2 * k + 1 - 2 * H = 2 * (k - H) + 1 by omega]
theorem drop_lay_lo (b : List Int) (k H : Nat) (n : Int) (h : k < H) : (layL b k n).drop (2 * H) = b.drop (2 * H) := by
  unfold layL
  rw [List.drop_set, if_pos (by omega), List.drop_set, if_pos (by omega)]
theorem wordL_take (b : List Int) (k H : Nat) (h : k < H) : wordL (b.take (2 * H)) k = wordL b k := by
  unfold wordL
  simp only [List.getD]
  rw [List.getElem?_take_of_lt (by omega), List.getElem?_take_of_lt (by omega)]
theorem wordL_drop (b : List Int) (k H : Nat) (h : H ≤ k) : wordL (b.drop (2 * H)) (k - H) = wordL b k := by
  unfold wordL
  simp only [List.getD, List.getElem?_drop]
  rw [show 2 * H + 2 * (k - H) = 2 * k by omega, show 2 * H + (2 * (k - H) + 1) = 2 * k + 1 by omega]
theorem getD_lay (b : List Int) (k i : Nat) (n : Int) (h : i / 2 ≠ k) : (layL b k n).getD i 0 = b.getD i 0 := by
  unfold layL
  simp only [List.getD]
  rw [List.getElem?_set_ne (by omega), List.getElem?_set_ne (by omega)]
theorem getD_lay_at (b : List Int) (k i : Nat) (n : Int) (h : i / 2 = k) (hl : 2 * k + 1 < b.length) : (layL b k n).getD i 0 = if i % 2 = 0 then n / 256 else n % 256 := by
  unfold layL
  simp only [List.getD]
  by_cases h2 : i % 2 = 0
  · rw [if_pos h2, List.getElem?_set_ne (by omega), show i = 2 * k by omega, List.getElem?_set_self (by omega)]
    rfl
  · rw [if_neg h2, show i = 2 * k + 1 by omega, List.getElem?_set_self (by rw [List.length_set]; omega)]
    rfl
/-- What a field becomes. -/
def fixP (pr f was n : Int) : Int := if pr ≠ 6 ∧ wordF f was n = 0 then 65535 else wordF f was n
theorem fixP_bd (pr : Int) {f was n : Int} (hf : U16 f) (ha : U16 was) (hb : U16 n) : U16 (fixP pr f was n) := by
  unfold fixP
  split
  · exact ⟨by omega, by omega⟩
  · exact wordF_bd f was n hf ha hb
theorem fixP_mod (pr f was n : Int) : fixP pr f was n % 65535 = (f + was - n) % 65535 := by
  have h := wordF_mod f was n
  unfold fixP
  split
  · rename_i hc
    rw [hc.2] at h
    omega
  · exact h
theorem fixP_nz {pr f was n : Int} (hp : pr ≠ 6) : fixP pr f was n ≠ 0 := by
  unfold fixP
  by_cases h : wordF f was n = 0
  · rw [if_pos ⟨hp, h⟩]; omega
  · rw [if_neg (fun hc => h hc.2)]; exact h
/-- A word of a packet's bytes becomes another one, and its fields follow: H: how many words its header has; F: the word of the payload's field. -/
def headW (H : Nat) (b : List Int) (k : Nat) (n : Int) : List Int := if k < H then layL (layL b k n) 5 (wordF (wordL (layL b k n) 5) (wordL b k) n) else layL b k n
def overW (pr : Int) (H k : Nat) : Prop := H ≤ k ∨ (6 ≤ k ∧ k ≤ 9 ∧ pr ≠ 1)
instance (pr : Int) (H k : Nat) : Decidable (overW pr H k) := by unfold overW; infer_instance
def chW (pr : Int) (H F : Nat) (b : List Int) (k : Nat) (n : Int) : List Int :=
  if overW pr H k ∧ ¬ (pr = 17 ∧ wordL (headW H b k n) F = 0) then layL (headW H b k n) F (fixP pr (wordL (headW H b k n) F) (wordL b k) n) else headW H b k n
def adW (b : List Int) : Int := wordL b 6 + wordL b 7 + wordL b 8 + wordL b 9
def totW (pr : Int) (H : Nat) (b : List Int) : Int := (if pr = 1 then 0 else adW b) + ws false (b.drop (2 * H))
/-- Where things stand. -/
structure LayW (H F : Nat) (b : List Int) : Prop where
  byte : Bytes b
  h10 : 10 ≤ H
  hF : H ≤ F
  len : 2 * F + 1 < b.length
/-- What changes, and what stays. -/
structure SameW (pr : Int) (H F : Nat) (b b' : List Int) : Prop where
  lay : LayW H F b'
  len : b'.length = b.length
  h : (ws false (b'.take (2 * H)) - ws false (b.take (2 * H))) % 65535 = 0
  p : ¬ (pr = 17 ∧ wordL b F = 0) → (totW pr H b' - totW pr H b) % 65535 = 0
  z : pr = 17 → wordL b F = 0 → wordL b' F = 0
  nz : pr = 17 → wordL b F ≠ 0 → wordL b' F ≠ 0
  i : pr = 1 → b'.drop (2 * H) = b.drop (2 * H) ∨ wordL b' F ≠ 0
theorem SameW.refl {pr : Int} {H F : Nat} {b : List Int} (h : LayW H F b) : SameW pr H F b b := ⟨h, rfl, by simp, fun _ => by simp, fun _ h => h, fun _ h => h, fun _ => .inl rfl⟩
theorem SameW.trans {pr : Int} {H F : Nat} {a b c : List Int} (h : SameW pr H F a b) (k : SameW pr H F b c) : SameW pr H F a c := by
  refine ⟨k.lay, k.len.trans h.len, ?_, fun hn => ?_, fun hp h0 => k.z hp (h.z hp h0), fun hp h0 => k.nz hp (h.nz hp h0), fun hp => ?_⟩
  · have := h.h; have := k.h; omega
  · have h1 := h.p hn
    have h2 := k.p (fun hc => by
      by_cases h0 : wordL a F = 0
      · exact hn ⟨hc.1, h0⟩
      · exact h.nz hc.1 h0 hc.2)
    omega
  · rcases k.i hp with e | e
    · rcases h.i hp with e2 | e2
      · exact .inl (e.trans e2)
      · refine .inr (fun hz => e2 ?_)
        have hF := h.lay.hF
        rw [← wordL_drop b F H hF, ← e, wordL_drop c F H hF]
        exact hz
    · exact .inr e
theorem headW_lay {H F : Nat} {b : List Int} (h : LayW H F b) (k : Nat) {n : Int} (hn : U16 n) : LayW H F (headW H b k n) ∧ (headW H b k n).length = b.length := by
  have hw := wordL_bd h.byte k
  have h5 := wordL_bd (layL_byte h.byte k hn) 5
  have hl := h.len
  unfold headW
  split
  · exact ⟨⟨layL_byte (layL_byte h.byte k hn) 5 (wordF_bd _ _ _ h5 hw hn), h.h10, h.hF, by rw [layL_len, layL_len]; exact hl⟩, by rw [layL_len, layL_len]⟩
  · exact ⟨⟨layL_byte h.byte k hn, h.h10, h.hF, by rw [layL_len]; exact hl⟩, layL_len _ _ _⟩
theorem headW_sum {H F : Nat} {b : List Int} (h : LayW H F b) {k : Nat} {n : Int} (hn : U16 n) (h5 : k ≠ 5) : (ws false ((headW H b k n).take (2 * H)) - ws false (b.take (2 * H))) % 65535 = 0 := by
  have hl := h.len
  have hF := h.hF
  have h10 := h.h10
  unfold headW
  by_cases hk : k < H
  · rw [if_pos hk]
    have e1 : wordL (layL b k n) 5 = wordL b 5 := wordL_lay_other b k 5 n h5
    rw [e1, take_lay_lo _ 5 H _ (by omega), take_lay_lo _ k H _ hk]
    have hlt : (b.take (2 * H)).length = 2 * H := by rw [List.length_take]; omega
    rw [ws_lay _ 5 _ (by rw [layL_len, hlt]; omega), ws_lay _ k _ (by rw [hlt]; omega), wordL_lay_other _ k 5 n h5, wordL_take b k H hk, wordL_take b 5 H (by omega)]
    have := wordF_mod (wordL b 5) (wordL b k) n
    omega
  · rw [if_neg hk, take_lay_hi _ _ _ _ (by omega)]
    simp
theorem headW_drop {H : Nat} {b : List Int} {k : Nat} {n : Int} (h10 : 10 ≤ H) : (headW H b k n).drop (2 * H) = if k < H then b.drop (2 * H) else layL (b.drop (2 * H)) (k - H) n := by
  unfold headW
  by_cases hk : k < H
  · rw [if_pos hk, if_pos hk, drop_lay_lo _ 5 H _ (by omega), drop_lay_lo _ k H _ hk]
  · rw [if_neg hk, if_neg hk, drop_lay_hi _ _ _ _ (by omega)]
theorem headW_word {H : Nat} {b : List Int} {k : Nat} {n : Int} {j : Nat} (hj5 : j ≠ 5) (hjk : j ≠ k) : wordL (headW H b k n) j = wordL b j := by
  unfold headW
  split
  · rw [wordL_lay_other _ 5 j _ (fun e => hj5 e.symm), wordL_lay_other _ k j _ (fun e => hjk e.symm)]
  · rw [wordL_lay_other _ k j _ (fun e => hjk e.symm)]
theorem headW_at {H : Nat} {b : List Int} {k : Nat} {n : Int} (h5 : k ≠ 5) (hl : 2 * k + 1 < b.length) : wordL (headW H b k n) k = n := by
  unfold headW
  split
  · rw [wordL_lay_other _ 5 k _ (fun e => h5 e.symm), wordL_lay_same _ _ _ hl]
  · rw [wordL_lay_same _ _ _ hl]
theorem headW_ad {H : Nat} {b : List Int} {k : Nat} {n : Int} (h5 : k ≠ 5) (hl : 2 * k + 1 < b.length) : adW (headW H b k n) = if 6 ≤ k ∧ k ≤ 9 then adW b - wordL b k + n else adW b := by
  have key : ∀ j, j ≠ 5 → wordL (headW H b k n) j = if j = k then n else wordL b j := fun j hj => by
    by_cases e : j = k
    · rw [if_pos e, e]; exact headW_at h5 hl
    · rw [if_neg e]; exact headW_word hj e
  unfold adW
  rw [key 6 (by omega), key 7 (by omega), key 8 (by omega), key 9 (by omega)]
  by_cases hk : 6 ≤ k ∧ k ≤ 9
  · rw [if_pos hk]
    have : k = 6 ∨ k = 7 ∨ k = 8 ∨ k = 9 := by omega
    rcases this with rfl | rfl | rfl | rfl <;> simp <;> omega
  · rw [if_neg hk, if_neg (by omega), if_neg (by omega), if_neg (by omega), if_neg (by omega)]
theorem chW_same {pr : Int} {H F : Nat} {b : List Int} (h : LayW H F b) {k : Nat} {n : Int} (hn : U16 n) (h5 : k ≠ 5) (hkF : k ≠ F) (hl : 2 * k + 1 < b.length) : SameW pr H F b (chW pr H F b k n) := by
  obtain ⟨hL, hlen⟩ := headW_lay h k hn
  have hF := h.hF
  have h10 := h.h10
  have hFl := h.len
  have hFw : wordL (headW H b k n) F = wordL b F := headW_word (by omega) (fun e => hkF e.symm)
  have hw := wordL_bd h.byte k
  have hfw := wordL_bd h.byte F
  have hs := headW_sum h hn h5
  have hdl : (b.drop (2 * H)).length = b.length - 2 * H := List.length_drop
  -- the total ahead of the field's own change
  have htot : totW pr H (headW H b k n) = totW pr H b + (if overW pr H k then n - wordL b k else 0) := by
    unfold totW
    rw [headW_drop h10, headW_ad h5 hl]
    by_cases hkH : k < H
    · rw [if_pos hkH]
      by_cases hp : pr = 1
      · rw [if_pos hp, if_pos hp, if_neg (show ¬ overW pr H k by unfold overW; omega)]; omega
      · rw [if_neg hp, if_neg hp]
        by_cases hk : 6 ≤ k ∧ k ≤ 9
        · rw [if_pos hk, if_pos (show overW pr H k from .inr ⟨hk.1, hk.2, hp⟩)]; omega
        · rw [if_neg hk, if_neg (show ¬ overW pr H k by unfold overW; omega)]; omega
    · rw [if_neg hkH, if_neg (by omega : ¬ (6 ≤ k ∧ k ≤ 9)), if_pos (show overW pr H k from .inl (by omega)), ws_lay _ _ _ (by rw [hdl]; omega), wordL_drop b k H (by omega)]
      omega
  unfold chW
  rw [hFw]
  by_cases hc : overW pr H k ∧ ¬ (pr = 17 ∧ wordL b F = 0)
  · rw [if_pos hc]
    rw [if_pos hc.1] at htot
    have hfx := fixP_bd pr hfw hw hn
    have hmod := fixP_mod pr (wordL b F) (wordL b k) n
    have hsame : wordL (layL (headW H b k n) F (fixP pr (wordL b F) (wordL b k) n)) F = fixP pr (wordL b F) (wordL b k) n := wordL_lay_same _ _ _ hL.len
    refine ⟨⟨layL_byte hL.byte F hfx, h10, hF, by rw [layL_len]; exact hL.len⟩, by rw [layL_len, hlen], ?_, fun _ => ?_, fun hp h0 => absurd ⟨hp, h0⟩ hc.2, fun hp _ => ?_, fun hp => .inr ?_⟩
    · rw [take_lay_hi _ _ _ _ hF]; exact hs
    · have e : totW pr H (layL (headW H b k n) F (fixP pr (wordL b F) (wordL b k) n)) = totW pr H (headW H b k n) - wordL b F + fixP pr (wordL b F) (wordL b k) n := by
        unfold totW
        rw [drop_lay_hi _ _ _ _ hF, ws_lay _ _ _ (by rw [List.length_drop, hlen]; omega), wordL_drop _ F H hF, hFw]
        have ead : adW (layL (headW H b k n) F (fixP pr (wordL b F) (wordL b k) n)) = adW (headW H b k n) := by
          unfold adW
          rw [wordL_lay_other _ F 6 _ (by omega), wordL_lay_other _ F 7 _ (by omega), wordL_lay_other _ F 8 _ (by omega), wordL_lay_other _ F 9 _ (by omega)]
        rw [ead]
        omega
      rw [e, htot]
      omega
    · rw [hsame]
      exact fixP_nz (by omega)
    · rw [hsame]
      exact fixP_nz (by omega)
  · rw [if_neg hc]
    refine ⟨hL, hlen, hs, fun hnz => ?_, fun _ h0 => by rw [hFw]; exact h0, fun _ h0 => by rw [hFw]; exact h0, fun hp => .inl ?_⟩
    · rw [htot, if_neg (fun ho => hc ⟨ho, hnz⟩)]
      simp
    · have hno : ¬ overW pr H k := fun ho => hc ⟨ho, fun h => by omega⟩
      have hkH : k < H := by unfold overW at hno; omega
      rw [headW_drop h10, if_pos hkH]
/-- All other bytes: as they were, or the word's own. -/
theorem chW_byte {pr : Int} {H F : Nat} {b : List Int} {k : Nat} {n : Int} {i : Nat} (hi5 : i / 2 ≠ 5) (hiF : i / 2 ≠ F) (hik : i / 2 ≠ k) : (chW pr H F b k n).getD i 0 = b.getD i 0 := by
  have h1 : (headW H b k n).getD i 0 = b.getD i 0 := by
    unfold headW
    split
    · rw [getD_lay _ _ _ _ hi5, getD_lay _ _ _ _ hik]
    · rw [getD_lay _ _ _ _ hik]
  unfold chW
  split
  · rw [getD_lay _ _ _ _ hiF, h1]
  · exact h1
theorem chW_at {pr : Int} {H F : Nat} {b : List Int} {k : Nat} {n : Int} {i : Nat} (h5 : k ≠ 5) (hkF : k ≠ F) (hik : i / 2 = k) (hl : 2 * k + 1 < b.length) : (chW pr H F b k n).getD i 0 = if i % 2 = 0 then n / 256 else n % 256 := by
  have h1 : (headW H b k n).getD i 0 = if i % 2 = 0 then n / 256 else n % 256 := by
    unfold headW
    split
    · rw [getD_lay _ _ _ _ (by omega), getD_lay_at _ _ _ _ hik hl]
    · rw [getD_lay_at _ _ _ _ hik hl]
  unfold chW
  split
  · rw [getD_lay _ _ _ _ (by omega), h1]
  · exact h1
end Go.Proofs.YtoegfgbalcholaaGreat

/-
  A slice of bytes that reads as a list of numbers ('Rd'), opened where it comes in; small words of every stage. No function of the program.
-/
namespace Go.Proofs.YtoegfgbalcholaaGreat
set_option maxRecDepth 10000
open Go.ChangeShapes Go.WideShapes Go.ChangeAt Go.RowKit

/-- The slice value '.slice A n _' holds the bytes l, in memory that is there. -/
structure Rd (w : World) (A : Option Addr) (n : Nat) (l : List Int) : Prop where
  len : l.length = n
  byte : ∀ x ∈ l, 0 ≤ x ∧ x < 256
  at_ : 0 < n → ∃ b o, A = some ⟨b, o, none⟩ ∧ b < w.heap.size ∧ ∀ i, i < n → w.cell? ⟨b, o + i, none⟩ = some (.int .u8 (l.getD i 0))

theorem Rd.nil (w : World) (A : Option Addr) : Rd w A 0 [] := ⟨rfl, by simp, fun h => absurd h (by omega)⟩
theorem Rd.below {w w' : World} {A : Option Addr} {n : Nat} {l : List Int} (h : Rd w A n l) (hb : Below w.heap.size w w') : Rd w' A n l :=
  ⟨h.len, h.byte, fun hn => by
    obtain ⟨b, o, e, hlt, hc⟩ := h.at_ hn
    exact ⟨b, o, e, Nat.lt_of_lt_of_le hlt hb.size, fun i hi => by rw [hb.cell (p := ⟨b, o + i, none⟩) hlt]; exact hc i hi⟩⟩
theorem Rd.drew {w : World} {A : Option Addr} {n : Nat} {l : List Int} (h : Rd w A n l) (k : Nat) : Rd { w with drawn := k } A n l := ⟨h.len, h.byte, h.at_⟩
theorem Rd.take {w : World} {A : Option Addr} {n k : Nat} {l : List Int} (h : Rd w A n l) (hk : k ≤ n) : Rd w A k (l.take k) := by
  refine ⟨by rw [List.length_take, h.len]; omega, fun x hx => h.byte x (List.mem_of_mem_take hx), fun hn => ?_⟩
  obtain ⟨b, o, e, hlt, hc⟩ := h.at_ (by omega)
  refine ⟨b, o, e, hlt, fun i hi => ?_⟩
  rw [hc i (by omega)]
  simp [List.getD, List.getElem?_take_of_lt hi]
/-- A row that the call made. -/
theorem Rd.row {w : World} {g : Nat} {l : List Int} {t : TypeId} (hg : w.heap[g]? = some (.cells (l.map (Value.int .u8)).toArray t (0, 0))) (hl : ∀ x ∈ l, 0 ≤ x ∧ x < 256) : Rd w (some ⟨g, 0, none⟩) l.length l := by
  refine ⟨rfl, hl, fun _ => ⟨g, 0, rfl, ?_, fun i hi => ?_⟩⟩
  · rcases Nat.lt_or_ge g w.heap.size with h | h
    · exact h
    · rw [Array.getElem?_eq_none h] at hg; cases hg
  · simp [World.cell?, hg, List.getD, List.getElem?_eq_getElem hi]

theorem nums_inj : ∀ (a b : List Int), (∀ x ∈ a, 0 ≤ x ∧ x < 256) → (∀ x ∈ b, 0 ≤ x ∧ x < 256) → a.map (fun n => UInt8.ofNat n.toNat) = b.map (fun n => UInt8.ofNat n.toNat) → a = b
  | [], [], _, _, _ => rfl
  | [], _ :: _, _, _, h => by simp at h
  | _ :: _, [], _, _, h => by simp at h
  | x :: xs, y :: ys, ha, hb, h => by
    simp only [List.map_cons, List.cons.injEq] at h
    have h1 := ha x (by simp)
    have h2 := hb y (by simp)
    have h3 : (UInt8.ofNat x.toNat).toNat = (UInt8.ofNat y.toNat).toNat := by rw [h.1]
    have e1 : (UInt8.ofNat x.toNat).toNat = x.toNat := by simp; omega
    have e2 : (UInt8.ofNat y.toNat).toNat = y.toNat := by simp; omega
    have : x = y := by omega
    rw [this, nums_inj xs ys (fun z hz => ha z (by simp [hz])) (fun z hz => hb z (by simp [hz])) h.2]

theorem conv_rd {w : World} {A : Option Addr} {n : Nat} {l : List Int} (h : Rd w A n l) (c : Nat) :
    (convert 24 9 (.slice A n c)).run Tryz.prog w = .ok (.string (strOfNums l)) w := by
  rcases Nat.eq_zero_or_pos n with h0 | h0
  · subst h0
    have hl : l = [] := List.eq_nil_of_length_eq_zero h.len
    subst hl
    cases A with
    | none => exact run_convert_bytes_nil (P := Tryz.prog) w 24 5 Tryz.underlying24 Tryz.underlying5 0 c 9 Tryz.underlying9
    | some a =>
      rw [run_convert_bytes_string (P := Tryz.prog) w 24 9 5 _ 0 c Tryz.underlying24 Tryz.underlying5 Tryz.underlying9]
      have hl : (loadCells a 0).run Tryz.prog w = .ok #[] w := by simpa using run_loadCells_list (P := Tryz.prog) w a [] (by simp)
      have := run_bytesToString (P := Tryz.prog) w a 0 c [] hl
      rw [this]
      rfl
  · obtain ⟨b, o, rfl, _, hc⟩ := h.at_ h0
    exact run_convert_bytes_arg (P := Tryz.prog) w 24 5 Tryz.underlying24 Tryz.underlying5 b o n c l h.len hc 9 Tryz.underlying9

theorem ret_int {k : IntKind} {a b : Int} (h : a = b) : Ending.returned (.int k a) = .returned (.int k b) := by rw [h]
theorem ret_bool {a b : Bool} (h : a = b) : Ending.returned (.bool a) = .returned (.bool b) := by rw [h]
theorem below_trans {a b c : World} (h : Below a.heap.size a b) (k : Below b.heap.size b c) : Below a.heap.size a c := h.trans (k.mono h.size)

/-- A constant's bytes, as the walk lays them. -/
theorem Rd.const (w : World) (l : List Int) (t : TypeId) (fr : Nat × Nat) (hl : ∀ x ∈ l, 0 ≤ x ∧ x < 256) : Rd (w.alloc (.cells (l.map (Value.int .u8)).toArray t fr)) (some ⟨w.heap.size, 0, none⟩) l.length l := by
  refine ⟨rfl, hl, fun _ => ⟨w.heap.size, 0, rfl, by simp, fun i hi => ?_⟩⟩
  rw [World.cell?_alloc_mark]
  simp [List.getD, List.getElem?_eq_getElem hi]

/-- A slice of bytes that came in. -/
theorem rd_open {H : Type} {enc : TypeId × Value → H} {W : World} {n0 : Nat} {v : Value} {y : DataW H × List MemPlace}
    (h : DataW.trod enc Tryz.prog W 0 (fun _ => true) true n0 24 [v] = some y) : ∃ A n c l, v = .slice A n c ∧ n ≤ c ∧ c ≤ maxLen ∧ Rd W A n l := by
  rcases open_ints Tryz.underlying24 Tryz.underlying5 (by kernel_rfl) h with ⟨hcs, _⟩ | ⟨x, len, cap, zs, hcs, _, hl, hm, hz, _, hcell, hwz⟩
  · simp at hcs
    exact ⟨none, 0, 0, [], hcs, Nat.le_refl _, by simp [maxLen], Rd.nil _ _⟩
  · simp at hcs
    refine ⟨some x, len, cap, zs.take len, hcs, hl, hm, ?_, ?_, ?_⟩
    · rw [List.length_take]; simp at hz; omega
    · intro z hz'
      have := bounds_u8 (hwz z (List.mem_of_mem_take hz'))
      omega
    · intro h0
      simp at hz
      obtain ⟨b, o, rfl, hc⟩ := ints_at hcell (by omega)
      refine ⟨b, o, rfl, ?_, fun i hi => ?_⟩
      · exact World.block_lt_of_cell? W _ (hc 0 (by omega))
      · rw [hc i (by omega)]
        simp [List.getD, List.getElem?_take_of_lt hi]

/-- One element's address and what lies there. -/
theorem Rd.index {w : World} {A : Option Addr} {n c : Nat} {l : List Int} (h : Rd w A n l) {j : Nat} (hj : j < n) :
    ∃ p, (∀ W : World, (Instr.indexAt 24 (.slice A n c) (.int .i64 (j : Int))).run Tryz.prog W = .ok (.pointer (some p)) W) ∧ w.cell? p = some (.int .u8 (l.getD j 0)) ∧ p.block < w.heap.size := by
  obtain ⟨b, o, rfl, hb, hc⟩ := h.at_ (by omega)
  have h0 : (0 : Int) ≤ (j : Int) := by omega
  have h1 : (j : Int) < (n : Int) := by omega
  exact ⟨⟨b, o + j, none⟩, fun W => by go_simp, hc j hj, hb⟩

end Go.Proofs.YtoegfgbalcholaaGreat

/-
  A slice of ints that reads as a list.
-/
namespace Go.Proofs.YtoegfgbalcholaaGreat
set_option maxRecDepth 10000
open Go.RowKit

/-- A slice of ints. -/
structure RdI (w : World) (A : Option Addr) (n : Nat) (l : List Int) : Prop where
  len : l.length = n
  at_ : 0 < n → ∃ b o, A = some ⟨b, o, none⟩ ∧ b < w.heap.size ∧ ∀ i, i < n → w.cell? ⟨b, o + i, none⟩ = some (.int .i64 (l.getD i 0))
theorem RdI.below {w w' : World} {A : Option Addr} {n : Nat} {l : List Int} (h : RdI w A n l) (hb : Below w.heap.size w w') : RdI w' A n l :=
  ⟨h.len, fun hn => by
    obtain ⟨b, o, e, hlt, hc⟩ := h.at_ hn
    exact ⟨b, o, e, Nat.lt_of_lt_of_le hlt hb.size, fun i hi => by rw [hb.cell (p := ⟨b, o + i, none⟩) hlt]; exact hc i hi⟩⟩
theorem RdI.const (w : World) (g : Nat) (hg : w.heap.size = g) (l : List Int) (t : TypeId) (fr : Nat × Nat) : RdI (w.alloc (.cells (l.map (Value.int .i64)).toArray t fr)) (some ⟨g, 0, none⟩) l.length l := by
  subst hg
  refine ⟨rfl, fun _ => ⟨w.heap.size, 0, rfl, by simp, fun i hi => ?_⟩⟩
  rw [World.cell?_alloc_mark]
  simp [List.getD, List.getElem?_eq_getElem hi]
end Go.Proofs.YtoegfgbalcholaaGreat

/-
  The contracts of cmp.Compare and cmp.Or.
-/
namespace Go.Proofs.YtoegfgbalcholaaGreat
set_option maxRecDepth 10000
open Go.RowKit
set_option linter.unusedSimpArgs false
set_option linter.unusedVariables false

def two (a b : Int) (z : Int) : Int := if a < b then -1 else if b < a then 1 else z
end Go.Proofs.YtoegfgbalcholaaGreat
